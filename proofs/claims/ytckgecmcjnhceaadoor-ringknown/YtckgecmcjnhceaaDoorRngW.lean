/- What the laws without the document's answer ask: rows of slots, laid as rings; whether a slot is well linked. -/
import Derived.Test.YtckgecmcjnhceaaDoorRngA
namespace Go.Proofs.YtckgecmcjnhceaaDoor
set_option linter.ambiguousOpen false
open Go.RowKit
namespace Rg
open An Ft Lv
set_option linter.unusedSimpArgs false
set_option linter.unusedVariables false

/-- The arena, all above what was there; the blocks of R are none of it. -/
def Sr (Rep : World → Nat → (Nat → Prop) → Arn → Prop) (w0 w : World) (p : Nat) (A : Arn) (R : Nat → Prop) : Prop :=
  ∃ F, Rep w p F A ∧ An.Good A ∧ (∀ k, F k → w0.heap.size ≤ k) ∧ Below w0.heap.size w0 w ∧ ∀ k, R k → ¬ F k ∧ k < w.heap.size

/-- All that R has stays. -/
@[reducible] def Kp (R : Nat → Prop) (w w' : World) : Prop := Keep (fun k => ¬ R k) w w'

section
variable {Rep : World → Nat → (Nat → Prop) → Arn → Prop} {w0 w w' : World} {p : Nat} {A A' : Arn} {R R' : Nat → Prop}

theorem Sr.bel (h : Sr Rep w0 w p A R) : Below w0.heap.size w0 w := by
  obtain ⟨F, _, _, _, h4, _⟩ := h
  exact h4

theorem Sr.good (h : Sr Rep w0 w p A R) : An.Good A := by
  obtain ⟨F, _, h2, _⟩ := h
  exact h2

theorem Sr.below (H : KeepC Rep) (h : Sr Rep w0 w p A R) (hb : Below w.heap.size w w') : Sr Rep w0 w' p A R := by
  obtain ⟨F, h1, h2, h3, h4, h5⟩ := h
  exact ⟨F, H.below h1 hb, h2, h3, h4.trans (hb.mono h4.size), fun k hk => ⟨(h5 k hk).1, Nat.lt_of_lt_of_le (h5 k hk).2 hb.size⟩⟩

/-- New blocks may be put under R. -/
theorem Sr.more (H : KeepC Rep) (h : Sr Rep w0 w p A R) (hb : Below w.heap.size w w') (hR : ∀ k, R' k → R k ∨ (w.heap.size ≤ k ∧ k < w'.heap.size)) : Sr Rep w0 w' p A R' := by
  obtain ⟨F, h1, h2, h3, h4, h5⟩ := h
  refine ⟨F, H.below h1 hb, h2, h3, h4.trans (hb.mono h4.size), fun k hk => ?_⟩
  rcases hR k hk with h6 | ⟨h6, h7⟩
  · exact ⟨(h5 k h6).1, Nat.lt_of_lt_of_le (h5 k h6).2 hb.size⟩
  · exact ⟨fun e => by have := H.lt h1 k e; omega, h7⟩

theorem Kp.of_below (hb : Below w.heap.size w w') : Kp R w w' := Keep.of_below hb

theorem Kp.trans {a : World} (h : Kp R w a) (k : Kp R a w') : Kp R w w' := Keep.trans h k (fun _ _ h => h)
end

section
variable {Rep : World → Nat → (Nat → Prop) → Arn → Prop}

theorem sr_left {w0 w w' : World} {p : Nat} {A' : Arn} {R F : Nat → Prop} (h3 : ∀ k, F k → w0.heap.size ≤ k) (h4 : Below w0.heap.size w0 w) (h5 : ∀ k, R k → ¬ F k ∧ k < w.heap.size) (hg : An.Good A') (hl : An.Left Rep w w' p F A') : Sr Rep w0 w' p A' R ∧ Kp R w w' := by
  obtain ⟨F', g1, g2, g3⟩ := hl
  refine ⟨⟨F', g1, hg, fun k hk => ?_, h4.trans (g2.below (fun k hk hc => by have := h3 k hc; omega) h4.size), fun k hk => ⟨fun e => ?_, Nat.lt_of_lt_of_le (h5 k hk).2 g2.size⟩⟩, g2.weaken (fun k _ hF hR => (h5 k hR).1 hF)⟩
  · rcases g3 k hk with e | e
    · exact h3 k e
    · exact Nat.le_trans h4.size e
  · rcases g3 k e with e | e
    · exact (h5 k hk).1 e
    · have := (h5 k hk).2
      omega

theorem push_sr (CP : PushC Rep) (w0 w : World) (p : Nat) (A : Arn) (R : Nat → Prop) (l : List Nat) (i : Nat) (h : Sr Rep w0 w p A R) (hw : A.wr ≤ 999999990) (hr : Ring A.sl l) (hi : i < 32) (hn : i ∉ l) :
    Calls Tryd.prog 31 #[ptr p, nu (lastI l), nun i] w fun e w' => e = .returned (.tuple #[nun i, .nilIface]) ∧ ∃ A', A'.wr ≤ A.wr + 3 ∧ A'.fr = A.fr ∧ Ring A'.sl (l ++ [i]) ∧ (∀ m, Ring A.sl m → (∀ x ∈ m, x ∉ l ∧ x ≠ i) → Ring A'.sl m) ∧ Sr Rep w0 w' p A' R ∧ Kp R w w' := by
  obtain ⟨F, h1, h2, h3, h4, h5⟩ := h
  obtain ⟨S', e1, e2, e3, e4⟩ := hr.push h2.len hi hn
  have hb : I64 (lastI l) := by
    cases hz : l.getLast? with
    | none =>
      obtain rfl := List.getLast?_eq_none_iff.1 hz
      exact ⟨by decide, by decide⟩
    | some z =>
      rw [lastI_some hz]
      have := hr.lt z (mem_last hz)
      exact ⟨by omega, by omega⟩
  have := CP w p F A (lastI l) i h1 h2 hw hb ⟨by omega, by omega⟩
  rw [e1] at this
  refine this.mono ?_
  rintro e w' ⟨rfl, n, hn3, _, hl⟩
  refine ⟨rfl, ⟨S', A.fr, A.wr + n⟩, Nat.add_le_add_left hn3 _, rfl, e3, e4, ?_⟩
  exact sr_left h3 h4 h5 (good_sl h2 (e2.trans h2.len.symm)) hl

theorem drop_sr (CD : DropC Rep) (w0 w : World) (p : Nat) (A : Arn) (R : Nat → Prop) (u v : List Nat) (i : Nat) (h : Sr Rep w0 w p A R) (hw : A.wr ≤ 999999990) (hr : Ring A.sl (u ++ i :: v)) :
    Calls Tryd.prog 27 #[ptr p, nu (lastI (u ++ i :: v)), nun i] w fun e w' => e = .returned (.tuple #[nu (lastI (u ++ v)), .nilIface]) ∧ ∃ A', A'.wr ≤ A.wr + 3 ∧ Ring A'.sl (u ++ v) ∧ ¬ Rg.well A'.sl i ∧ (pv A'.sl i = -1 ∧ nx A'.sl i = -1) ∧ Sr Rep w0 w' p A' R ∧ Kp R w w' := by
  obtain ⟨F, h1, h2, h3, h4, h5⟩ := h
  obtain ⟨S', e1, e2, e3, e4, e5, _⟩ := hr.drop h2.len
  have hi := hr.lt i (by simp)
  obtain ⟨z, hz⟩ : ∃ z, (u ++ i :: v).getLast? = some z := ⟨_, List.getLast?_eq_some_getLast (by simp)⟩
  have hb : I64 (lastI (u ++ i :: v)) := by
    rw [lastI_some hz]
    have := hr.lt z (mem_last hz)
    exact ⟨by omega, by omega⟩
  have := CD w p F A (lastI (u ++ i :: v)) i h1 h2 hw hb ⟨by omega, by omega⟩
  rw [e1] at this
  refine this.mono ?_
  rintro e w' ⟨rfl, n, hn3, _, hl⟩
  refine ⟨rfl, ⟨S', A.fr, A.wr + n⟩, Nat.add_le_add_left hn3 _, e3, e4, e5, ?_⟩
  exact sr_left h3 h4 h5 (good_sl h2 (e2.trans h2.len.symm)) hl

theorem splice_sr (CS : SpliceC Rep) (w0 w : World) (p : Nat) (A : Arn) (R : Nat → Prop) (l m : List Nat) (h : Sr Rep w0 w p A R) (hw : A.wr ≤ 999999990) (hr : Ring A.sl l) (hk : Ring A.sl m) (hd : ∀ x ∈ l, x ∉ m) :
    Calls Tryd.prog 29 #[ptr p, nu (lastI l), nu (lastI m)] w fun e w' => e = .returned (.tuple #[nu (lastI (l ++ m)), .nilIface]) ∧ ∃ A', A'.wr ≤ A.wr + 4 ∧ Ring A'.sl (l ++ m) ∧ Sr Rep w0 w' p A' R ∧ Kp R w w' := by
  obtain ⟨F, h1, h2, h3, h4, h5⟩ := h
  obtain ⟨S', e1, e2, e3⟩ := hr.splice h2.len hk hd
  have hb : ∀ q, Ring A.sl q → I64 (lastI q) := fun q hq => by
    cases hz : q.getLast? with
    | none =>
      obtain rfl := List.getLast?_eq_none_iff.1 hz
      exact ⟨by decide, by decide⟩
    | some z =>
      rw [lastI_some hz]
      have := hq.lt z (mem_last hz)
      exact ⟨by omega, by omega⟩
  have := CS w p F A (lastI l) (lastI m) h1 h2 hw (hb l hr) (hb m hk)
  rw [e1] at this
  refine this.mono ?_
  rintro e w' ⟨rfl, n, hn3, _, hl⟩
  refine ⟨rfl, ⟨S', A.fr, A.wr + n⟩, Nat.add_le_add_left hn3 _, e3, ?_⟩
  exact sr_left h3 h4 h5 (good_sl h2 (e2.trans h2.len.symm)) hl

/-- All of a ring. -/
theorem all_sr (H : KeepC Rep) (CA : AllC Rep) (w0 w : World) (p : Nat) (A : Arn) (R : Nat → Prop) (l : List Nat) (h : Sr Rep w0 w p A R) (hr : Ring A.sl l) :
    Calls Tryd.prog 11 #[ptr p, nu (lastI l), nu 99] w fun e w' => ∃ v, e = .returned v ∧ w'.ownsRow w.heap.size 3 1 v l.length (l.map nun) ∧ Below w.heap.size w w' := by
  obtain ⟨F, h1, h2, h3, h4, h5⟩ := h
  have hb : I64 (lastI l) := by
    cases hz : l.getLast? with
    | none =>
      obtain rfl := List.getLast?_eq_none_iff.1 hz
      exact ⟨by decide, by decide⟩
    | some z =>
      rw [lastI_some hz]
      have := hr.lt z (mem_last hz)
      exact ⟨by omega, by omega⟩
  have := all_any H CA w p F A (lastI l) 99 h1 h2 hb (by omega)
  rw [hr.all, List.take_of_length_le (by have := hr.few; omega)] at this
  exact this
end

/-! ### Ints that came in -/

def RdI (w : World) (v : Value) (l : List Int) : Prop :=
  ∃ a cap, v = .slice a l.length cap ∧ l.length ≤ cap ∧ cap ≤ maxLen ∧ (0 < l.length → ∃ g o, a = some ⟨g, o, none⟩ ∧ g < w.heap.size ∧ ∀ k i, l[k]? = some i → w.cell? ⟨g, o + k, none⟩ = some (nu i))

/-- Slots that lie there. -/
def RdO (w : World) (v : Value) (l : List Nat) : Prop :=
  ∃ a cap, v = .slice a l.length cap ∧ l.length ≤ cap ∧ cap ≤ maxLen ∧ (0 < l.length → ∃ g o, a = some ⟨g, o, none⟩ ∧ g < w.heap.size ∧ ∀ k i, l[k]? = some i → w.cell? ⟨g, o + k, none⟩ = some (nun i))

theorem rdO_own {w : World} {base n : Nat} {v : Value} {l : List Nat} (h : w.ownsRow base 3 1 v n (l.map nun)) : RdO w v l := by
  obtain ⟨a, cap, e, h1, h2, h3⟩ := own_rdN h
  refine ⟨a, cap, e, h1, h2, fun h0 => ?_⟩
  obtain ⟨g, rfl, hg, hc⟩ := h3 h0
  exact ⟨g, 0, rfl, hg, fun k i hk => by rw [Nat.zero_add]; exact hc k i hk⟩

/-- The blocks of a slice. -/
def blk (v : Value) (k : Nat) : Prop := match v with
  | .slice (some a) _ _ => k = a.block
  | _ => False

theorem RdO.kept {w w' : World} {v : Value} {l : List Nat} {R : Nat → Prop} (h : RdO w v l) (hk : Kp R w w') (hR : ∀ k, blk v k → R k) : RdO w' v l := by
  obtain ⟨a, cap, rfl, h1, h2, h3⟩ := h
  refine ⟨a, cap, rfl, h1, h2, fun h0 => ?_⟩
  obtain ⟨g, o, rfl, hg, hc⟩ := h3 h0
  exact ⟨g, o, rfl, Nat.lt_of_lt_of_le hg hk.size, fun k i hki => (hk.cell (p := ⟨g, o + k, none⟩) hg (fun e => e (hR g rfl))).trans (hc k i hki)⟩

/-! ### Whether a slot is well linked -/

set_option maxRecDepth 100000 in
set_option maxHeartbeats 4000000 in
theorem well_any {Rep : World → Nat → (Nat → Prop) → Arn → Prop} (H : KeepC Rep) (CG : GetC Rep) (w0 w : World) (p : Nat) (A : Arn) (R : Nat → Prop) (i : Nat) (h : Sr Rep w0 w p A R) (hi : i < 32) (hI : I64 (pv A.sl i) ∧ I64 (nx A.sl i)) :
    Calls Tryd.prog 62 #[ptr p, nun i] w fun e w' => e = .returned (.bool (decide (well A.sl i))) ∧ Below w.heap.size w w' := by
  obtain ⟨F, h1, h2, _⟩ := h
  obtain ⟨r, hr⟩ : ∃ r, decide (well A.sl i) = r := ⟨_, rfl⟩
  rw [hr]
  have cG : Hid (∀ wx j, Below w.heap.size w wx → I64 j → Calls Tryd.prog 24 #[ptr p, nu j] wx fun e w' => e = .returned (.tuple #[(A.at j).v, errE (Arn.atE j)]) ∧ Below wx.heap.size wx w') := fun wx j hb hj => CG wx p F A j (H.below h1 hb) h2 hj
  obtain ⟨x, hx⟩ : ∃ x, A.sl.getD i bare = x := ⟨_, rfl⟩
  have C1 := Hid.mk' (cG.out w i (Below.refl _ _) ⟨by omega, by omega⟩)
  rw [(at_in A i hi).1, (at_in A i hi).2, hx] at C1
  simp only [show errE 0 = .nilIface from rfl] at C1
  have hpv : pv A.sl i = x.prev := by unfold pv; rw [Int.toNat_natCast, hx]
  have hnx : nx A.sl i = x.next := by unfold nx; rw [Int.toNat_natCast, hx]
  obtain ⟨b1, b2⟩ := hI
  rw [hpv] at b1
  rw [hnx] at b2
  have HW : well A.sl i ↔ (there x.prev ∧ there x.next ∧ nx A.sl x.prev = i ∧ pv A.sl x.next = i) := by
    unfold well
    rw [hpv, hnx]
    exact ⟨fun h => h.2, fun h => ⟨by omega, h⟩⟩
  obtain ⟨y, hy⟩ : ∃ y, A.at x.prev = y := ⟨_, rfl⟩
  obtain ⟨z, hz⟩ : ∃ z, A.at x.next = z := ⟨_, rfl⟩
  have C2 : Hid (∀ wx, Below w.heap.size w wx → _) := fun wx hb => cG.out wx x.prev hb b1
  have C3 : Hid (∀ wx, Below w.heap.size w wx → _) := fun wx hb => cG.out wx x.next hb b2
  rw [hy] at C2
  rw [hz] at C3
  obtain ⟨ey, hey⟩ : ∃ ey, errE (Arn.atE x.prev) = ey := ⟨_, rfl⟩
  obtain ⟨ez, hez⟩ : ∃ ez, errE (Arn.atE x.next) = ez := ⟨_, rfl⟩
  rw [hey] at C2
  rw [hez] at C3
  have hny : there x.prev → nx A.sl x.prev = y.next := fun h => by rw [← hy]; unfold nx Arn.at; rw [if_pos h]
  have hpz : there x.next → pv A.sl x.next = z.prev := fun h => by rw [← hz]; unfold pv Arn.at; rw [if_pos h]
  have E1 : ∀ j, there j → errE (Arn.atE j) = .nilIface := fun j h => by unfold Arn.atE; rw [if_pos h]; rfl
  have E2 : ∀ j, ¬ there j → errE (Arn.atE j) = noE 1 := fun j h => by unfold Arn.atE; rw [if_neg h]; rfl
  have HRR : Hid (r = decide (there x.prev ∧ there x.next ∧ nx A.sl x.prev = i ∧ pv A.sl x.next = i)) := by
    show r = _
    rw [← hr]
    exact decide_eq_decide.2 HW
  clear H CG h1 h2 hr hx hpv hnx HW hy hz cG b1 b2
  by_cases t1 : there x.prev
  · rw [E1 _ t1] at hey
    subst hey
    by_cases t2 : there x.next
    · rw [E1 _ t2] at hez
      subst hez
      have hny' := hny t1
      have hpz' := hpz t2
      rw [hny', hpz'] at HRR
      by_cases t3 : y.next = i
      · have b3 : (y.next == (i : Int)) = true := by simpa using t3
        have HR2 : Hid (r = (z.prev == (i : Int))) := by
          show r = _
          rw [HRR.out, Bool.eq_iff_iff]
          simp only [decide_eq_true_eq, beq_iff_eq]
          exact ⟨fun h => h.2.2.2, fun h => ⟨t1, t2, t3, h⟩⟩
        clear HRR t1 t2 t3 hny hpz hny' hpz' E1 E2
        go_enter Tryd.func62, Tryd.ntmps62
        go_wp2_with fail
        refine C1.out.mono ?_
        rintro e w1 ⟨rfl, hb1⟩
        have HB1 := Hid.mk' hb1
        have HZ1 := Hid.mk' (lone_zero w1)
        have hs1 := hb1.size
        clear hb1 C1
        go_wp2_with (first | (refine wpList_store_lone rfl _ _ rfl w1.heap.size rfl x rfl slt0 HZ1.out ?_; intro w2 hl2 hg2 hs2; have HL2 := Hid.mk' hl2; have HB2 : Hid (Below w.heap.size w w2) := ((HB1.out.alloc HB1.out.size _).grown hg2 (HB1.out.alloc HB1.out.size _).size (fun r e => by cases e; exact HB1.out.size)); have z2 := hl2.cells.2.2.2.1; clear hl2 hg2 hs2) | fail)
        refine (C2.out _ HB2.out).mono ?_
        rintro e w3 ⟨rfl, hb3⟩
        have HB3 : Hid (Below w.heap.size w w3) := HB2.out.trans (hb3.mono HB2.out.size)
        have HL3 := Hid.mk' (HL2.out.below hb3)
        have hs3 : w1.heap.size < w3.heap.size := (Array.getElem?_eq_some_iff.1 HL3.out).1
        have HZ3 := Hid.mk' (lone_zero w3)
        clear hb3 C2 z2 HL2 HB2
        go_wp2_with (first | (refine wpList_store_lone rfl _ _ rfl w3.heap.size rfl y rfl slt0 HZ3.out ?_; intro w4 hl4 hg4 hs4; have HL4 := Hid.mk' hl4; have HB4 : Hid (Below w.heap.size w w4) := ((HB3.out.alloc HB3.out.size _).grown hg4 (HB3.out.alloc HB3.out.size _).size (fun r e => by cases e; exact HB3.out.size)); have HM4 : Hid (Lone w4 w1.heap.size x) := Lone.grown (Lone.below HL3.out ((Below.refl _ _).alloc (Nat.le_refl _) _)) hg4 (by omega); have z4 := HM4.out.cells.2.2.2.2.1; clear hl4 hg4 hs4) | fail)
        refine (C3.out _ HB4.out).mono ?_
        rintro e w5 ⟨rfl, hb5⟩
        have HB5 : Hid (Below w.heap.size w w5) := HB4.out.trans (hb5.mono HB4.out.size)
        have HL5 := Hid.mk' (HL4.out.below hb5)
        have hs5 : w3.heap.size < w5.heap.size := (Array.getElem?_eq_some_iff.1 HL5.out).1
        have HZ5 := Hid.mk' (lone_zero w5)
        clear hb5 C3 z4 HL4 HM4 HB4
        go_wp2_with (first | (refine wpList_store_lone rfl _ _ rfl w5.heap.size rfl z rfl slt0 HZ5.out ?_; intro w6 hl6 hg6 hs6; have HB9 : Hid (Below w.heap.size w w6) := ((HB5.out.alloc HB5.out.size _).grown hg6 (HB5.out.alloc HB5.out.size _).size (fun r e => by cases e; exact HB5.out.size)); have z6 := hl6.cells.2.2.2.1; have y6 := (Lone.grown (Lone.below HL5.out ((Below.refl _ _).alloc (Nat.le_refl _) _)) hg6 (by omega)).cells.2.2.2.2.1; clear hl6 hg6 hs6) | fail)
        go_ret
        exact ⟨by rw [HR2.out]; rfl, HB9.out⟩
      · have b3 : (y.next == (i : Int)) = false := by simpa using t3
        have HR2 : Hid (r = false) := by
          show r = _
          rw [HRR.out]
          exact decide_eq_false (fun h => t3 h.2.2.1)
        clear HRR t1 t2 t3 hny hpz hny' hpz' E1 E2
        go_enter Tryd.func62, Tryd.ntmps62
        go_wp2_with fail
        refine C1.out.mono ?_
        rintro e w1 ⟨rfl, hb1⟩
        have HB1 := Hid.mk' hb1
        have HZ1 := Hid.mk' (lone_zero w1)
        have hs1 := hb1.size
        clear hb1 C1
        go_wp2_with (first | (refine wpList_store_lone rfl _ _ rfl w1.heap.size rfl x rfl slt0 HZ1.out ?_; intro w2 hl2 hg2 hs2; have HL2 := Hid.mk' hl2; have HB2 : Hid (Below w.heap.size w w2) := ((HB1.out.alloc HB1.out.size _).grown hg2 (HB1.out.alloc HB1.out.size _).size (fun r e => by cases e; exact HB1.out.size)); have z2 := hl2.cells.2.2.2.1; clear hl2 hg2 hs2) | fail)
        refine (C2.out _ HB2.out).mono ?_
        rintro e w3 ⟨rfl, hb3⟩
        have HB3 : Hid (Below w.heap.size w w3) := HB2.out.trans (hb3.mono HB2.out.size)
        have HL3 := Hid.mk' (HL2.out.below hb3)
        have hs3 : w1.heap.size < w3.heap.size := (Array.getElem?_eq_some_iff.1 HL3.out).1
        have HZ3 := Hid.mk' (lone_zero w3)
        clear hb3 C2 z2 HL2 HB2
        go_wp2_with (first | (refine wpList_store_lone rfl _ _ rfl w3.heap.size rfl y rfl slt0 HZ3.out ?_; intro w4 hl4 hg4 hs4; have HL4 := Hid.mk' hl4; have HB4 : Hid (Below w.heap.size w w4) := ((HB3.out.alloc HB3.out.size _).grown hg4 (HB3.out.alloc HB3.out.size _).size (fun r e => by cases e; exact HB3.out.size)); have HM4 : Hid (Lone w4 w1.heap.size x) := Lone.grown (Lone.below HL3.out ((Below.refl _ _).alloc (Nat.le_refl _) _)) hg4 (by omega); have z4 := HM4.out.cells.2.2.2.2.1; clear hl4 hg4 hs4) | fail)
        refine (C3.out _ HB4.out).mono ?_
        rintro e w5 ⟨rfl, hb5⟩
        have HB5 : Hid (Below w.heap.size w w5) := HB4.out.trans (hb5.mono HB4.out.size)
        have HL5 := Hid.mk' (HL4.out.below hb5)
        have hs5 : w3.heap.size < w5.heap.size := (Array.getElem?_eq_some_iff.1 HL5.out).1
        have HZ5 := Hid.mk' (lone_zero w5)
        clear hb5 C3 z4 HL4 HM4 HB4
        go_wp2_with (first | (refine wpList_store_lone rfl _ _ rfl w5.heap.size rfl z rfl slt0 HZ5.out ?_; intro w6 hl6 hg6 hs6; have HB9 : Hid (Below w.heap.size w w6) := ((HB5.out.alloc HB5.out.size _).grown hg6 (HB5.out.alloc HB5.out.size _).size (fun r e => by cases e; exact HB5.out.size)); have z6 := hl6.cells.2.2.2.1; have y6 := (Lone.grown (Lone.below HL5.out ((Below.refl _ _).alloc (Nat.le_refl _) _)) hg6 (by omega)).cells.2.2.2.2.1; clear hl6 hg6 hs6) | fail)
        go_ret
        exact ⟨by rw [HR2.out]; rfl, HB9.out⟩
    · rw [E2 _ t2] at hez
      subst hez
      have HR2 : Hid (r = false) := by
        show r = _
        rw [HRR.out]
        exact decide_eq_false (fun h => t2 h.2.1)
      clear HRR t1 t2 hny hpz E1 E2
      go_enter Tryd.func62, Tryd.ntmps62
      go_wp2_with fail
      refine C1.out.mono ?_
      rintro e w1 ⟨rfl, hb1⟩
      have HB1 := Hid.mk' hb1
      have HZ1 := Hid.mk' (lone_zero w1)
      have hs1 := hb1.size
      clear hb1 C1
      go_wp2_with (first | (refine wpList_store_lone rfl _ _ rfl w1.heap.size rfl x rfl slt0 HZ1.out ?_; intro w2 hl2 hg2 hs2; have HL2 := Hid.mk' hl2; have HB2 : Hid (Below w.heap.size w w2) := ((HB1.out.alloc HB1.out.size _).grown hg2 (HB1.out.alloc HB1.out.size _).size (fun r e => by cases e; exact HB1.out.size)); have z2 := hl2.cells.2.2.2.1; clear hl2 hg2 hs2) | fail)
      refine (C2.out _ HB2.out).mono ?_
      rintro e w3 ⟨rfl, hb3⟩
      have HB3 : Hid (Below w.heap.size w w3) := HB2.out.trans (hb3.mono HB2.out.size)
      have HL3 := Hid.mk' (HL2.out.below hb3)
      have hs3 : w1.heap.size < w3.heap.size := (Array.getElem?_eq_some_iff.1 HL3.out).1
      have HZ3 := Hid.mk' (lone_zero w3)
      clear hb3 C2 z2 HL2 HB2
      go_wp2_with (first | (refine wpList_store_lone rfl _ _ rfl w3.heap.size rfl y rfl slt0 HZ3.out ?_; intro w4 hl4 hg4 hs4; have HL4 := Hid.mk' hl4; have HB4 : Hid (Below w.heap.size w w4) := ((HB3.out.alloc HB3.out.size _).grown hg4 (HB3.out.alloc HB3.out.size _).size (fun r e => by cases e; exact HB3.out.size)); have HM4 : Hid (Lone w4 w1.heap.size x) := Lone.grown (Lone.below HL3.out ((Below.refl _ _).alloc (Nat.le_refl _) _)) hg4 (by omega); have z4 := HM4.out.cells.2.2.2.2.1; clear hl4 hg4 hs4) | fail)
      refine (C3.out _ HB4.out).mono ?_
      rintro e w5 ⟨rfl, hb5⟩
      have HB5 : Hid (Below w.heap.size w w5) := HB4.out.trans (hb5.mono HB4.out.size)
      have HL5 := Hid.mk' (HL4.out.below hb5)
      have hs5 : w3.heap.size < w5.heap.size := (Array.getElem?_eq_some_iff.1 HL5.out).1
      have HZ5 := Hid.mk' (lone_zero w5)
      clear hb5 C3 z4 HL4 HM4 HB4
      go_wp2_with (first | (refine wpList_store_lone rfl _ _ rfl w5.heap.size rfl z rfl slt0 HZ5.out ?_; intro w6 hl6 hg6 hs6; have HB9 : Hid (Below w.heap.size w w6) := ((HB5.out.alloc HB5.out.size _).grown hg6 (HB5.out.alloc HB5.out.size _).size (fun r e => by cases e; exact HB5.out.size)); have z6 := hl6.cells.2.2.2.1; have y6 := (Lone.grown (Lone.below HL5.out ((Below.refl _ _).alloc (Nat.le_refl _) _)) hg6 (by omega)).cells.2.2.2.2.1; clear hl6 hg6 hs6) | fail)
      go_ret
      exact ⟨by rw [HR2.out]; rfl, HB9.out⟩
  · rw [E2 _ t1] at hey
    subst hey
    have HR2 : Hid (r = false) := by
      show r = _
      rw [HRR.out]
      exact decide_eq_false (fun h => t1 h.1)
    clear HRR t1 hny hpz E1 E2 hez
    go_enter Tryd.func62, Tryd.ntmps62
    go_wp2_with fail
    refine C1.out.mono ?_
    rintro e w1 ⟨rfl, hb1⟩
    have HB1 := Hid.mk' hb1
    have HZ1 := Hid.mk' (lone_zero w1)
    have hs1 := hb1.size
    clear hb1 C1
    go_wp2_with (first | (refine wpList_store_lone rfl _ _ rfl w1.heap.size rfl x rfl slt0 HZ1.out ?_; intro w2 hl2 hg2 hs2; have HL2 := Hid.mk' hl2; have HB2 : Hid (Below w.heap.size w w2) := ((HB1.out.alloc HB1.out.size _).grown hg2 (HB1.out.alloc HB1.out.size _).size (fun r e => by cases e; exact HB1.out.size)); have z2 := hl2.cells.2.2.2.1; clear hl2 hg2 hs2) | fail)
    refine (C2.out _ HB2.out).mono ?_
    rintro e w3 ⟨rfl, hb3⟩
    have HB3 : Hid (Below w.heap.size w w3) := HB2.out.trans (hb3.mono HB2.out.size)
    have HL3 := Hid.mk' (HL2.out.below hb3)
    have hs3 : w1.heap.size < w3.heap.size := (Array.getElem?_eq_some_iff.1 HL3.out).1
    have HZ3 := Hid.mk' (lone_zero w3)
    clear hb3 C2 z2 HL2 HB2
    go_wp2_with (first | (refine wpList_store_lone rfl _ _ rfl w3.heap.size rfl y rfl slt0 HZ3.out ?_; intro w4 hl4 hg4 hs4; have HL4 := Hid.mk' hl4; have HB4 : Hid (Below w.heap.size w w4) := ((HB3.out.alloc HB3.out.size _).grown hg4 (HB3.out.alloc HB3.out.size _).size (fun r e => by cases e; exact HB3.out.size)); have HM4 : Hid (Lone w4 w1.heap.size x) := Lone.grown (Lone.below HL3.out ((Below.refl _ _).alloc (Nat.le_refl _) _)) hg4 (by omega); have z4 := HM4.out.cells.2.2.2.2.1; clear hl4 hg4 hs4) | fail)
    refine (C3.out _ HB4.out).mono ?_
    rintro e w5 ⟨rfl, hb5⟩
    have HB5 : Hid (Below w.heap.size w w5) := HB4.out.trans (hb5.mono HB4.out.size)
    have HL5 := Hid.mk' (HL4.out.below hb5)
    have hs5 : w3.heap.size < w5.heap.size := (Array.getElem?_eq_some_iff.1 HL5.out).1
    have HZ5 := Hid.mk' (lone_zero w5)
    clear hb5 C3 z4 HL4 HM4 HB4
    go_wp2_with (first | (refine wpList_store_lone rfl _ _ rfl w5.heap.size rfl z rfl slt0 HZ5.out ?_; intro w6 hl6 hg6 hs6; have HB9 : Hid (Below w.heap.size w w6) := ((HB5.out.alloc HB5.out.size _).grown hg6 (HB5.out.alloc HB5.out.size _).size (fun r e => by cases e; exact HB5.out.size)); have z6 := hl6.cells.2.2.2.1; have y6 := (Lone.grown (Lone.below HL5.out ((Below.refl _ _).alloc (Nat.le_refl _) _)) hg6 (by omega)).cells.2.2.2.2.1; clear hl6 hg6 hs6) | fail)
    go_ret
    exact ⟨by rw [HR2.out]; rfl, HB9.out⟩

theorem Ring.links {S : List Slt} {l : List Nat} (h : Ring S l) {i : Nat} (hi : i ∈ l) : I64 (pv S i) ∧ I64 (nx S i) := by
  obtain ⟨p, n, hp, hn, h1, h2⟩ := h.sides hi
  have hp3 := h.lt p hp
  have hn3 := h.lt n hn
  rw [h1.2, h2.1]
  exact ⟨⟨by omega, by omega⟩, ⟨by omega, by omega⟩⟩

theorem ret_nuW {a b : Int} (h : a = b) : Ending.returned (nu a) = Ending.returned (nu b) := by rw [h]

set_option maxRecDepth 100000 in
theorem pick_anyW (k : Int) (n : Nat) (w : World) (hn : 0 < n) (hn2 : n ≤ 4611686018427387904) (hk : -9223372036854775808 ≤ k ∧ k ≤ 9223372036854775807) :
    Calls Tryd.prog 7 #[nu k, nun n] w fun e w' => e = .returned (nu (k % n)) ∧ w' = w := by
  have d1 : (decide ((n : Int) < 1)) = false := by simp; omega
  have e1 := Int.emod_add_mul_ediv k n
  have e2 := Int.emod_nonneg k (b := (n : Int)) (by omega)
  have e3 := Int.emod_lt_of_pos k (b := (n : Int)) (by omega)
  have te : k.tmod n = k % (n : Int) ∨ k.tmod n = k % (n : Int) - n := by
    rw [Int.tmod_eq_emod]
    split
    · left; omega
    · right; simp
  clear e1
  by_cases h : k.tmod n < 0
  · have HT : Hid (k.tmod n + n = k % (n : Int)) := by
      show _ = _
      omega
    have b1 : -(n : Int) ≤ k.tmod n := by omega
    clear te e2 e3
    go_enter Tryd.func7, Tryd.ntmps7
    go_wp2
    go_ret
    exact ⟨ret_nuW HT.out, rfl⟩
  · have HT : Hid (k.tmod n = k % (n : Int)) := by
      show _ = _
      omega
    clear te e2 e3
    go_enter Tryd.func7, Tryd.ntmps7
    go_wp2
    go_ret
    exact ⟨ret_nuW HT.out, rfl⟩

/-! ### A row of slots, each once -/

/-- Which have been seen. -/
def sk (R : List Nat) : List Value := (List.range 32).map fun i => .bool (decide (i ∈ R))

theorem sk_at (R : List Nat) (i : Nat) (h : i < 32) : (sk R)[i]? = some (.bool (decide (i ∈ R))) := by
  unfold sk
  rw [List.getElem?_map, List.getElem?_range h]
  rfl

theorem sk_set (R : List Nat) (k : Nat) : (sk R).set k (.bool true) = sk (R ++ [k]) := by
  apply List.ext_getElem?
  intro i
  rw [List.getElem?_set]
  by_cases hi : i < 32
  · rw [sk_at R i hi, sk_at (R ++ [k]) i hi]
    by_cases e : k = i
    · subst e
      rw [if_pos rfl, if_pos (by simpa [sk] using hi)]
      simp
    · rw [if_neg e]
      have : (i ∈ R ++ [k]) ↔ i ∈ R := by
        simp
        intro h
        exact absurd h.symm e
      simp only [this]
  · have h1 : (sk R).length = 32 := by simp [sk]
    have h2 : (sk (R ++ [k])).length = 32 := by simp [sk]
    rw [List.getElem?_eq_none (by omega), List.getElem?_eq_none (by omega)]
    by_cases e : k = i
    · rw [if_pos e, if_neg (by omega)]
    · rw [if_neg e]

def Seen (w : World) (b : Nat) (R : List Nat) : Prop := w.heap[b]? = some (.cells (sk R).toArray 111)

theorem Seen.cell {w : World} {b : Nat} {R : List Nat} (h : Seen w b R) (i : Nat) (hi : i < 32) : w.cell? ⟨b, i, none⟩ = some (.bool (decide (i ∈ R))) ∧ w.frozen? ⟨b, i, none⟩ = false := by
  refine ⟨?_, ?_⟩
  · rw [cell_of_row w b _ _ _ _ h, List.getElem?_toArray, sk_at R i hi]
  · unfold Seen at h
    simp only [World.frozen?, h]
    rfl

theorem Seen.set {w : World} {b : Nat} {R : List Nat} (h : Seen w b R) (k : Nat) : Seen (w.setCell ⟨b, k, none⟩ (.bool true)) b (R ++ [k]) := by
  have := heap_setCell_same w b k _ _ (.bool true) h
  rw [List.setIfInBounds_toArray, sk_set] at this
  exact this

set_option maxRecDepth 100000 in
set_option maxHeartbeats 4000000 in
theorem row_any (v : Value) (l : List Int) (w : World) (hR : RdI w v l) (hl : ∀ x ∈ l, I64 x) :
    Calls Tryd.prog 61 #[v, nu 0] w fun e w' => ∃ (v' : Value) (R : List Nat), e = .returned v' ∧ w'.ownsRow w.heap.size 3 1 v' R.length (R.map nun) ∧ R.Nodup ∧ (∀ i ∈ R, i < 32) ∧ Below w.heap.size w w' := by
  obtain ⟨i0, ji, hz0, hz1, hz2⟩ := info_parts info_int
  obtain ⟨av, cv, rfl, hc1, hc2, hcell⟩ := hR
  obtain ⟨N, hN⟩ : ∃ N, l.length = N := ⟨_, rfl⟩
  rw [hN] at hc1 ⊢
  unfold maxLen at hc2
  have HN := Hid.mk' hN
  have HC := Hid.mk' hcell
  have HL := Hid.mk' hl
  have cP : Hid (∀ wx x, I64 x → Calls Tryd.prog 7 #[nu x, nu 32] wx fun e w' => e = .returned (nu (x % 32)) ∧ w' = wx) := fun wx x hx => pick_anyW x 32 wx (by decide) (by decide) hx
  have hT0 : Seen (w.alloc (.cells (sk []).toArray 111)) w.heap.size [] := heap_alloc_new _ _
  have hB0 : Below w.heap.size w (w.alloc (.cells (sk []).toArray 111)) := (Below.refl _ _).alloc (Nat.le_refl _) _
  have hsk : (sk []).toArray = #[.bool false, .bool false, .bool false, .bool false, .bool false, .bool false, .bool false, .bool false, .bool false, .bool false, .bool false, .bool false, .bool false, .bool false, .bool false, .bool false, .bool false, .bool false, .bool false, .bool false, .bool false, .bool false, .bool false, .bool false, .bool false, .bool false, .bool false, .bool false, .bool false, .bool false, .bool false, .bool false] := by kernel_rfl
  rw [hsk] at hT0 hB0
  have HT0 := Hid.mk' hT0
  have HB0 := Hid.mk' hB0
  have hcI : (cv : Int) ≤ 9223372036854775807 := by omega
  clear hN hcell hl hT0 hB0 hsk
  go_enter Tryd.func61, Tryd.ntmps61
  go_wp2_with fail
  generalize w.alloc (.cells #[.bool false, .bool false, .bool false, .bool false, .bool false, .bool false, .bool false, .bool false, .bool false, .bool false, .bool false, .bool false, .bool false, .bool false, .bool false, .bool false, .bool false, .bool false, .bool false, .bool false, .bool false, .bool false, .bool false, .bool false, .bool false, .bool false, .bool false, .bool false, .bool false, .bool false, .bool false, .bool false] 111) = wA at *
  go_loopw [5, 7] (fun lv iv wr => ∃ (k : Nat) (R : List Nat) (a : Option Addr) (n c : Nat), k ≤ N ∧ n ≤ 32 ∧ iv = nun k ∧ lv = .slice a n c ∧ Hid (R.length = n ∧ R.Nodup ∧ ∀ i ∈ R, i < 32) ∧ Hid (wr.ownsRow w.heap.size 3 1 (.slice a n c) n (R.map nun)) ∧ Hid (Seen wr w.heap.size R) ∧ Hid (Below w.heap.size w wr)) (fun _ iv _ => N - (intOf iv).toNat)
  case atStart => exact ⟨0, [], none, 0, 0, Nat.zero_le _, by omega, rfl, rfl, ⟨rfl, List.nodup_nil, by simp⟩, World.ownsRow_nil _ _ _ _, HT0, HB0⟩
  case round =>
    obtain ⟨k, R, a, n, c, hk, hn, rfl, rfl, HR, HO, HT, HB⟩ := hrel
    by_cases hlt : k < N
    · have hkI : (k : Int) < (N : Int) := by omega
      obtain ⟨gv, ov, rfl, hgl, hcl⟩ := HC.out (by rw [HN.out]; omega)
      obtain ⟨x, hx⟩ : ∃ x, l[k]? = some x := ⟨_, List.getElem?_eq_getElem (by rw [HN.out]; exact hlt)⟩
      have hcx := (HB.out.cell (p := ⟨gv, ov + k, none⟩) hgl).trans (hcl k x hx)
      have C1 := Hid.mk' (cP.out wr x (HL.out x (List.mem_of_getElem? hx)))
      obtain ⟨s, hs, hs3⟩ : ∃ s : Nat, x % 32 = s ∧ s < 32 := ⟨(x % 32).toNat, by omega, by omega⟩
      rw [hs] at C1
      obtain ⟨q1, q2⟩ := HT.out.cell s hs3
      have hsI : (s : Int) < 32 := by omega
      clear hcl hx hs
      by_cases hin : s ∈ R
      · rw [decide_eq_true hin] at q1
        clear hin
        go_wp2_with fail
        refine C1.out.mono ?_
        rintro e w9 ⟨rfl, hw9⟩
        subst w9
        go_wp2
        go_roundw
        case rel => exact ⟨k + 1, R, a, n, c, by omega, hn, by go_num, rfl, HR, HO, HT, HB⟩
        case measure => simp [intOf]; omega
      · rw [decide_eq_false hin] at q1
        have hn2 : n + 1 ≤ 32 := by
          have h1 : (R ++ [s]).Nodup := List.nodup_append.2 ⟨HR.out.2.1, by simp, fun y hy z hz e => hin (by simp at hz; subst hz; exact e ▸ hy)⟩
          have := nodup_few 32 (R ++ [s]) h1 (fun i hi => (List.mem_append.1 hi).elim (HR.out.2.2 i) (fun e => by simp at e; omega))
          rw [List.length_append, HR.out.1] at this
          exact this
        have HR2 : Hid ((R ++ [s]).length = n + 1 ∧ (R ++ [s]).Nodup ∧ ∀ i ∈ R ++ [s], i < 32) := ⟨by rw [List.length_append, HR.out.1]; rfl, List.nodup_append.2 ⟨HR.out.2.1, by simp, fun y hy z hz e => hin (by simp at hz; subst hz; exact e ▸ hy)⟩, fun i hi => (List.mem_append.1 hi).elim (HR.out.2.2 i) (fun e => by simp at e; omega)⟩
        have hT1 := HT.out.set s
        have hO1 : (wr.setCell ⟨w.heap.size, s, none⟩ (.bool true)).ownsRow w.heap.size 3 1 (.slice a n c) n (R.map nun) := Nm.own_setOther HO.out _ _ (fun e => by
          obtain ⟨cc, hcc, _⟩ := own_cellsT HO.out e
          have := HT.out
          unfold Seen at this
          rw [this] at hcc
          simp at hcc)
        have hB1 : Below w.heap.size w (wr.setCell ⟨w.heap.size, s, none⟩ (.bool true)) := HB.out.setCell (p := ⟨w.heap.size, s, none⟩) (Nat.le_refl _) _
        obtain ⟨W1, hW1⟩ : ∃ W1, wr.setCell ⟨w.heap.size, s, none⟩ (.bool true) = W1 := ⟨_, rfl⟩
        rw [hW1] at hT1 hO1 hB1
        have HW1 := Hid.mk' hW1
        have HO1 : Hid ((W1.alloc (.cells #[nun s] 3)).ownsRow w.heap.size 3 1 (.slice a n c) n (R.map nun)) := hO1.alloc _
        have HB1 : Hid (Below w.heap.size w (W1.alloc (.cells #[nun s] 3))) := hB1.alloc hB1.size _
        have HT1 : Hid (Seen (W1.alloc (.cells #[nun s] 3)) w.heap.size (R ++ [s])) := (Below.heap_alloc W1 _ w.heap.size (Array.getElem?_eq_some_iff.1 hT1).1).trans hT1
        clear hin hW1 hT1 hO1 hB1 HO HT HR
        go_wp2_with fail
        refine C1.out.mono ?_
        rintro e w9 ⟨rfl, hw9⟩
        subst w9
        go_upto_region 9 with fail
        rw [HW1.out]
        clear q1 q2 HW1 C1 HB
        go_wp2_with (first | (at_builtin; refine Nm.wpList_append_keep _ rfl _ _ 30 rfl w.heap.size 3 i0 (.int .i64 0) 1 8 Tryd.underlying30 ji hz0 hz1 hz2 rfl (by decide) _ n _ rfl HO1.out ⟨W1.heap.size, 0, none⟩ 1 1 [nun s] rfl rfl (cell_one_new _ _ _) (by simp [Value.oneCell']) (by unfold maxLen; omega) (by omega) HB1.out.size (by decide) ?_; intro v4 w4 hg4; obtain ⟨ho4, hgr4, _, _⟩ := hg4; obtain ⟨a4, c4, rfl, _⟩ := Nm.own_shape ho4; have HO4 := Hid.mk' ho4; have HB4 : Hid (Below w.heap.size w w4) := (HB1.out.grown hgr4 HB1.out.size (fun r e => (HO1.out.lt r e).1)); have HT4 : Hid (Seen w4 w.heap.size (R ++ [s])) := (hgr4.block _ (Array.getElem?_eq_some_iff.1 HT1.out).1 (fun e => (by obtain ⟨cc, hcc, _⟩ := own_cellsT HO1.out e.symm; have h9 := HT1.out; unfold Seen at h9; rw [h9] at hcc; simp at hcc))).trans HT1.out; clear ho4 hgr4) | fail)
        go_roundw
        case rel => exact ⟨k + 1, R ++ [s], a4, n + 1, c4, by omega, hn2, by go_num, rfl, HR2, by rw [List.map_append]; exact HO4, HT4, HB4⟩
        case measure => simp [intOf]; omega
    · have hkI : ¬ (k : Int) < (N : Int) := by omega
      go_wp2
      go_ret
      exact ⟨_, rfl, R, by rw [HR.out.1]; exact HO.out, HR.out.2.1, HR.out.2.2, HB.out⟩
end Rg
end Go.Proofs.YtckgecmcjnhceaaDoor
