import Derived.Test.YtcleeidfiaafcaaGreatDoorTreD1
import Derived.Test.YtcleeidfiaafcaaGreatDoorTreD2
import Derived.Test.YtcleeidfiaafcaaGreatDoorTreD4
/- Whatever is done with trees, each call answers as the document has it: TreePlays out of what the program's calls must answer. -/
namespace Go.Proofs.YtcleeidfiaafcaaGreatDoor
set_option linter.ambiguousOpen false
open Go.RowKit
namespace Tr
open An Rg Ft Lv
set_option linter.unusedSimpArgs false
set_option linter.unusedVariables false

theorem does_any {Rep : World → Nat → (Nat → Prop) → Arn → Prop} {R : RepTy} (C : TreeCW Rep R) (base : Nat) (w0 w : World) (p q t g : Nat) (F G : Nat → Prop) (A1 A2 : Arn) (l k n us ub : Int) (s : Slt)
    (hP : Tp R base w0 w p q t g F G A1 l A2 l) (hsl : A1.sl = A2.sl) (hfr : A1.fr = A2.fr) (hw1 : A1.wr ≤ 999999000) (hw2 : A2.wr ≤ 999999000) (hE : Er.Handle w0) (hk : I64 k) (hn : I64 n) (hus : I64 us) (hub : I64 ub) :
    Calls Tryz.prog 10 #[ptr p, ptr q, ptr t, actTV k n us ub s] w fun e w' => e = .returned (.bool true) ∧ Tn R base w0 w w' p q t g F G (A1.wr + 8) (A2.wr + 1) := by
  have h6 : k % 6 = 0 ∨ k % 6 = 1 ∨ k % 6 = 2 ∨ k % 6 = 3 ∨ k % 6 = 4 ∨ k % 6 = 5 := by omega
  rcases h6 with h | h | h | h | h | h
  · exact does_add C base w0 w p q t g F G A1 A2 l k n us ub s hP hsl hfr hw1 hw2 hE hk hn hus hub (.inl h)
  · exact does_add C base w0 w p q t g F G A1 A2 l k n us ub s hP hsl hfr hw1 hw2 hE hk hn hus hub (.inr h)
  · exact does_cut C base w0 w p q t g F G A1 A2 l k n us ub s hP hsl hfr hw1 hw2 hE hk hn hus hub h
  · exact does_put C base w0 w p q t g F G A1 A2 l k n us ub s hP hsl hfr hw1 hw2 hE hk hn hus hub h
  · exact does_gone C base w0 w p q t g F G A1 A2 l k n us ub s hP hsl hfr hw1 hw2 hE hk hn hus hub h
  · exact does_bare C base w0 w p q t g F G A1 A2 l k n us ub s hP hsl hfr hw1 hw2 hE hk hn hus hub h

/-- One thing that is done. -/
structure Tact where
  k : Int
  n : Int
  us : Int
  ub : Int
  s : Slt

def Tact.fits (x : Tact) : Prop := I64 x.k ∧ I64 x.n ∧ I64 x.us ∧ I64 x.ub

@[reducible] def Tact.cells (x : Tact) : List Value := actT x.k x.n x.us x.ub x.s

/-- A list of them. -/
def RdE (w : World) (v : Value) (L : List Tact) : Prop :=
  ∃ a cap, v = .slice a L.length cap ∧ L.length ≤ cap ∧ cap ≤ maxLen ∧ (0 < L.length → ∃ g o, a = some ⟨g, o, none⟩ ∧ g < w.heap.size ∧ ∀ n x, L[n]? = some x → w.rangeAt g (o + n * 21) x.cells)

theorem size_tact : (Tryz.prog.info? 42).map (·.size) = some 21 := by kernel_rfl

theorem range_bel {w w' : World} {B g o : Nat} {cs : List Value} (h : w.rangeAt g o cs) (hb : Below B w w') (hg : g < B) : w'.rangeAt g o cs := fun j v hv => (hb.cell (p := ⟨g, o + j, none⟩) hg).trans (h j v hv)

/-- Amid the acts: both trees hold the same. -/
def Tq (R : RepTy) (base : Nat) (w0 w : World) (p q t g i : Nat) : Prop := ∃ F G A1 A2 l, Tp R base w0 w p q t g F G A1 l A2 l ∧ A1.sl = A2.sl ∧ A1.fr = A2.fr ∧ A1.wr ≤ 8 * i ∧ A2.wr ≤ i

theorem Tq.bel {R : RepTy} {base : Nat} {w0 w : World} {p q t g i : Nat} (h : Tq R base w0 w p q t g i) : Below w0.heap.size w0 w := by
  obtain ⟨F, G, A1, A2, l, h1, _⟩ := h
  exact h1.bel

theorem Tq.tree {R : RepTy} {base : Nat} {w0 w : World} {p q t g i : Nat} (h : Tq R base w0 w p q t g i) : w.cell? ⟨t, 0, none⟩ = some (ptr g) := by
  obtain ⟨F, G, A1, A2, l, h1, _⟩ := h
  obtain ⟨sv, fv, h2, _⟩ := h1.ref
  exact h2.cells.1

theorem Tq.drew {Rep : World → Nat → (Nat → Prop) → Arn → Prop} {R : RepTy} (C : TreeCW Rep R) {base : Nat} {w0 w : World} {p q t g i : Nat} (h : Tq R base w0 w p q t g i) : Tq R base w0 w.drew p q t g i := by
  obtain ⟨F, G, A1, A2, l, h1, h2⟩ := h
  exact ⟨F, G, A1, A2, l, h1.below C (Below.refl w.heap.size w).drew, h2⟩

/-- A new tree on either side. -/
theorem Tp.begin {R : RepTy} {w0 w1 w2 w3 : World} {p q g : Nat} {F Ga : Nat → Prop} (hF : ∀ k, F k → w0.heap.size ≤ k) (h1 : R w1 p q F arn0 (-1)) (hFl : ∀ k, F k → k < w1.heap.size) (hb1 : Below w0.heap.size w0 w1) (hk : R w3 p q F arn0 (-1)) (h2 : RepA w1.heap.size w2 g Ga arn0) (hb2 : Below w1.heap.size w1 w2) (h3 : w3 = w2.alloc (.cells #[ptr g, nu (-1)] 44)) : ∃ G, Tp R w1.heap.size w0 w3 p q w2.heap.size g F G arn0 (-1) arn0 (-1) := by
  obtain ⟨sv, fv, r1, rfl, r3⟩ := h2
  have hB : Below w2.heap.size w2 w3 := by rw [h3]; exact (Below.refl _ _).alloc (Nat.le_refl _) _
  have r4 : RTr w1.heap.size w3 w2.heap.size g sv fv arn0 (-1) := ⟨by rw [h3]; exact heap_alloc_new _ _, r1.keep (Keep.of_below (F := fun _ => False) hB) (fun _ _ h => h), hb2.size⟩
  refine ⟨tfp w2.heap.size g sv fv, hk, ⟨sv, fv, r4, rfl, Nat.le_trans r3 hB.size⟩, fun k hf hc => ?_, hF, fun k hc => ?_, good0, good0, (hb1.trans (hb2.mono hb1.size)).trans (hB.mono (Nat.le_trans hb1.size hb2.size))⟩
  · have h5 := hFl k hf
    rcases hc with e | e
    · have := hb2.size
      omega
    · have := (r1.lt k e).1
      omega
  · rcases hc with e | e
    · rw [e]; exact Nat.le_trans hb1.size hb2.size
    · exact Nat.le_trans hb1.size (r1.lt k e).1

set_option maxRecDepth 1000000 in
set_option maxHeartbeats 16000000 in
theorem treePlays_yes {Rep : World → Nat → (Nat → Prop) → Arn → Prop} {R : RepTy} (CN : NewC Rep) (C : TreeCW Rep R) (sv : Value) (L : List Tact) (w : World) (hR : RdE w sv L) (hF : ∀ x ∈ L, x.fits) (hE : Er.Handle w) :
    Calls Tryz.prog 3 #[sv] w fun e w' => e = .returned (.bool true) ∧ Below w.heap.size w w' := by
  obtain ⟨av, cv, rfl, hc1, hc2, hcell⟩ := hR
  obtain ⟨N, hN⟩ : ∃ N, L.length = N := ⟨_, rfl⟩
  have HN := Hid.mk' hN
  have HCL := Hid.mk' hcell
  have HF := Hid.mk' hF
  rw [hN] at hc1 ⊢
  unfold maxLen at hc2
  have c1 := Hid.mk' (CN w)
  have HC := Hid.mk' C
  have hcI : (cv : Int) ≤ 9223372036854775807 := by omega
  by_cases hbig : 1000 < N
  · have hbI : (1000 : Int) < (N : Int) := by omega
    clear hcell hF hN
    go_enter Tryz.func3, Tryz.ntmps3
    go_wp2
    go_ret
    exact ⟨rfl, Below.refl _ _⟩
  have hbI : ¬ (1000 : Int) < (N : Int) := by omega
  have cD : Hid (∀ wx base p q t g i (x : Tact), Tq R base w wx p q t g i → i ≤ 1000 → x.fits → Calls Tryz.prog 10 #[ptr p, ptr q, ptr t, .agg x.cells.toArray] wx fun e w' => e = .returned (.bool true) ∧ Hid (Tq R base w w' p q t g (i + 1))) := fun wx base p q t g i x hx hi hf => by
    obtain ⟨F, G, A1, A2, l, h1, h2, h3, h4, h5⟩ := hx
    refine (does_any C base w wx p q t g F G A1 A2 l x.k x.n x.us x.ub x.s h1 h2 h3 (by omega) (by omega) hE hf.1 hf.2.1 hf.2.2.1 hf.2.2.2).mono ?_
    rintro e w' ⟨rfl, F', G', B1, B2, m, g1, g2, g3, g4, g5⟩
    exact ⟨rfl, F', G', B1, B2, m, g1.pr, g2, g3, by omega, by omega⟩
  clear hcell hF hN hE
  go_enter Tryz.func3, Tryz.ntmps3
  go_wp2_with fail
  refine c1.out.mono ?_
  rintro e w1 ⟨p, F, rfl, hr1, hf1, hb1⟩
  have c2 := Hid.mk' (C.new w1 p F arn0 hr1 good0)
  have HB1 := Hid.mk' hb1
  have HF1 := Hid.mk' hf1
  clear hr1 hb1 hf1 c1
  go_wp2_with fail
  refine c2.out.mono ?_
  rintro e w2 ⟨q, F2, rfl, hr2, hf2, hb2⟩
  have HB2 : Hid (Below w.heap.size w w2) := HB1.out.trans (hb2.mono HB1.out.size)
  have HF2 : Hid (∀ k, F2 k → w.heap.size ≤ k) := fun k hk => (hf2 k hk).elim (HF1.out k) (fun e => Nat.le_trans HB1.out.size e)
  have HR2 := Hid.mk' hr2
  have c3 := Hid.mk' (C.writes q (-1) w2 p F2 arn0 hr2 (by decide))
  rw [show nun arn0.wr = nu 0 from rfl] at c3
  clear hr2 hf2 hb2 c2 HF1
  go_wp2_with fail
  refine c3.out.mono ?_
  rintro e w3 ⟨rfl, hb3⟩
  have HR3 : Hid (R w3 p q F2 arn0 (-1)) := (C.keep q (-1)).below HR2.out hb3
  have HB3 : Hid (Below w.heap.size w w3) := HB2.out.trans (hb3.mono HB2.out.size)
  have c4 := Hid.mk' (new_r w3)
  clear hb3 HR2 HB2 c3
  go_wp2_with fail
  refine c4.out.mono ?_
  rintro e w4 ⟨Ga, rfl, hr4, hb4⟩
  have c5 := Hid.mk' (newT_ref w3.heap.size w4)
  have HR4 := Hid.mk' hr4
  have HB4 := Hid.mk' hb4
  clear hr4 hb4 c4
  go_wp2_with fail
  refine c5.out.mono ?_
  rintro e w5 ⟨rfl, hw5⟩
  have hq5 : Tq R w3.heap.size w w5 p q w4.heap.size w3.heap.size 0 := by
    have hb45 : Below w4.heap.size w4 w5 := by rw [hw5]; exact (Below.refl _ _).alloc (Nat.le_refl _) _
    have hr5 : R w5 p q F2 arn0 (-1) := (C.keep q (-1)).below ((C.keep q (-1)).below HR3.out HB4.out) hb45
    obtain ⟨G, hp⟩ := Tp.begin HF2.out HR3.out (fun k hk => (C.keep q (-1)).lt HR3.out k hk) HB3.out hr5 HR4.out HB4.out hw5
    exact ⟨F2, G, arn0, arn0, -1, hp, rfl, rfl, by decide, by decide⟩
  have HQ5 := Hid.mk' hq5
  clear hq5 hw5 c5 HR4 HB4 HR3 HB3
  obtain ⟨t, ht⟩ : ∃ t, w4.heap.size = t := ⟨_, rfl⟩
  obtain ⟨g, hg⟩ : ∃ g, w3.heap.size = g := ⟨_, rfl⟩
  rw [ht, hg] at HQ5
  rw [ht]
  clear ht hg
  go_wp2_with fail
  go_loopw [6] (fun iv wr => ∃ i : Nat, i ≤ N ∧ iv = nun i ∧ Hid (Tq R g w wr p q t g i)) (fun iv _ => N - (intOf iv).toNat)
  case atStart => exact ⟨0, Nat.zero_le _, rfl, HQ5⟩
  case round =>
    clear HQ5
    obtain ⟨i, hi, rfl, HQ⟩ := hrel
    by_cases hlt : i < N
    · have hiI : (i : Int) < (N : Int) := by omega
      obtain ⟨gv, ov, rfl, hgl, hcl⟩ := HCL.out (by rw [HN.out]; omega)
      obtain ⟨x, hx⟩ : ∃ x, L[i]? = some x := ⟨_, List.getElem?_eq_getElem (by rw [HN.out]; exact hlt)⟩
      have HXR : Hid (∀ wx, Below w.heap.size w wx → wx.rangeAt gv (ov + i * 21) x.cells) := fun wx hb => range_bel (hcl i x hx) hb hgl
      have hfx := HF.out x (List.mem_of_getElem? hx)
      have C1 := Hid.mk' (cD.out wr.drew g p q t g i x (HQ.out.drew C) (by omega) hfx)
      have HSD : Hid (wr.drew.cell? ⟨t, 0, none⟩ = some (ptr g) ∧ wr.drew.rangeAt gv (ov + i * 21) x.cells) := ⟨HQ.out.tree, HXR.out _ HQ.out.bel.drew⟩
      have HST : Hid (∀ wx j, Tq R g w wx p q t g j → wx.cell? ⟨t, 0, none⟩ = some (ptr g) ∧ wx.rangeAt gv (ov + i * 21) x.cells) := fun wx j h => ⟨h.tree, HXR.out _ h.bel⟩
      clear hcl hx hfx
      go_upto_region 11 with fail
      refine wp_region_held_drew (S := fun w' => w'.cell? ⟨t, 0, none⟩ = some (ptr g) ∧ w'.rangeAt gv (ov + i * 21) x.cells) (by kernel_rfl) HSD.out (fun hHeld => ?_)
      refine wpAnyH_take (i := 0) (v := ?_) rfl (by kernel_rfl) (by kernel_rfl) (by kernel_rfl) (fun _ _ _ h => h) (Or.inl ⟨by rfl, ?_⟩) hHeld ?_
      rotate_left
      · (intro w' hS'; have hct := hS'.1; go_simp <;> with_reducible rfl)
      simp only [Act.put, List.getElem_toArray, List.getElem_cons_succ, List.getElem_cons_zero, List.setIfInBounds_toArray, List.set]
      refine wpAnyH_take (i := 1) (v := ?_) rfl (by kernel_rfl) (by kernel_rfl) (by kernel_rfl) (fun _ _ _ h => h) (Or.inl ⟨by rfl, ?_⟩) hHeld ?_
      rotate_left
      · (intro w' hS'; have hct := hS'.1; go_simp <;> with_reducible rfl)
      simp only [Act.put, List.getElem_toArray, List.getElem_cons_succ, List.getElem_cons_zero, List.setIfInBounds_toArray, List.set]
      refine wpAnyH_take (i := 2) (v := ?_) rfl (by kernel_rfl) (by kernel_rfl) (by kernel_rfl) (fun _ _ _ h => h) (Or.inl ⟨by rfl, ?_⟩) hHeld ?_
      rotate_left
      · (intro w' hS'; have hct := hS'.1; go_simp <;> with_reducible rfl)
      simp only [Act.put, List.getElem_toArray, List.getElem_cons_succ, List.getElem_cons_zero, List.setIfInBounds_toArray, List.set]
      refine wpAnyH_take (i := 3) (v := ?_) rfl (by kernel_rfl) (by kernel_rfl) (by kernel_rfl) (fun _ _ _ h => h) (Or.inl ⟨by rfl, ?_⟩) hHeld ?_
      rotate_left
      · (intro w' hS'; have hct := hS'.1; go_simp <;> with_reducible rfl)
      simp only [Act.put, List.getElem_toArray, List.getElem_cons_succ, List.getElem_cons_zero, List.setIfInBounds_toArray, List.set]
      refine wpAnyH_take (i := 4) (v := ?_) rfl (by kernel_rfl) (by kernel_rfl) (by kernel_rfl) (fun _ _ _ h => h) (Or.inl ⟨by rfl, ?_⟩) hHeld ?_
      rotate_left
      · (intro w' hS'; have hct := hS'.1; go_simp <;> with_reducible rfl)
      simp only [Act.put, List.getElem_toArray, List.getElem_cons_succ, List.getElem_cons_zero, List.setIfInBounds_toArray, List.set]
      refine wpAnyH_take (i := 5) (v := ?_) rfl (by kernel_rfl) (by kernel_rfl) (by kernel_rfl) (fun _ _ _ h => h) (Or.inl ⟨by rfl, ?_⟩) hHeld ?_
      rotate_left
      · (intro w' hS'; have hct := hS'.1; go_simp <;> with_reducible rfl)
      simp only [Act.put, List.getElem_toArray, List.getElem_cons_succ, List.getElem_cons_zero, List.setIfInBounds_toArray, List.set]
      refine wpAnyH_take (i := 6) (v := _) rfl (by kernel_rfl) (by kernel_rfl) (by kernel_rfl) (fun _ _ _ h => h) (yieldsIf_load_mid (by rfl) 42 _ rfl gv (ov + i * 21) rfl x.cells _ (fun w' h => h.2) Tryz.underlying42 rfl size_tact) hHeld ?_
      simp only [Act.put, List.getElem_toArray, List.getElem_cons_succ, List.getElem_cons_zero, List.setIfInBounds_toArray, List.set]
      refine wpAnyH_ready (rs := [7]) (by kernel_rfl) (by simp) ?_
      refine AllReadyH.cons rfl (fun K hK => ?_) AllReadyH.nil
      go_simp
      refine C1.out.mono ?_
      rintro e w6 ⟨rfl, hQ6⟩
      go_wp2_with fail
      have hS6 := HST.out _ _ hQ6.out
      refine hK.out _ _ hS6 (fun hHeld => ?_)
      clear hK K C1
      obtain ⟨F6, G6, A1, A2, l6, hp6, e1, e2, e3, e4⟩ := hQ6.out
      have HS2 : Hid (∀ wx, Below w6.heap.size w6 wx → wx.cell? ⟨t, 0, none⟩ = some (ptr g) ∧ wx.rangeAt gv (ov + i * 21) x.cells) := fun wx hb => HST.out wx (i + 1) ⟨F6, G6, A1, A2, l6, hp6.below C hb, e1, e2, e3, e4⟩
      have HT1 : Hid (∀ wx, Below w6.heap.size w6 wx → wx.cell? ⟨t, 1, none⟩ = some (nu l6)) := fun wx hb => by
        obtain ⟨sv, fv, h2, _⟩ := (hp6.below C hb).ref
        exact h2.cells.2.1
      have cL : Hid (∀ wx, Below w6.heap.size w6 wx → Calls Tryz.prog 11 #[ptr q] wx fun e w' => e = .returned (nu l6) ∧ Hid (Below w6.heap.size w6 w')) := fun wx hb => by
        refine (C.last wx p q F6 A1 l6 (hp6.below C hb).rep).mono ?_
        rintro e w' ⟨rfl, hb'⟩
        exact ⟨rfl, hb.trans (hb'.mono hb.size)⟩
      have cS : Hid (∀ wx, Below w6.heap.size w6 wx → Calls Tryz.prog 12 #[ptr p, ptr g] wx fun e w' => e = .returned (.bool true) ∧ Hid (Below w6.heap.size w6 w')) := fun wx hb => by
        have hp := hp6.below C hb
        obtain ⟨Ga, ha, _, _⟩ := hp.ref.arena
        refine (same17 (C.keep q l6) (C.get q l6) g wx p g F6 Ga A1 A2 hp.rep ha hp.good1 e1).mono ?_
        rintro e w' ⟨rfl, hb'⟩
        exact ⟨rfl, hb.trans (hb'.mono hb.size)⟩
      have HQN : Hid (∀ wx, Below w6.heap.size w6 wx → Tq R g w wx p q t g (i + 1)) := fun wx hb => ⟨F6, G6, A1, A2, l6, hp6.below C hb, e1, e2, e3, e4⟩
      have hll : (l6 != l6) = false := by simp
      clear hp6 e1 e2 e3 e4 HQ HSD hQ6 cD HST
      refine wpAnyH_take (i := 8) (v := ?_) rfl (by kernel_rfl) (by kernel_rfl) (by kernel_rfl) (fun _ _ _ h => h) (Or.inl ⟨by rfl, ?_⟩) hHeld ?_
      rotate_left
      · (intro w' hS'; have hct := hS'.1; go_simp <;> with_reducible rfl)
      simp only [Act.put, List.getElem_toArray, List.getElem_cons_succ, List.getElem_cons_zero, List.setIfInBounds_toArray, List.set]
      refine wpAnyH_take (i := 9) (v := ?_) rfl (by kernel_rfl) (by kernel_rfl) (by kernel_rfl) (fun _ _ _ h => h) (Or.inl ⟨by rfl, ?_⟩) hHeld ?_
      rotate_left
      · (intro w' hS'; have hct := hS'.1; go_simp <;> with_reducible rfl)
      simp only [Act.put, List.getElem_toArray, List.getElem_cons_succ, List.getElem_cons_zero, List.setIfInBounds_toArray, List.set]
      refine wpAnyH_take (i := 10) (v := ?_) rfl (by kernel_rfl) (by kernel_rfl) (by kernel_rfl) (fun _ _ _ h => h) (Or.inl ⟨by rfl, ?_⟩) hHeld ?_
      rotate_left
      · (intro w' hS'; have hct := hS'.1; go_simp <;> with_reducible rfl)
      simp only [Act.put, List.getElem_toArray, List.getElem_cons_succ, List.getElem_cons_zero, List.setIfInBounds_toArray, List.set]
      refine wpAnyH_take (i := 12) (v := ?_) rfl (by kernel_rfl) (by kernel_rfl) (by kernel_rfl) (fun _ _ _ h => h) (Or.inl ⟨by rfl, ?_⟩) hHeld ?_
      rotate_left
      · (intro w' hS'; have hct := hS'.1; go_simp <;> with_reducible rfl)
      simp only [Act.put, List.getElem_toArray, List.getElem_cons_succ, List.getElem_cons_zero, List.setIfInBounds_toArray, List.set]
      refine wpAnyH_take (i := 13) (v := ?_) rfl (by kernel_rfl) (by kernel_rfl) (by kernel_rfl) (fun _ _ _ h => h) (Or.inl ⟨by rfl, ?_⟩) hHeld ?_
      rotate_left
      · (intro w' hS'; have hct := hS'.1; go_simp <;> with_reducible rfl)
      simp only [Act.put, List.getElem_toArray, List.getElem_cons_succ, List.getElem_cons_zero, List.setIfInBounds_toArray, List.set]
      refine wpAnyH_take (i := 14) (v := ?_) rfl (by kernel_rfl) (by kernel_rfl) (by kernel_rfl) (fun _ _ _ h => h) (Or.inl ⟨by rfl, ?_⟩) hHeld ?_
      rotate_left
      · (intro w' hS'; have hct := hS'.1; go_simp <;> with_reducible rfl)
      simp only [Act.put, List.getElem_toArray, List.getElem_cons_succ, List.getElem_cons_zero, List.setIfInBounds_toArray, List.set]
      refine wpAnyH_ready (rs := [11, 15]) (by kernel_rfl) (by simp) ?_
      refine AllReadyH.cons rfl (fun K hK => ?_) (AllReadyH.cons rfl (fun K hK => ?_) AllReadyH.nil)
      · go_simp
        refine (cL.out _ (Below.refl _ _)).mono ?_
        rintro e w7 ⟨rfl, hQ7⟩
        go_wp2_with fail
        have hS7 := HS2.out _ hQ7.out
        refine hK.out _ _ hS7 (fun hHeld => ?_)
        clear hK K
        refine wpAnyH_ready (rs := [15]) (by kernel_rfl) (by simp) ?_
        refine AllReadyH.cons rfl (fun K hK => ?_) AllReadyH.nil
        have hct1 := HT1.out w7 hQ7.out
        go_simp
        refine hK.out _ _ ‹_› (fun hHeld => ?_)
        clear hK K hct1
        refine wpAnyH_take (i := 16) (v := ?_) rfl (by kernel_rfl) (by kernel_rfl) (by kernel_rfl) (fun _ _ _ h => h) (Or.inl ⟨by rfl, ?_⟩) hHeld ?_
        rotate_left
        · (intro w' hS'; have hct := hS'.1; go_simp <;> with_reducible rfl)
        simp only [Act.put, List.getElem_toArray, List.getElem_cons_succ, List.getElem_cons_zero, List.setIfInBounds_toArray, List.set]
        refine wpAnyH_take (i := 17) (v := ?_) rfl (by kernel_rfl) (by kernel_rfl) (by kernel_rfl) (fun _ _ _ h => h) (Or.inl ⟨by rfl, ?_⟩) hHeld ?_
        rotate_left
        · (intro w' hS'; have hct := hS'.1; go_simp <;> with_reducible rfl)
        simp only [Act.put, List.getElem_toArray, List.getElem_cons_succ, List.getElem_cons_zero, List.setIfInBounds_toArray, List.set]
        refine wpAnyH_take (i := 18) (v := ?_) rfl (by kernel_rfl) (by kernel_rfl) (by kernel_rfl) (fun _ _ _ h => h) (Or.inl ⟨by rfl, ?_⟩) hHeld ?_
        rotate_left
        · (intro w' hS'; have hct := hS'.1; go_simp <;> with_reducible rfl)
        simp only [Act.put, List.getElem_toArray, List.getElem_cons_succ, List.getElem_cons_zero, List.setIfInBounds_toArray, List.set]
        refine wpAnyH_take (i := 19) (v := ?_) rfl (by kernel_rfl) (by kernel_rfl) (by kernel_rfl) (fun _ _ _ h => h) (Or.inl ⟨by rfl, ?_⟩) hHeld ?_
        rotate_left
        · (intro w' hS'; have hct := hS'.1; go_simp <;> with_reducible rfl)
        simp only [Act.put, List.getElem_toArray, List.getElem_cons_succ, List.getElem_cons_zero, List.setIfInBounds_toArray, List.set]
        refine wpAnyH_take (i := 20) (v := ?_) rfl (by kernel_rfl) (by kernel_rfl) (by kernel_rfl) (fun _ _ _ h => h) (Or.inl ⟨by rfl, ?_⟩) hHeld ?_
        rotate_left
        · (intro w' hS'; have hct := hS'.1; go_simp <;> with_reducible rfl)
        simp only [Act.put, List.getElem_toArray, List.getElem_cons_succ, List.getElem_cons_zero, List.setIfInBounds_toArray, List.set]
        refine wpAnyH_take (i := 21) (v := ?_) rfl (by kernel_rfl) (by kernel_rfl) (by kernel_rfl) (fun _ _ _ h => h) (Or.inl ⟨by rfl, ?_⟩) hHeld ?_
        rotate_left
        · (intro w' hS'; have hct := hS'.1; go_simp <;> with_reducible rfl)
        simp only [Act.put, List.getElem_toArray, List.getElem_cons_succ, List.getElem_cons_zero, List.setIfInBounds_toArray, List.set]
        refine wpAnyH_take (i := 22) (v := ?_) rfl (by kernel_rfl) (by kernel_rfl) (by kernel_rfl) (fun _ _ _ h => h) (Or.inl ⟨by rfl, ?_⟩) hHeld ?_
        rotate_left
        · (intro w' hS'; have hct := hS'.1; go_simp <;> with_reducible rfl)
        simp only [Act.put, List.getElem_toArray, List.getElem_cons_succ, List.getElem_cons_zero, List.setIfInBounds_toArray, List.set]
        refine wpAnyH_take (i := 23) (v := ?_) rfl (by kernel_rfl) (by kernel_rfl) (by kernel_rfl) (fun _ _ _ h => h) (Or.inl ⟨by rfl, ?_⟩) hHeld ?_
        rotate_left
        · (intro w' hS'; have hct := hS'.1; go_simp <;> with_reducible rfl)
        simp only [Act.put, List.getElem_toArray, List.getElem_cons_succ, List.getElem_cons_zero, List.setIfInBounds_toArray, List.set]
        refine wpAnyH_ready (rs := [24]) (by kernel_rfl) (by simp) ?_
        refine AllReadyH.cons rfl (fun K hK => ?_) AllReadyH.nil
        go_simp
        refine (cS.out _ hQ7.out).mono ?_
        rintro e w9 ⟨rfl, hQ9⟩
        go_wp2_with fail
        have hS9 := HS2.out _ hQ9.out
        refine hK.out _ _ hS9 (fun hHeld => ?_)
        clear hK K
        refine wpAnyH_take (i := 25) (v := ?_) rfl (by kernel_rfl) (by kernel_rfl) (by kernel_rfl) (fun _ _ _ h => h) (Or.inl ⟨by rfl, ?_⟩) hHeld ?_
        rotate_left
        · (intro w' hS'; have hct := hS'.1; go_simp <;> with_reducible rfl)
        simp only [Act.put, List.getElem_toArray, List.getElem_cons_succ, List.getElem_cons_zero, List.setIfInBounds_toArray, List.set]
        refine wpAnyH_take (i := 26) (v := ?_) rfl (by kernel_rfl) (by kernel_rfl) (by kernel_rfl) (fun _ _ _ h => h) (Or.inl ⟨by rfl, ?_⟩) hHeld ?_
        rotate_left
        · (intro w' hS'; have hct := hS'.1; go_simp <;> with_reducible rfl)
        simp only [Act.put, List.getElem_toArray, List.getElem_cons_succ, List.getElem_cons_zero, List.setIfInBounds_toArray, List.set]
        refine wpAnyH_done (by kernel_rfl) ?_ _
        clear hHeld hS9
        have HQ9 : Hid (Tq R g w w9 p q t g (i + 1)) := HQN.out _ hQ9.out
        go_wp2
        go_roundw
        case rel => exact ⟨i + 1, by omega, by go_num, HQ9⟩
        case measure => simp [intOf]; omega
      · have hct1 := HT1.out w6 (Below.refl _ _)
        go_simp
        refine hK.out _ _ ‹_› (fun hHeld => ?_)
        clear hK K hct1
        refine wpAnyH_ready (rs := [11]) (by kernel_rfl) (by simp) ?_
        refine AllReadyH.cons rfl (fun K hK => ?_) AllReadyH.nil
        go_simp
        refine (cL.out _ (Below.refl _ _)).mono ?_
        rintro e w7 ⟨rfl, hQ7⟩
        go_wp2_with fail
        have hS7 := HS2.out _ hQ7.out
        refine hK.out _ _ hS7 (fun hHeld => ?_)
        clear hK K
        refine wpAnyH_take (i := 16) (v := ?_) rfl (by kernel_rfl) (by kernel_rfl) (by kernel_rfl) (fun _ _ _ h => h) (Or.inl ⟨by rfl, ?_⟩) hHeld ?_
        rotate_left
        · (intro w' hS'; have hct := hS'.1; go_simp <;> with_reducible rfl)
        simp only [Act.put, List.getElem_toArray, List.getElem_cons_succ, List.getElem_cons_zero, List.setIfInBounds_toArray, List.set]
        refine wpAnyH_take (i := 17) (v := ?_) rfl (by kernel_rfl) (by kernel_rfl) (by kernel_rfl) (fun _ _ _ h => h) (Or.inl ⟨by rfl, ?_⟩) hHeld ?_
        rotate_left
        · (intro w' hS'; have hct := hS'.1; go_simp <;> with_reducible rfl)
        simp only [Act.put, List.getElem_toArray, List.getElem_cons_succ, List.getElem_cons_zero, List.setIfInBounds_toArray, List.set]
        refine wpAnyH_take (i := 18) (v := ?_) rfl (by kernel_rfl) (by kernel_rfl) (by kernel_rfl) (fun _ _ _ h => h) (Or.inl ⟨by rfl, ?_⟩) hHeld ?_
        rotate_left
        · (intro w' hS'; have hct := hS'.1; go_simp <;> with_reducible rfl)
        simp only [Act.put, List.getElem_toArray, List.getElem_cons_succ, List.getElem_cons_zero, List.setIfInBounds_toArray, List.set]
        refine wpAnyH_take (i := 19) (v := ?_) rfl (by kernel_rfl) (by kernel_rfl) (by kernel_rfl) (fun _ _ _ h => h) (Or.inl ⟨by rfl, ?_⟩) hHeld ?_
        rotate_left
        · (intro w' hS'; have hct := hS'.1; go_simp <;> with_reducible rfl)
        simp only [Act.put, List.getElem_toArray, List.getElem_cons_succ, List.getElem_cons_zero, List.setIfInBounds_toArray, List.set]
        refine wpAnyH_take (i := 20) (v := ?_) rfl (by kernel_rfl) (by kernel_rfl) (by kernel_rfl) (fun _ _ _ h => h) (Or.inl ⟨by rfl, ?_⟩) hHeld ?_
        rotate_left
        · (intro w' hS'; have hct := hS'.1; go_simp <;> with_reducible rfl)
        simp only [Act.put, List.getElem_toArray, List.getElem_cons_succ, List.getElem_cons_zero, List.setIfInBounds_toArray, List.set]
        refine wpAnyH_take (i := 21) (v := ?_) rfl (by kernel_rfl) (by kernel_rfl) (by kernel_rfl) (fun _ _ _ h => h) (Or.inl ⟨by rfl, ?_⟩) hHeld ?_
        rotate_left
        · (intro w' hS'; have hct := hS'.1; go_simp <;> with_reducible rfl)
        simp only [Act.put, List.getElem_toArray, List.getElem_cons_succ, List.getElem_cons_zero, List.setIfInBounds_toArray, List.set]
        refine wpAnyH_take (i := 22) (v := ?_) rfl (by kernel_rfl) (by kernel_rfl) (by kernel_rfl) (fun _ _ _ h => h) (Or.inl ⟨by rfl, ?_⟩) hHeld ?_
        rotate_left
        · (intro w' hS'; have hct := hS'.1; go_simp <;> with_reducible rfl)
        simp only [Act.put, List.getElem_toArray, List.getElem_cons_succ, List.getElem_cons_zero, List.setIfInBounds_toArray, List.set]
        refine wpAnyH_take (i := 23) (v := ?_) rfl (by kernel_rfl) (by kernel_rfl) (by kernel_rfl) (fun _ _ _ h => h) (Or.inl ⟨by rfl, ?_⟩) hHeld ?_
        rotate_left
        · (intro w' hS'; have hct := hS'.1; go_simp <;> with_reducible rfl)
        simp only [Act.put, List.getElem_toArray, List.getElem_cons_succ, List.getElem_cons_zero, List.setIfInBounds_toArray, List.set]
        refine wpAnyH_ready (rs := [24]) (by kernel_rfl) (by simp) ?_
        refine AllReadyH.cons rfl (fun K hK => ?_) AllReadyH.nil
        go_simp
        refine (cS.out _ hQ7.out).mono ?_
        rintro e w9 ⟨rfl, hQ9⟩
        go_wp2_with fail
        have hS9 := HS2.out _ hQ9.out
        refine hK.out _ _ hS9 (fun hHeld => ?_)
        clear hK K
        refine wpAnyH_take (i := 25) (v := ?_) rfl (by kernel_rfl) (by kernel_rfl) (by kernel_rfl) (fun _ _ _ h => h) (Or.inl ⟨by rfl, ?_⟩) hHeld ?_
        rotate_left
        · (intro w' hS'; have hct := hS'.1; go_simp <;> with_reducible rfl)
        simp only [Act.put, List.getElem_toArray, List.getElem_cons_succ, List.getElem_cons_zero, List.setIfInBounds_toArray, List.set]
        refine wpAnyH_take (i := 26) (v := ?_) rfl (by kernel_rfl) (by kernel_rfl) (by kernel_rfl) (fun _ _ _ h => h) (Or.inl ⟨by rfl, ?_⟩) hHeld ?_
        rotate_left
        · (intro w' hS'; have hct := hS'.1; go_simp <;> with_reducible rfl)
        simp only [Act.put, List.getElem_toArray, List.getElem_cons_succ, List.getElem_cons_zero, List.setIfInBounds_toArray, List.set]
        refine wpAnyH_done (by kernel_rfl) ?_ _
        clear hHeld hS9
        have HQ9 : Hid (Tq R g w w9 p q t g (i + 1)) := HQN.out _ hQ9.out
        go_wp2
        go_roundw
        case rel => exact ⟨i + 1, by omega, by go_num, HQ9⟩
        case measure => simp [intOf]; omega
    · have hiI : ¬ (i : Int) < (N : Int) := by omega
      obtain ⟨F6, G6, A1, A2, l6, hp6, e1, e2, e3, e4⟩ := HQ.out
      have hl2 : A2.sl.length = 32 := hp6.good2.len
      obtain ⟨L1, hL1⟩ : ∃ L1, allL A2.sl l6 = L1 := ⟨_, rfl⟩
      obtain ⟨L3, hL3⟩ : ∃ L3, undL A2.sl 0 = L3 := ⟨_, rfl⟩
      have fL1 : L1.length ≤ 32 := by rw [← hL1]; exact allL_len _ _
      have fL3 : L3.length ≤ 32 := by rw [← hL3]; exact undL_len _ _
      have C1 : Hid (Calls Tryz.prog 14 #[ptr q] wr fun e w' => ∃ gf lb, e = .returned (.func (.func gf) #[] lb) ∧ Hid (Qi wr L1 w' gf lb)) := by
        have := C.roots wr p q F6 A1 l6 hp6.rep hp6.good1
        rw [e1, hL1] at this
        refine this.mono ?_
        rintro e w' ⟨fv, X, rfl, hit, _, hb'⟩
        obtain ⟨gf, lb, rfl⟩ := iter_open hit
        exact ⟨gf, lb, rfl, hb', X, hit⟩
      have C2 : Hid (∀ wx gf lb, Hid (Qi wr L1 wx gf lb) → Calls Tryz.prog 15 #[ptr t] wx fun e w' => ∃ a m c, e = .returned (.slice a m c) ∧ Hid (Qr wr L1 w' gf lb (.slice a m c))) := fun wx gf lb hx => by
        obtain ⟨hb, X, hit⟩ := hx.out
        have := roots_r g wx t g G6 A2 l6 (hp6.below C hb).ref hl2
        rw [hL1] at this
        refine this.mono ?_
        rintro e w' ⟨v, rfl, ho, hb'⟩
        obtain ⟨a, c, rfl, _⟩ := Nm.own_shape ho
        exact ⟨a, _, c, rfl, hb.trans (hb'.mono hb.size), ⟨X, hit.keep (Keep.of_below (F := fun _ => False) hb') (fun _ _ h => h)⟩, own_rdN ho⟩
      have C3 : Hid (∀ wx, Below wr.heap.size wr wx → Calls Tryz.prog 16 #[ptr q, nu 0] wx fun e w' => ∃ gf lb, e = .returned (.func (.func gf) #[] lb) ∧ Hid (Qi wr L3 w' gf lb)) := fun wx hb => by
        have := C.under wx p q F6 A1 l6 0 (hp6.below C hb).rep hp6.good1 (by decide)
        rw [e1, hL3] at this
        refine this.mono ?_
        rintro e w' ⟨fv, X, rfl, hit, _, hb'⟩
        obtain ⟨gf, lb, rfl⟩ := iter_open hit
        exact ⟨gf, lb, rfl, hb.trans (hb'.mono hb.size), X, hit⟩
      have C4 : Hid (∀ wx gf lb, Hid (Qi wr L3 wx gf lb) → Calls Tryz.prog 17 #[ptr t, nu 0] wx fun e w' => ∃ a m c, e = .returned (.slice a m c) ∧ Hid (Qr wr L3 w' gf lb (.slice a m c))) := fun wx gf lb hx => by
        obtain ⟨hb, X, hit⟩ := hx.out
        have := under_r g wx t g G6 A2 l6 0 (hp6.below C hb).ref hl2
        rw [hL3] at this
        refine this.mono ?_
        rintro e w' ⟨v, rfl, ho, hb'⟩
        obtain ⟨a, c, rfl, _⟩ := Nm.own_shape ho
        exact ⟨a, _, c, rfl, hb.trans (hb'.mono hb.size), ⟨X, hit.keep (Keep.of_below (F := fun _ => False) hb') (fun _ _ h => h)⟩, own_rdN ho⟩
      have C5 : Hid (∀ LL wx gf lb a m c, LL.length ≤ 32 → Hid (Qr wr LL wx gf lb (.slice a m c)) → Calls Tryz.prog 13 #[.func (.func gf) #[] lb, .slice a m c] wx fun e w' => e = .returned (.bool true) ∧ Hid (Below wr.heap.size wr w')) := fun LL wx gf lb a m c hf hx => by
        obtain ⟨hb, ⟨X, hit⟩, hr⟩ := hx.out
        refine (gone_any _ _ X LL wx hit hr hf).mono ?_
        rintro e w' ⟨rfl, hb'⟩
        exact ⟨rfl, hb.trans (hb'.mono hb.size)⟩
      have HBE := Hid.mk' hp6.bel
      clear hp6 e1 e2 e3 e4 hl2 hL1 hL3 HQ cD HC
      go_wp2_with fail
      refine C1.out.mono ?_
      rintro e w11 ⟨gf1, lb1, rfl, hQ11⟩
      go_wp2_with fail
      refine (C2.out _ _ _ hQ11).mono ?_
      rintro e w12 ⟨a1, m1, c1, rfl, hQ12⟩
      go_wp2_with fail
      refine (C5.out L1 _ _ _ _ _ _ fL1 hQ12).mono ?_
      rintro e w13 ⟨rfl, hQ13⟩
      go_wp2_with fail
      refine (C3.out _ hQ13.out).mono ?_
      rintro e w21 ⟨gf2, lb2, rfl, hQ21⟩
      go_wp2_with fail
      refine (C4.out _ _ _ hQ21).mono ?_
      rintro e w22 ⟨a2, m2, c2, rfl, hQ22⟩
      go_wp2_with fail
      refine (C5.out L3 _ _ _ _ _ _ fL3 hQ22).mono ?_
      rintro e w23 ⟨rfl, hQ23⟩
      go_wp2
      go_ret
      exact ⟨rfl, HBE.out.trans (hQ23.out.mono HBE.out.size)⟩
end Tr
end Go.Proofs.YtcleeidfiaafcaaGreatDoor
