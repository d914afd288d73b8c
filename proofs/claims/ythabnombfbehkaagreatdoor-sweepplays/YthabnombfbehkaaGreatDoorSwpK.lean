import Derived.Test.YthabnombfbehkaaGreatDoorSwpE
import Derived.Test.YthabnombfbehkaaGreatDoorSwpF
/- Whatever is done with garbage, each call answers as the document has it: SweepPlays out of what the program's calls must answer. -/
namespace Go.Proofs.YthabnombfbehkaaGreatDoor
set_option linter.ambiguousOpen false
open Go.RowKit
namespace Sw
open An Rg Ft Lv
set_option linter.unusedSimpArgs false
set_option linter.unusedVariables false

theorem does_any {Rep : World → Nat → (Nat → Prop) → Arn → Prop} {R : RepTy} (C : SweepC Rep R) (base : Nat) (w0 w : World) (p q t g : Nat) (F G : Nat → Prop) (A1 A2 : Arn) (l k n : Int) (s : Slt)
    (hP : Tp R base w0 w p q t g F G A1 l A2 l) (hsl : A1.sl = A2.sl) (hfr : A1.fr = A2.fr) (hw1 : A1.wr ≤ 999999000) (hw2 : A2.wr ≤ 999999000) (hE : Er.Handle w0) (hk : I64 k) (hn : I64 n) (hok : okL l) :
    Calls Tryz.prog 13 #[ptr p, ptr q, ptr t, actGV k n s] w fun e w' => e = .returned (.bool true) ∧ Tn R base w0 w w' p q t g F G (A1.wr + 8) (A2.wr + 1) := by
  have h6 : k % 6 = 0 ∨ k % 6 = 1 ∨ k % 6 = 2 ∨ k % 6 = 3 ∨ k % 6 = 4 ∨ k % 6 = 5 := by omega
  rcases h6 with h | h | h | h | h | h
  · exact does_add C base w0 w p q t g F G A1 A2 l k n s hP hsl hfr hw1 hw2 hE hk hn hok (.inl h)
  · exact does_add C base w0 w p q t g F G A1 A2 l k n s hP hsl hfr hw1 hw2 hE hk hn hok (.inr h)
  · exact does_unit C base w0 w p q t g F G A1 A2 l k n s hP hsl hfr hw1 hw2 hE hk hn hok (.inl h)
  · exact does_unit C base w0 w p q t g F G A1 A2 l k n s hP hsl hfr hw1 hw2 hE hk hn hok (.inr h)
  · exact does_put C base w0 w p q t g F G A1 A2 l k n s hP hsl hfr hw1 hw2 hE hk hn hok h
  · exact does_all C base w0 w p q t g F G A1 A2 l k n s hP hsl hfr hw1 hw2 hE hk hn hok h

/-- One thing that is done. -/
structure Gact where
  k : Int
  n : Int
  s : Slt

def Gact.fits (x : Gact) : Prop := I64 x.k ∧ I64 x.n

@[reducible] def Gact.cells (x : Gact) : List Value := actG x.k x.n x.s

/-- A list of them. -/
def RdG (w : World) (v : Value) (L : List Gact) : Prop :=
  ∃ a cap, v = .slice a L.length cap ∧ L.length ≤ cap ∧ cap ≤ maxLen ∧ (0 < L.length → ∃ g o, a = some ⟨g, o, none⟩ ∧ g < w.heap.size ∧ ∀ n x, L[n]? = some x → w.rangeAt g (o + n * 19) x.cells)

theorem size_gact : (Tryz.prog.info? 52).map (·.size) = some 19 := by kernel_rfl

theorem range_bel {w w' : World} {B g o : Nat} {cs : List Value} (h : w.rangeAt g o cs) (hb : Below B w w') (hg : g < B) : w'.rangeAt g o cs := fun j v hv => (hb.cell (p := ⟨g, o + j, none⟩) hg).trans (h j v hv)

/-- Amid the acts: both hold the same. -/
def Tq (R : RepTy) (base : Nat) (w0 w : World) (p q t g i : Nat) : Prop := ∃ F G A1 A2 l, Tp R base w0 w p q t g F G A1 l A2 l ∧ A1.sl = A2.sl ∧ A1.fr = A2.fr ∧ A1.wr ≤ 8 * i ∧ A2.wr ≤ i ∧ okL l

section
variable {Rep : World → Nat → (Nat → Prop) → Arn → Prop} {R : RepTy} {base : Nat} {w0 w w' : World} {p q t g i : Nat}

theorem Tq.bel (h : Tq R base w0 w p q t g i) : Below w0.heap.size w0 w := by
  obtain ⟨F, G, A1, A2, l, h1, _⟩ := h
  exact h1.bel

theorem Tq.tree (h : Tq R base w0 w p q t g i) : w.cell? ⟨t, 0, none⟩ = some (ptr g) := by
  obtain ⟨F, G, A1, A2, l, h1, _⟩ := h
  obtain ⟨sv, fv, h2, _⟩ := h1.ref
  exact h2.cells.1

theorem Tq.below (C : SweepC Rep R) (h : Tq R base w0 w p q t g i) (hb : Below w.heap.size w w') : Tq R base w0 w' p q t g i := by
  obtain ⟨F, G, A1, A2, l, h1, h2⟩ := h
  exact ⟨F, G, A1, A2, l, h1.below C hb, h2⟩

theorem Tq.drew (C : SweepC Rep R) (h : Tq R base w0 w p q t g i) : Tq R base w0 w.drew p q t g i := h.below C (Below.refl w.heap.size w).drew
end

theorem take_same (A B : Arn) (h1 : A.sl = B.sl) (h2 : A.fr = B.fr) : A.take.1 = B.take.1 ∧ A.take.2.1 = B.take.2.1 ∧ A.take.2.2.sl = B.take.2.2.sl ∧ A.take.2.2.fr = B.take.2.2.fr := by
  unfold Arn.take
  rw [h2]
  split
  · exact ⟨rfl, rfl, h1, h2⟩
  · exact ⟨rfl, rfl, h1, rfl⟩

set_option maxRecDepth 1000000 in
set_option maxHeartbeats 16000000 in
theorem sweepPlays_yes {Rep : World → Nat → (Nat → Prop) → Arn → Prop} {R : RepTy} (H : KeepC Rep) (CN : NewC Rep) (C : SweepC Rep R) (tk : Int) (sv : Value) (L : List Gact) (w : World) (htk : I64 tk) (hR : RdG w sv L) (hF : ∀ x ∈ L, x.fits) (hE : Er.Handle w) :
    Calls Tryz.prog 3 #[nu tk, sv] w fun e w' => e = .returned (.bool true) ∧ Below w.heap.size w w' := by
  obtain ⟨av, cv, rfl, hc1, hc2, hcell⟩ := hR
  obtain ⟨N, hN⟩ : ∃ N, L.length = N := ⟨_, rfl⟩
  have HN := Hid.mk' hN
  have HCL := Hid.mk' hcell
  have HF := Hid.mk' hF
  rw [hN] at hc1 ⊢
  unfold maxLen at hc2
  have c1 := Hid.mk' (CN w)
  have HC := Hid.mk' C
  have HE := Hid.mk' hE
  have hcI : (cv : Int) ≤ 9223372036854775807 := by omega
  by_cases hbig : 1000 < N
  · have hbI : (1000 : Int) < (N : Int) := by omega
    clear hcell hF hN
    go_enter Tryz.func3, Tryz.ntmps3
    go_wp2
    go_ret
    exact ⟨rfl, Below.refl _ _⟩
  have hbI : ¬ (1000 : Int) < (N : Int) := by omega
  obtain ⟨T, hT, hT1⟩ : ∃ T : Nat, tk % 33 = T ∧ T < 33 := ⟨(tk % 33).toNat, by omega, by omega⟩
  have cPk : Hid (∀ wx, Calls Tryz.prog 9 #[nu tk, nu 33] wx fun e w' => e = .returned (nun T) ∧ w' = wx) := fun wx => by
    have := pickG tk 33 wx (by decide) (by decide) htk
    rw [show ((33 : Nat) : Int) = 33 from rfl, hT] at this
    exact this
  have cD : Hid (∀ wx base p q t g i (x : Gact), Tq R base w wx p q t g i → i ≤ 1000 → x.fits → Calls Tryz.prog 13 #[ptr p, ptr q, ptr t, .agg x.cells.toArray] wx fun e w' => e = .returned (.bool true) ∧ Hid (Tq R base w w' p q t g (i + 1))) := fun wx base p q t g i x hx hi hf => by
    obtain ⟨F, G, A1, A2, l, h1, h2, h3, h4, h5, h6⟩ := hx
    refine (does_any C base w wx p q t g F G A1 A2 l x.k x.n x.s h1 h2 h3 (by omega) (by omega) hE hf.1 hf.2 h6).mono ?_
    rintro e w' ⟨rfl, F', G', B1, B2, m, g1, g2, g3, g4, g5, g6⟩
    exact ⟨rfl, F', G', B1, B2, m, g1.pr, g2, g3, by omega, by omega, g6⟩
  have cT1 : Hid (∀ wx base p q t g, Hid (Tq R base w wx p q t g 0) → Calls Tryz.prog 10 #[ptr p] wx fun e w' => ∃ (y z : Nat), e = .returned (.tuple #[nun y, errE z]) ∧ w'.cell? ⟨t, 0, none⟩ = some (ptr g) ∧ Hid (z ≤ 24 ∧ Calls Tryz.prog 11 #[ptr g] w' fun e w'' => e = .returned (.tuple #[nun y, nun z]) ∧ Hid (Tq R base w w'' p q t g 0))) := fun wx base p q t g hx => by
    obtain ⟨F, G, A1, A2, l, h1, h2, h3, h4, h5, h6⟩ := hx.out
    obtain ⟨e1, e2, e3, e4⟩ := take_same A1 A2 h2 h3
    have hD := Td.start h1
    refine (C.take q l wx p F A1 h1.rep h1.good1).mono ?_
    rintro e w' ⟨rfl, hl⟩
    obtain ⟨F', h'⟩ := hD.turn1 hl h1.good1.take
    refine ⟨A1.take.2.1, A1.take.1, rfl, by obtain ⟨sv, fv, h2', _⟩ := h'.pr.ref; exact h2'.cells.1, take_le A1, ?_⟩
    rw [e1, e2]
    refine (takeG base w' t g G A2 l h'.pr.ref h1.good2).mono ?_
    rintro e w'' ⟨rfl, hl2⟩
    obtain ⟨G', h''⟩ := h'.turn2 C hl2 h1.good2.take
    exact ⟨rfl, F', G', A1.take.2.2, A2.take.2.2, l, h''.pr, e3, e4, by rw [take_wr]; exact h4, by rw [take_wr]; exact h5, h6⟩
  have cQ : Hid (∀ wx base p q t g z, z ≤ 24 → Hid (Tq R base w wx p q t g 0) → Calls Tryz.prog 12 #[errE z, nun z] wx fun e w' => e = .returned (.bool true) ∧ Hid (Tq R base w w' p q t g 0)) := fun wx base p q t g z hz hx => by
    refine (plainA z hz wx (hE.below hx.out.bel)).mono ?_
    rintro e w' ⟨rfl, hb⟩
    exact ⟨rfl, hx.out.below C hb⟩
  have HH := Hid.mk' H
  clear hcell hF hN hE H htk hT
  go_enter Tryz.func3, Tryz.ntmps3
  go_wp2_with fail
  refine c1.out.mono ?_
  rintro e w1 ⟨p, F, rfl, hr1, hf1, hb1⟩
  have c2 := Hid.mk' (new_r w1)
  have HR1 := Hid.mk' hr1
  have HB1 := Hid.mk' hb1
  have HF1 := Hid.mk' hf1
  clear hr1 hb1 hf1 c1
  go_wp2_with fail
  refine c2.out.mono ?_
  rintro e w2 ⟨Ga, rfl, hr2, hb2⟩
  have c3 := Hid.mk' (newG_ref w1.heap.size w2)
  have HR2 := Hid.mk' hr2
  have HB2 := Hid.mk' hb2
  clear hr2 hb2 c2
  go_wp2_with fail
  refine c3.out.mono ?_
  rintro e w3 ⟨rfl, hw3⟩
  have hb3 : Below w2.heap.size w2 w3 := by rw [hw3]; exact (Below.refl _ _).alloc (Nat.le_refl _) _
  have hs3 : w3.heap.size = w2.heap.size + 1 := by rw [hw3]; simp
  have HR3 : Hid (Rep w3 p F arn0) := HH.out.below (HH.out.below HR1.out HB2.out) hb3
  have HG3 : Hid (∃ sv fv, RGb w1.heap.size w3 w2.heap.size w1.heap.size sv fv arn0 (-1)) := by
    obtain ⟨sv, fv, r1, _, r3⟩ := HR2.out
    exact ⟨sv, fv, by rw [hw3]; exact heap_alloc_new _ _, r1.keep (Keep.of_below (F := fun _ => False) hb3) (fun _ _ h => h), HB2.out.size⟩
  have HFl : Hid (∀ k, F k → k < w1.heap.size) := HH.out.lt HR1.out
  have HB3 := Hid.mk' hb3
  have HS3 := Hid.mk' hs3
  have c4 := Hid.mk' (C.new w3 p F arn0 HR3.out good0)
  clear hw3 hb3 hs3 c3 HR1 HR2 HR3
  go_wp2_with fail
  refine c4.out.mono ?_
  rintro e w4 ⟨q, F2, rfl, hr4, hf4, hb4⟩
  have HQ4 : Hid (Tq R w1.heap.size w w4 p q w2.heap.size w1.heap.size 0) := by
    obtain ⟨sv, fv, g1⟩ := HG3.out
    have g2 := g1.below hb4
    have s1 := HB1.out.size
    have s2 := HB2.out.size
    have s3 := HS3.out
    have s4 := hb4.size
    have hlo : ∀ k, gfp w2.heap.size w1.heap.size sv fv k → w1.heap.size ≤ k ∧ k < w3.heap.size := fun k hk => by
      rcases hk with e | e
      · omega
      · exact g1.ar.lt k e
    refine ⟨F2, gfp w2.heap.size w1.heap.size sv fv, arn0, arn0, -1, ⟨hr4, ⟨sv, fv, g2, rfl, by omega⟩, fun k hk hc => ?_, fun k hk => ?_, fun k hk => ?_, good0, good0, ?_⟩, rfl, rfl, by decide, by decide, .inl rfl⟩
    · have h5 := hlo k hc
      rcases hf4 k hk with e | e
      · have := HFl.out k e
        omega
      · omega
    · rcases hf4 k hk with e | e
      · exact HF1.out k e
      · omega
    · have := hlo k hk
      omega
    · have b12 : Below w.heap.size w w2 := HB1.out.trans (HB2.out.mono s1)
      have b13 : Below w.heap.size w w3 := b12.trans (HB3.out.mono b12.size)
      exact b13.trans (hb4.mono b13.size)
  have c5 := Hid.mk' (C.writes q (-1) w4 p F2 arn0 hr4 (by decide))
  rw [show nun arn0.wr = nu 0 from rfl] at c5
  obtain ⟨t, ht⟩ : ∃ t, w2.heap.size = t := ⟨_, rfl⟩
  obtain ⟨g, hg⟩ : ∃ g, w1.heap.size = g := ⟨_, rfl⟩
  rw [ht, hg] at HQ4
  rw [ht]
  clear hr4 hf4 hb4 c4 HG3 HFl HB3 HS3 HB2 HB1 HF1 ht hg
  go_wp2_with fail
  refine c5.out.mono ?_
  rintro e w5 ⟨rfl, hb5⟩
  have HQ5 := Hid.mk' (HQ4.out.below C hb5)
  clear hb5 HQ4 c5
  obtain ⟨bs, hbs⟩ : ∃ bs, g = bs := ⟨_, rfl⟩
  have HQ6 : Hid (Tq R bs w w5 p q t g 0) := by rw [← hbs]; exact HQ5.out
  clear HQ5 hbs
  go_wp2_with fail
  go_loopw [8] (fun iv wr => ∃ i : Nat, i ≤ T ∧ iv = nun i ∧ Hid (Tq R bs w wr p q t g 0)) (fun iv _ => T - (intOf iv).toNat)
  case atStart => exact ⟨0, Nat.zero_le _, rfl, HQ6⟩
  case round =>
    clear HQ6
    obtain ⟨i, hi, rfl, HQ⟩ := hrel
    by_cases hlt : i < T
    · have hiI : (i : Int) < (T : Int) := by omega
      have C1 := Hid.mk' (cT1.out wr bs p q t g HQ)
      go_wp2_with (first | (go_at_call 9; refine (cPk.out _).mono ?_; rintro e w2 ⟨rfl, hw2⟩; subst w2) | fail)
      refine C1.out.mono ?_
      rintro e w6 ⟨y, z, rfl, ht0, hQ6⟩
      have hz := hQ6.out.1
      have C2 := Hid.mk' hQ6.out.2
      clear hQ6 C1 HQ
      go_wp2_with fail
      refine C2.out.mono ?_
      rintro e w7 ⟨rfl, HQ7⟩
      have C3 := Hid.mk' (cQ.out w7 bs p q t g z hz HQ7)
      clear C2 ht0
      go_wp2_with fail
      refine C3.out.mono ?_
      rintro e w8 ⟨rfl, HQ8⟩
      clear C3 HQ7 hz
      go_wp2
      go_roundw
      case rel => exact ⟨i + 1, by omega, by go_num, HQ8⟩
      case measure => simp [intOf]; omega
    · have hiI : ¬ (i : Int) < (T : Int) := by omega
      rename World => wq
      go_wp2_with (first | (go_at_call 9; refine (cPk.out _).mono ?_; rintro e w2 ⟨rfl, hw2⟩; subst w2) | fail)
      clear cT1 cQ cPk hlt hiI hi hT1
      go_loopw [13] (fun iv wr => ∃ i : Nat, i ≤ N ∧ iv = nun i ∧ Hid (Tq R bs w wr p q t g i)) (fun iv _ => N - (intOf iv).toNat)
      case atStart => exact ⟨0, Nat.zero_le _, rfl, HQ⟩
      case round =>
        clear HQ
        obtain ⟨i, hi, rfl, HQ⟩ := hrel
        by_cases hlt : i < N
        · have hiI : (i : Int) < (N : Int) := by omega
          obtain ⟨gv, ov, rfl, hgl, hcl⟩ := HCL.out (by rw [HN.out]; omega)
          obtain ⟨x, hx⟩ : ∃ x, L[i]? = some x := ⟨_, List.getElem?_eq_getElem (by rw [HN.out]; exact hlt)⟩
          have HXR : Hid (∀ wx, Below w.heap.size w wx → wx.rangeAt gv (ov + i * 19) x.cells) := fun wx hb => range_bel (hcl i x hx) hb hgl
          have hfx := HF.out x (List.mem_of_getElem? hx)
          have C1 := Hid.mk' (cD.out wr.drew bs p q t g i x (HQ.out.drew C) (by omega) hfx)
          have HSD : Hid (wr.drew.cell? ⟨t, 0, none⟩ = some (ptr g) ∧ wr.drew.rangeAt gv (ov + i * 19) x.cells) := ⟨HQ.out.tree, HXR.out _ HQ.out.bel.drew⟩
          have HST : Hid (∀ wx j, Tq R bs w wx p q t g j → wx.cell? ⟨t, 0, none⟩ = some (ptr g) ∧ wx.rangeAt gv (ov + i * 19) x.cells) := fun wx j h => ⟨h.tree, HXR.out _ h.bel⟩
          clear hcl hx hfx
          go_upto_region 20 with fail
          refine wp_region_held_drew (S := fun w' => w'.cell? ⟨t, 0, none⟩ = some (ptr g) ∧ w'.rangeAt gv (ov + i * 19) x.cells) (by kernel_rfl) HSD.out (fun hHeld => ?_)
          refine wpAnyH_take (i := 0) (v := ?_) rfl (by kernel_rfl) (by kernel_rfl) (by kernel_rfl) (fun _ _ _ h => h) (Or.inl ⟨by rfl, ?_⟩) hHeld ?_
          rotate_left
          · (intro w' hS'; have hct := hS'.1; go_simp <;> with_reducible rfl)
          simp only [Act.put, List.getElem_toArray, List.getElem_cons_succ, List.getElem_cons_zero, List.setIfInBounds_toArray, List.set]
          refine wpAnyH_take (i := 1) (v := ?_) rfl (by kernel_rfl) (by kernel_rfl) (by kernel_rfl) (fun _ _ _ h => h) (Or.inl ⟨by rfl, ?_⟩) hHeld ?_
          rotate_left
          · (intro w' hS'; have hct := hS'.1; go_simp <;> with_reducible rfl)
          simp only [Act.put, List.getElem_toArray, List.getElem_cons_succ, List.getElem_cons_zero, List.setIfInBounds_toArray, List.set]
          refine wpAnyH_take (i := 2) (v := ?_) rfl (by kernel_rfl) (by kernel_rfl) (by kernel_rfl) (fun _ _ _ h => h) (Or.inl ⟨by rfl, ?_⟩) hHeld ?_
          rotate_left
          · (intro w' hS'; have hct := hS'.1; go_simp <;> with_reducible rfl)
          simp only [Act.put, List.getElem_toArray, List.getElem_cons_succ, List.getElem_cons_zero, List.setIfInBounds_toArray, List.set]
          refine wpAnyH_take (i := 3) (v := ?_) rfl (by kernel_rfl) (by kernel_rfl) (by kernel_rfl) (fun _ _ _ h => h) (Or.inl ⟨by rfl, ?_⟩) hHeld ?_
          rotate_left
          · (intro w' hS'; have hct := hS'.1; go_simp <;> with_reducible rfl)
          simp only [Act.put, List.getElem_toArray, List.getElem_cons_succ, List.getElem_cons_zero, List.setIfInBounds_toArray, List.set]
          refine wpAnyH_take (i := 4) (v := ?_) rfl (by kernel_rfl) (by kernel_rfl) (by kernel_rfl) (fun _ _ _ h => h) (Or.inl ⟨by rfl, ?_⟩) hHeld ?_
          rotate_left
          · (intro w' hS'; have hct := hS'.1; go_simp <;> with_reducible rfl)
          simp only [Act.put, List.getElem_toArray, List.getElem_cons_succ, List.getElem_cons_zero, List.setIfInBounds_toArray, List.set]
          refine wpAnyH_take (i := 5) (v := ?_) rfl (by kernel_rfl) (by kernel_rfl) (by kernel_rfl) (fun _ _ _ h => h) (Or.inl ⟨by rfl, ?_⟩) hHeld ?_
          rotate_left
          · (intro w' hS'; have hct := hS'.1; go_simp <;> with_reducible rfl)
          simp only [Act.put, List.getElem_toArray, List.getElem_cons_succ, List.getElem_cons_zero, List.setIfInBounds_toArray, List.set]
          refine wpAnyH_take (i := 6) (v := _) rfl (by kernel_rfl) (by kernel_rfl) (by kernel_rfl) (fun _ _ _ h => h) (yieldsIf_load_mid (by rfl) 52 _ rfl gv (ov + i * 19) rfl x.cells _ (fun w' h => h.2) Tryz.underlying52 rfl size_gact) hHeld ?_
          simp only [Act.put, List.getElem_toArray, List.getElem_cons_succ, List.getElem_cons_zero, List.setIfInBounds_toArray, List.set]
          refine wpAnyH_ready (rs := [7]) (by kernel_rfl) (by simp) ?_
          refine AllReadyH.cons rfl (fun K hK => ?_) AllReadyH.nil
          go_simp
          refine C1.out.mono ?_
          rintro e w6 ⟨rfl, hQ6⟩
          go_wp2_with fail
          have hS6 := HST.out _ _ hQ6.out
          refine hK.out _ _ hS6 (fun hHeld => ?_)
          clear hK K C1
          obtain ⟨F6, G6, A1, A2, l6, hp6, e1, e2, e3, e4, e5⟩ := hQ6.out
          have HS2 : Hid (∀ wx, Below w6.heap.size w6 wx → wx.cell? ⟨t, 0, none⟩ = some (ptr g) ∧ wx.rangeAt gv (ov + i * 19) x.cells) := fun wx hb => HST.out wx (i + 1) ⟨F6, G6, A1, A2, l6, hp6.below C hb, e1, e2, e3, e4, e5⟩
          have HT1 : Hid (∀ wx, Below w6.heap.size w6 wx → wx.cell? ⟨t, 1, none⟩ = some (nu l6)) := fun wx hb => by
            obtain ⟨sv, fv, h2, _⟩ := (hp6.below C hb).ref
            exact h2.cells.2.1
          have cL : Hid (∀ wx, Below w6.heap.size w6 wx → Calls Tryz.prog 14 #[ptr q] wx fun e w' => e = .returned (nu l6) ∧ Hid (Below w6.heap.size w6 w')) := fun wx hb => by
            refine (C.last wx p q F6 A1 l6 (hp6.below C hb).rep).mono ?_
            rintro e w' ⟨rfl, hb'⟩
            exact ⟨rfl, hb.trans (hb'.mono hb.size)⟩
          have cS : Hid (∀ wx, Below w6.heap.size w6 wx → Calls Tryz.prog 15 #[ptr p, ptr g] wx fun e w' => e = .returned (.bool true) ∧ Hid (Below w6.heap.size w6 w')) := fun wx hb => by
            have hp := hp6.below C hb
            obtain ⟨Ga, ha, _, _⟩ := hp.ref.arena
            refine (same19 (C.keep q l6) (C.get q l6) (C.frees q l6) bs wx p g F6 Ga A1 A2 hp.rep ha hp.good1 e1 e2).mono ?_
            rintro e w' ⟨rfl, hb'⟩
            exact ⟨rfl, hb.trans (hb'.mono hb.size)⟩
          have HQN : Hid (∀ wx, Below w6.heap.size w6 wx → Tq R bs w wx p q t g (i + 1)) := fun wx hb => ⟨F6, G6, A1, A2, l6, hp6.below C hb, e1, e2, e3, e4, e5⟩
          have hll : (l6 != l6) = false := by simp
          clear hp6 e1 e2 e3 e4 e5 HQ HSD hQ6 cD HST
          refine wpAnyH_take (i := 8) (v := ?_) rfl (by kernel_rfl) (by kernel_rfl) (by kernel_rfl) (fun _ _ _ h => h) (Or.inl ⟨by rfl, ?_⟩) hHeld ?_
          rotate_left
          · (intro w' hS'; have hct := hS'.1; go_simp <;> with_reducible rfl)
          simp only [Act.put, List.getElem_toArray, List.getElem_cons_succ, List.getElem_cons_zero, List.setIfInBounds_toArray, List.set]
          refine wpAnyH_take (i := 9) (v := ?_) rfl (by kernel_rfl) (by kernel_rfl) (by kernel_rfl) (fun _ _ _ h => h) (Or.inl ⟨by rfl, ?_⟩) hHeld ?_
          rotate_left
          · (intro w' hS'; have hct := hS'.1; go_simp <;> with_reducible rfl)
          simp only [Act.put, List.getElem_toArray, List.getElem_cons_succ, List.getElem_cons_zero, List.setIfInBounds_toArray, List.set]
          refine wpAnyH_take (i := 10) (v := ?_) rfl (by kernel_rfl) (by kernel_rfl) (by kernel_rfl) (fun _ _ _ h => h) (Or.inl ⟨by rfl, ?_⟩) hHeld ?_
          rotate_left
          · (intro w' hS'; have hct := hS'.1; go_simp <;> with_reducible rfl)
          simp only [Act.put, List.getElem_toArray, List.getElem_cons_succ, List.getElem_cons_zero, List.setIfInBounds_toArray, List.set]
          refine wpAnyH_take (i := 12) (v := ?_) rfl (by kernel_rfl) (by kernel_rfl) (by kernel_rfl) (fun _ _ _ h => h) (Or.inl ⟨by rfl, ?_⟩) hHeld ?_
          rotate_left
          · (intro w' hS'; have hct := hS'.1; go_simp <;> with_reducible rfl)
          simp only [Act.put, List.getElem_toArray, List.getElem_cons_succ, List.getElem_cons_zero, List.setIfInBounds_toArray, List.set]
          refine wpAnyH_take (i := 13) (v := ?_) rfl (by kernel_rfl) (by kernel_rfl) (by kernel_rfl) (fun _ _ _ h => h) (Or.inl ⟨by rfl, ?_⟩) hHeld ?_
          rotate_left
          · (intro w' hS'; have hct := hS'.1; go_simp <;> with_reducible rfl)
          simp only [Act.put, List.getElem_toArray, List.getElem_cons_succ, List.getElem_cons_zero, List.setIfInBounds_toArray, List.set]
          refine wpAnyH_take (i := 14) (v := ?_) rfl (by kernel_rfl) (by kernel_rfl) (by kernel_rfl) (fun _ _ _ h => h) (Or.inl ⟨by rfl, ?_⟩) hHeld ?_
          rotate_left
          · (intro w' hS'; have hct := hS'.1; go_simp <;> with_reducible rfl)
          simp only [Act.put, List.getElem_toArray, List.getElem_cons_succ, List.getElem_cons_zero, List.setIfInBounds_toArray, List.set]
          refine wpAnyH_ready (rs := [11, 15]) (by kernel_rfl) (by simp) ?_
          refine AllReadyH.cons rfl (fun K hK => ?_) (AllReadyH.cons rfl (fun K hK => ?_) AllReadyH.nil)
          · go_simp
            refine (cL.out _ (Below.refl _ _)).mono ?_
            rintro e w7 ⟨rfl, hQ7⟩
            go_wp2_with fail
            have hS7 := HS2.out _ hQ7.out
            refine hK.out _ _ hS7 (fun hHeld => ?_)
            clear hK K
            refine wpAnyH_ready (rs := [15]) (by kernel_rfl) (by simp) ?_
            refine AllReadyH.cons rfl (fun K hK => ?_) AllReadyH.nil
            have hct1 := HT1.out w7 hQ7.out
            go_simp
            refine hK.out _ _ ‹_› (fun hHeld => ?_)
            clear hK K hct1
            refine wpAnyH_take (i := 16) (v := ?_) rfl (by kernel_rfl) (by kernel_rfl) (by kernel_rfl) (fun _ _ _ h => h) (Or.inl ⟨by rfl, ?_⟩) hHeld ?_
            rotate_left
            · (intro w' hS'; have hct := hS'.1; go_simp <;> with_reducible rfl)
            simp only [Act.put, List.getElem_toArray, List.getElem_cons_succ, List.getElem_cons_zero, List.setIfInBounds_toArray, List.set]
            refine wpAnyH_take (i := 17) (v := ?_) rfl (by kernel_rfl) (by kernel_rfl) (by kernel_rfl) (fun _ _ _ h => h) (Or.inl ⟨by rfl, ?_⟩) hHeld ?_
            rotate_left
            · (intro w' hS'; have hct := hS'.1; go_simp <;> with_reducible rfl)
            simp only [Act.put, List.getElem_toArray, List.getElem_cons_succ, List.getElem_cons_zero, List.setIfInBounds_toArray, List.set]
            refine wpAnyH_take (i := 18) (v := ?_) rfl (by kernel_rfl) (by kernel_rfl) (by kernel_rfl) (fun _ _ _ h => h) (Or.inl ⟨by rfl, ?_⟩) hHeld ?_
            rotate_left
            · (intro w' hS'; have hct := hS'.1; go_simp <;> with_reducible rfl)
            simp only [Act.put, List.getElem_toArray, List.getElem_cons_succ, List.getElem_cons_zero, List.setIfInBounds_toArray, List.set]
            refine wpAnyH_take (i := 19) (v := ?_) rfl (by kernel_rfl) (by kernel_rfl) (by kernel_rfl) (fun _ _ _ h => h) (Or.inl ⟨by rfl, ?_⟩) hHeld ?_
            rotate_left
            · (intro w' hS'; have hct := hS'.1; go_simp <;> with_reducible rfl)
            simp only [Act.put, List.getElem_toArray, List.getElem_cons_succ, List.getElem_cons_zero, List.setIfInBounds_toArray, List.set]
            refine wpAnyH_take (i := 20) (v := ?_) rfl (by kernel_rfl) (by kernel_rfl) (by kernel_rfl) (fun _ _ _ h => h) (Or.inl ⟨by rfl, ?_⟩) hHeld ?_
            rotate_left
            · (intro w' hS'; have hct := hS'.1; go_simp <;> with_reducible rfl)
            simp only [Act.put, List.getElem_toArray, List.getElem_cons_succ, List.getElem_cons_zero, List.setIfInBounds_toArray, List.set]
            refine wpAnyH_take (i := 21) (v := ?_) rfl (by kernel_rfl) (by kernel_rfl) (by kernel_rfl) (fun _ _ _ h => h) (Or.inl ⟨by rfl, ?_⟩) hHeld ?_
            rotate_left
            · (intro w' hS'; have hct := hS'.1; go_simp <;> with_reducible rfl)
            simp only [Act.put, List.getElem_toArray, List.getElem_cons_succ, List.getElem_cons_zero, List.setIfInBounds_toArray, List.set]
            refine wpAnyH_take (i := 22) (v := ?_) rfl (by kernel_rfl) (by kernel_rfl) (by kernel_rfl) (fun _ _ _ h => h) (Or.inl ⟨by rfl, ?_⟩) hHeld ?_
            rotate_left
            · (intro w' hS'; have hct := hS'.1; go_simp <;> with_reducible rfl)
            simp only [Act.put, List.getElem_toArray, List.getElem_cons_succ, List.getElem_cons_zero, List.setIfInBounds_toArray, List.set]
            refine wpAnyH_take (i := 23) (v := ?_) rfl (by kernel_rfl) (by kernel_rfl) (by kernel_rfl) (fun _ _ _ h => h) (Or.inl ⟨by rfl, ?_⟩) hHeld ?_
            rotate_left
            · (intro w' hS'; have hct := hS'.1; go_simp <;> with_reducible rfl)
            simp only [Act.put, List.getElem_toArray, List.getElem_cons_succ, List.getElem_cons_zero, List.setIfInBounds_toArray, List.set]
            refine wpAnyH_ready (rs := [24]) (by kernel_rfl) (by simp) ?_
            refine AllReadyH.cons rfl (fun K hK => ?_) AllReadyH.nil
            go_simp
            refine (cS.out _ hQ7.out).mono ?_
            rintro e w9 ⟨rfl, hQ9⟩
            go_wp2_with fail
            have hS9 := HS2.out _ hQ9.out
            refine hK.out _ _ hS9 (fun hHeld => ?_)
            clear hK K
            refine wpAnyH_take (i := 25) (v := ?_) rfl (by kernel_rfl) (by kernel_rfl) (by kernel_rfl) (fun _ _ _ h => h) (Or.inl ⟨by rfl, ?_⟩) hHeld ?_
            rotate_left
            · (intro w' hS'; have hct := hS'.1; go_simp <;> with_reducible rfl)
            simp only [Act.put, List.getElem_toArray, List.getElem_cons_succ, List.getElem_cons_zero, List.setIfInBounds_toArray, List.set]
            refine wpAnyH_take (i := 26) (v := ?_) rfl (by kernel_rfl) (by kernel_rfl) (by kernel_rfl) (fun _ _ _ h => h) (Or.inl ⟨by rfl, ?_⟩) hHeld ?_
            rotate_left
            · (intro w' hS'; have hct := hS'.1; go_simp <;> with_reducible rfl)
            simp only [Act.put, List.getElem_toArray, List.getElem_cons_succ, List.getElem_cons_zero, List.setIfInBounds_toArray, List.set]
            refine wpAnyH_done (by kernel_rfl) ?_ _
            clear hHeld hS9
            have HQ9 : Hid (Tq R bs w w9 p q t g (i + 1)) := HQN.out _ hQ9.out
            go_wp2
            go_roundw
            case rel => exact ⟨i + 1, by omega, by go_num, HQ9⟩
            case measure => simp [intOf]; omega
          · have hct1 := HT1.out w6 (Below.refl _ _)
            go_simp
            refine hK.out _ _ ‹_› (fun hHeld => ?_)
            clear hK K hct1
            refine wpAnyH_ready (rs := [11]) (by kernel_rfl) (by simp) ?_
            refine AllReadyH.cons rfl (fun K hK => ?_) AllReadyH.nil
            go_simp
            refine (cL.out _ (Below.refl _ _)).mono ?_
            rintro e w7 ⟨rfl, hQ7⟩
            go_wp2_with fail
            have hS7 := HS2.out _ hQ7.out
            refine hK.out _ _ hS7 (fun hHeld => ?_)
            clear hK K
            refine wpAnyH_take (i := 16) (v := ?_) rfl (by kernel_rfl) (by kernel_rfl) (by kernel_rfl) (fun _ _ _ h => h) (Or.inl ⟨by rfl, ?_⟩) hHeld ?_
            rotate_left
            · (intro w' hS'; have hct := hS'.1; go_simp <;> with_reducible rfl)
            simp only [Act.put, List.getElem_toArray, List.getElem_cons_succ, List.getElem_cons_zero, List.setIfInBounds_toArray, List.set]
            refine wpAnyH_take (i := 17) (v := ?_) rfl (by kernel_rfl) (by kernel_rfl) (by kernel_rfl) (fun _ _ _ h => h) (Or.inl ⟨by rfl, ?_⟩) hHeld ?_
            rotate_left
            · (intro w' hS'; have hct := hS'.1; go_simp <;> with_reducible rfl)
            simp only [Act.put, List.getElem_toArray, List.getElem_cons_succ, List.getElem_cons_zero, List.setIfInBounds_toArray, List.set]
            refine wpAnyH_take (i := 18) (v := ?_) rfl (by kernel_rfl) (by kernel_rfl) (by kernel_rfl) (fun _ _ _ h => h) (Or.inl ⟨by rfl, ?_⟩) hHeld ?_
            rotate_left
            · (intro w' hS'; have hct := hS'.1; go_simp <;> with_reducible rfl)
            simp only [Act.put, List.getElem_toArray, List.getElem_cons_succ, List.getElem_cons_zero, List.setIfInBounds_toArray, List.set]
            refine wpAnyH_take (i := 19) (v := ?_) rfl (by kernel_rfl) (by kernel_rfl) (by kernel_rfl) (fun _ _ _ h => h) (Or.inl ⟨by rfl, ?_⟩) hHeld ?_
            rotate_left
            · (intro w' hS'; have hct := hS'.1; go_simp <;> with_reducible rfl)
            simp only [Act.put, List.getElem_toArray, List.getElem_cons_succ, List.getElem_cons_zero, List.setIfInBounds_toArray, List.set]
            refine wpAnyH_take (i := 20) (v := ?_) rfl (by kernel_rfl) (by kernel_rfl) (by kernel_rfl) (fun _ _ _ h => h) (Or.inl ⟨by rfl, ?_⟩) hHeld ?_
            rotate_left
            · (intro w' hS'; have hct := hS'.1; go_simp <;> with_reducible rfl)
            simp only [Act.put, List.getElem_toArray, List.getElem_cons_succ, List.getElem_cons_zero, List.setIfInBounds_toArray, List.set]
            refine wpAnyH_take (i := 21) (v := ?_) rfl (by kernel_rfl) (by kernel_rfl) (by kernel_rfl) (fun _ _ _ h => h) (Or.inl ⟨by rfl, ?_⟩) hHeld ?_
            rotate_left
            · (intro w' hS'; have hct := hS'.1; go_simp <;> with_reducible rfl)
            simp only [Act.put, List.getElem_toArray, List.getElem_cons_succ, List.getElem_cons_zero, List.setIfInBounds_toArray, List.set]
            refine wpAnyH_take (i := 22) (v := ?_) rfl (by kernel_rfl) (by kernel_rfl) (by kernel_rfl) (fun _ _ _ h => h) (Or.inl ⟨by rfl, ?_⟩) hHeld ?_
            rotate_left
            · (intro w' hS'; have hct := hS'.1; go_simp <;> with_reducible rfl)
            simp only [Act.put, List.getElem_toArray, List.getElem_cons_succ, List.getElem_cons_zero, List.setIfInBounds_toArray, List.set]
            refine wpAnyH_take (i := 23) (v := ?_) rfl (by kernel_rfl) (by kernel_rfl) (by kernel_rfl) (fun _ _ _ h => h) (Or.inl ⟨by rfl, ?_⟩) hHeld ?_
            rotate_left
            · (intro w' hS'; have hct := hS'.1; go_simp <;> with_reducible rfl)
            simp only [Act.put, List.getElem_toArray, List.getElem_cons_succ, List.getElem_cons_zero, List.setIfInBounds_toArray, List.set]
            refine wpAnyH_ready (rs := [24]) (by kernel_rfl) (by simp) ?_
            refine AllReadyH.cons rfl (fun K hK => ?_) AllReadyH.nil
            go_simp
            refine (cS.out _ hQ7.out).mono ?_
            rintro e w9 ⟨rfl, hQ9⟩
            go_wp2_with fail
            have hS9 := HS2.out _ hQ9.out
            refine hK.out _ _ hS9 (fun hHeld => ?_)
            clear hK K
            refine wpAnyH_take (i := 25) (v := ?_) rfl (by kernel_rfl) (by kernel_rfl) (by kernel_rfl) (fun _ _ _ h => h) (Or.inl ⟨by rfl, ?_⟩) hHeld ?_
            rotate_left
            · (intro w' hS'; have hct := hS'.1; go_simp <;> with_reducible rfl)
            simp only [Act.put, List.getElem_toArray, List.getElem_cons_succ, List.getElem_cons_zero, List.setIfInBounds_toArray, List.set]
            refine wpAnyH_take (i := 26) (v := ?_) rfl (by kernel_rfl) (by kernel_rfl) (by kernel_rfl) (fun _ _ _ h => h) (Or.inl ⟨by rfl, ?_⟩) hHeld ?_
            rotate_left
            · (intro w' hS'; have hct := hS'.1; go_simp <;> with_reducible rfl)
            simp only [Act.put, List.getElem_toArray, List.getElem_cons_succ, List.getElem_cons_zero, List.setIfInBounds_toArray, List.set]
            refine wpAnyH_done (by kernel_rfl) ?_ _
            clear hHeld hS9
            have HQ9 : Hid (Tq R bs w w9 p q t g (i + 1)) := HQN.out _ hQ9.out
            go_wp2
            go_roundw
            case rel => exact ⟨i + 1, by omega, by go_num, HQ9⟩
            case measure => simp [intOf]; omega
        · have hiI : ¬ (i : Int) < (N : Int) := by omega
          obtain ⟨F6, G6, A1, A2, l6, hp6, e1, e2, e3, e4, e5⟩ := HQ.out
          obtain ⟨L1, hL1⟩ : ∃ L1, allG A2.sl l6 = L1 := ⟨_, rfl⟩
          have C1 : Hid (Calls Tryz.prog 17 #[ptr q] wr fun e w' => ∃ a c, e = .returned (.slice a L1.length c) ∧ Hid (Below wr.heap.size wr w' ∧ RdN w' (.slice a L1.length c) L1)) := by
            have := all_any C.keep C.all wr p q F6 A1 l6 hp6.rep hp6.good1 e5
            rw [e1, hL1] at this
            refine this.mono ?_
            rintro e w' ⟨v, rfl, ho, hb⟩
            obtain ⟨a, c, rfl, _⟩ := Nm.own_shape ho
            exact ⟨a, c, rfl, hb, own_rdN ho⟩
          have C2 : Hid (∀ wx a c, Hid (Below wr.heap.size wr wx ∧ RdN wx (.slice a L1.length c) L1) → Calls Tryz.prog 18 #[ptr t] wx fun e w' => ∃ a' c', e = .returned (.slice a' L1.length c') ∧ Hid (Calls Tryz.prog 16 #[.slice a L1.length c, .slice a' L1.length c'] w' fun e w'' => e = .returned (.bool true) ∧ Hid (Below wr.heap.size wr w''))) := fun wx a c hx => by
            have hb := hx.out.1
            have := allG_r bs wx t g G6 A2 l6 (hp6.below C hb).ref hp6.good2.len
            rw [hL1] at this
            refine this.mono ?_
            rintro e w' ⟨v, rfl, ho, hb'⟩
            obtain ⟨a', c', rfl, _⟩ := Nm.own_shape ho
            refine ⟨a', c', rfl, (sameN _ _ L1 w' (hx.out.2.below hb') (own_rdN ho)).mono ?_⟩
            rintro e w'' ⟨rfl, hb''⟩
            have h1 := hb.trans (hb'.mono hb.size)
            exact ⟨rfl, h1.trans (hb''.mono h1.size)⟩
          have HBE := Hid.mk' hp6.bel
          obtain ⟨nl, hnl⟩ : ∃ nl, L1.length = nl := ⟨_, rfl⟩
          rw [hnl] at C1 C2
          clear hp6 e1 e2 e3 e4 e5 hL1 hnl HQ cD HC
          go_wp2_with fail
          refine C1.out.mono ?_
          rintro e w11 ⟨a1, c1, rfl, hQ11⟩
          go_wp2_with fail
          refine (C2.out _ _ _ hQ11).mono ?_
          rintro e w12 ⟨a2, c2, rfl, hQ12⟩
          go_wp2_with fail
          refine hQ12.out.mono ?_
          rintro e w13 ⟨rfl, hQ13⟩
          go_wp2
          go_ret
          exact ⟨rfl, HBE.out.trans (hQ13.out.mono HBE.out.size)⟩
end Sw
end Go.Proofs.YthabnombfbehkaaGreatDoor
