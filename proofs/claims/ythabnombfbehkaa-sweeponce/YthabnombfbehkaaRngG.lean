import Derived.Test.YthabnombfbehkaaRngF
import Derived.Test.YthabnombfbehkaaRngC
/- The program's rings: a slot's links, how they are told and written, whether they are right. -/
namespace Go.Proofs.Ythabnombfbehkaa
set_option linter.ambiguousOpen false
open Go.RowKit
namespace Rg
open An Ft Lv
set_option linter.unusedSimpArgs false
set_option linter.unusedVariables false

/-- Two links as a value. -/
@[reducible] def lkv (p n : Int) : Value := .agg #[nu p, nu n]

theorem size_lks : (Try.prog.info? 88).map (·.size) = some 2 := by kernel_rfl

set_option maxRecDepth 100000 in
theorem isSlot_p (p : Nat) (i : Int) (w : World) : Calls Try.prog 45 #[ptr p, nu i] w fun e w' => e = .returned (.bool (decide (there i))) ∧ w' = w := by
  obtain ⟨r, hr⟩ : ∃ r, decide (there i) = r := ⟨_, rfl⟩
  rw [hr]
  unfold there at hr
  by_cases h1 : 0 ≤ i
  · have hm : r = decide (i < 32) := by rw [← hr]; exact decide_eq_decide.2 (by omega)
    clear hr
    subst hm
    go_enter Try.func45, Try.ntmps45
    go_wp2
    go_ret
    exact ⟨rfl, rfl⟩
  · have hm : r = false := by rw [← hr]; exact decide_eq_false (by omega)
    clear hr
    subst hm
    go_enter Try.func45, Try.ntmps45
    go_wp2
    go_ret
    exact ⟨rfl, rfl⟩

/-- A ring may be told by -1, and by a slot. -/
@[reducible] def ringI (i : Int) : Prop := i = -1 ∨ there i

set_option maxRecDepth 100000 in
theorem isRing_p (p : Nat) (i : Int) (w : World) : Calls Try.prog 50 #[ptr p, nu i] w fun e w' => e = .returned (.bool (decide (ringI i))) ∧ w' = w := by
  obtain ⟨r, hr⟩ : ∃ r, decide (ringI i) = r := ⟨_, rfl⟩
  rw [hr]
  have c1 := Hid.mk' (isSlot_p p i w)
  unfold ringI at hr
  by_cases h1 : i = -1
  · have hm : r = true := by rw [← hr]; exact decide_eq_true (.inl h1)
    have hb : (i == -1) = true := by simpa using h1
    clear hr h1
    subst hm
    go_enter Try.func50, Try.ntmps50
    go_wp2
    go_ret
    exact ⟨rfl, rfl⟩
  · have hm : r = decide (there i) := by rw [← hr]; exact decide_eq_decide.2 ⟨fun h => h.resolve_left h1, .inr⟩
    have hb : (i == -1) = false := by simpa using h1
    rw [← hm] at c1
    clear hr h1 hm
    go_enter Try.func50, Try.ntmps50
    go_wp2_with fail
    refine c1.out.mono ?_
    rintro e w1 ⟨rfl, hw1⟩
    subst w1
    go_wp2
    go_ret
    exact ⟨rfl, rfl⟩

set_option maxRecDepth 100000 in
theorem fld0 (p n : Int) (w : World) : (Instr.field 88 (lkv p n) 0).run Try.prog w = .ok (nu p) w := by kernel_rfl

set_option maxRecDepth 100000 in
theorem fld1 (p n : Int) (w : World) : (Instr.field 88 (lkv p n) 1).run Try.prog w = .ok (nu n) w := by kernel_rfl

/-- Two links lie alone in a block. -/
def Lnk (w : World) (b : Nat) (p n : Int) : Prop := w.heap[b]? = some (.cells #[nu p, nu n] 88)

theorem lnk_new (w : World) (p n : Int) : Lnk (w.alloc (.cells #[nu p, nu n] 88)) w.heap.size p n := heap_alloc_new _ _

theorem Lnk.cells {w : World} {b : Nat} {p n : Int} (h : Lnk w b p n) : w.cell? ⟨b, 0, none⟩ = some (nu p) ∧ w.cell? ⟨b, 1, none⟩ = some (nu n) := by
  unfold Lnk at h
  simp [World.cell?, h]

theorem Lnk.lt {w : World} {b : Nat} {p n : Int} (h : Lnk w b p n) : b < w.heap.size := (Array.getElem?_eq_some_iff.1 h).1

theorem Lnk.range {w : World} {b : Nat} {p n : Int} (h : Lnk w b p n) : w.rangeAt b 0 [nu p, nu n] := fun j v hv => by
  rw [Nat.zero_add, cell_of_row w b j _ _ _ h]
  simpa using hv

theorem Lnk.below {w w' : World} {b : Nat} {p n : Int} (h : Lnk w b p n) (hb : Below w.heap.size w w') : Lnk w' b p n := (hb.block b h.lt).trans h

set_option maxRecDepth 100000 in
theorem wpList_store_lnk {ops : Array Oper} {rest : List Oper} {op : Oper} {a : Act} {w : World} {Q : Exit → Act → World → Prop} (hgd : op.guard = none) (x y : Operand) (ho : op.op = .store 88 x y)
    (b : Nat) (hx : a.eval x = .pointer (some ⟨b, 0, none⟩)) (p n : Int) (hy : a.eval y = .agg #[nu p, nu n]) (p0 n0 : Int) (hz : Lnk w b p0 n0)
    (h : ∀ w', Lnk w' b p n → w.grownBy w' (some b) → w'.heap.size = w.heap.size → wpList Try.prog ops Q rest (a.put op.dst undef) w') : wpList Try.prog ops Q (op :: rest) a w := by
  refine wpList_plain hgd fun K hK => ?_
  have hrun := run_storeVar_row (P := Try.prog) w b _ 88 #[nu p0, nu n0] #[nu p, nu n] hz size_lks rfl (all_oneCell_toArray (cs := [nu p, nu n]) (by simp [Value.oneCell']))
  have hk := hK _ _ (h (w.setRow b #[nu p, nu n]) (setRow_heap w b _ _ _ _ hz) ⟨rfl, rfl, rfl, by simp, fun k hk hn => setRow_other _ _ _ _ (fun e => hn (by rw [e]))⟩ (by simp))
  unfold Oper.wp execOp
  simp only [ho, hx, hy, Instr.storeAt, Instr.sureAddr, Sem.run_bind, Sem.run_pure, Result.andThen_ok, hrun]
  exact hk

set_option maxRecDepth 100000 in
theorem wpList_load_lnk {ops : Array Oper} {rest : List Oper} {op : Oper} {a : Act} {w : World} {Q : Exit → Act → World → Prop} (hgd : op.guard = none) (x : Operand) (ho : op.op = .load 88 x)
    (b : Nat) (hx : a.eval x = .pointer (some ⟨b, 0, none⟩)) (p n : Int) (hr : w.rangeAt b 0 [nu p, nu n])
    (h : wpList Try.prog ops Q rest (a.put op.dst (.agg #[nu p, nu n])) w) : wpList Try.prog ops Q (op :: rest) a w :=
  wpList_load_mid hgd 88 x ho b 0 hx [nu p, nu n] _ hr Try.underlying88 rfl size_lks h

theorem lone_prev {w : World} {b : Nat} {x : Slt} (h : Lone w b x) (a : Int) : Lone (w.setCell ⟨b, 3, none⟩ (nu a)) b { x with prev := a } := by
  unfold Lone at h ⊢
  rw [heap_setCell_same _ b 3 _ _ _ h]
  rfl

theorem lone_next {w : World} {b : Nat} {x : Slt} (h : Lone w b x) (a : Int) : Lone (w.setCell ⟨b, 4, none⟩ (nu a)) b { x with next := a } := by
  unfold Lone at h ⊢
  rw [heap_setCell_same _ b 4 _ _ _ h]
  rfl

theorem lone_open {w : World} {b : Nat} {x : Slt} (h : Lone w b x) (o : Nat) : w.frozen? ⟨b, o, none⟩ = false := by
  unfold Lone at h
  simp [World.frozen?, h]

section
variable {Rep : World → Nat → (Nat → Prop) → Arn → Prop}

set_option maxRecDepth 100000 in
set_option maxHeartbeats 1000000 in
theorem linksOf_p (H : KeepC Rep) (CG : GetC Rep) (w : World) (p : Nat) (F : Nat → Prop) (A : Arn) (i : Int) (h : Rep w p F A) (hg : An.Good A) :
    Calls Try.prog 47 #[ptr p, nu i] w fun e w' => e = .returned (lkv (pvN A.sl i) (nxN A.sl i)) ∧ Below w.heap.size w w' := by
  have c1 : Hid (∀ wx, _) := fun wx => isSlot_p p i wx
  have hB0 : Below w.heap.size w (w.alloc (.cells #[nu 0, nu 0] 88)) := (Below.refl _ _).alloc (Nat.le_refl _) _
  have hL0 : Lnk (w.alloc (.cells #[nu 0, nu 0] 88)) w.heap.size 0 0 := lnk_new _ _ _
  obtain ⟨W0, hW0⟩ : ∃ W0, w.alloc (.cells #[nu 0, nu 0] 88) = W0 := ⟨_, rfl⟩
  rw [hW0] at hB0 hL0
  have HW0 := Hid.mk' hW0
  by_cases ht : there i
  · rw [pvN_in ht, nxN_in ht]
    have c2 := Hid.mk' (CG W0 p F A i (H.below h hB0) hg (by omega))
    simp only [decide_eq_true ht] at c1
    have hx : A.at i = A.sl.getD i.toNat bare := by unfold Arn.at; rw [if_pos ht]
    have hpv : pv A.sl i = (A.at i).prev := by rw [hx]; rfl
    have hnx : nx A.sl i = (A.at i).next := by rw [hx]; rfl
    have he : Arn.atE i = 0 := by unfold Arn.atE; rw [if_pos ht]
    rw [hpv, hnx]
    simp only [he] at c2
    obtain ⟨x, hxx⟩ : ∃ x, A.at i = x := ⟨_, rfl⟩
    simp only [hxx] at c2 ⊢
    have HB0 := Hid.mk' hB0
    have HL0 := Hid.mk' hL0
    clear hx hpv hnx he hxx h hg ht hB0 hL0 hW0
    go_enter Try.func47, Try.ntmps47
    go_wp2_with fail
    rw [HW0.out]
    refine (c1.out _).mono ?_
    rintro e w1 ⟨rfl, hw1⟩
    subst w1
    go_wp2_with fail
    refine c2.out.mono ?_
    rintro e w1 ⟨rfl, hb1⟩
    have HB1 : Hid (Below w.heap.size w w1) := HB0.out.trans (hb1.mono HB0.out.size)
    have HK1 : Hid (Lnk w1 w.heap.size 0 0) := HL0.out.below hb1
    have hs1 := HK1.out.lt
    have HZ := Hid.mk' (lone_zero w1)
    have HBZ : Hid (Below w.heap.size w (w1.alloc (.cells sltZ 49))) := HB1.out.alloc HB1.out.size _
    have HKZ : Hid (Lnk (w1.alloc (.cells sltZ 49)) w.heap.size 0 0) := (heap_alloc_old _ _ hs1).trans HK1.out
    clear hb1 c1 c2
    go_wp2_with (first | (refine wpList_store_lone rfl _ _ rfl w1.heap.size rfl x rfl slt0 HZ.out ?_; intro w2 hl2 hg2 hs2; have hc3 := hl2.cells.2.2.2.1; have hc4 := hl2.cells.2.2.2.2.1; have HB2 : Hid (Below w.heap.size w w2) := (HBZ.out.grown hg2 HBZ.out.size (fun r e => by cases e; exact HB1.out.size)); have HK2 : Hid (Lnk w2 w.heap.size 0 0) := ((hg2.block _ HKZ.out.lt (fun e => by have := Option.some.inj e; omega)).trans HKZ.out); clear hl2 hg2 hs2) | (refine wpList_store_lnk rfl _ _ rfl w.heap.size rfl x.prev x.next rfl 0 0 HK2.out ?_; intro w3 hl3 hg3 hs3; have HL3 := Hid.mk' hl3; have HB3 : Hid (Below w.heap.size w w3) := (HB2.out.grown hg3 HB2.out.size (fun r e => by cases e; exact Nat.le_refl _)); clear hl3 hg3 hs3) | fail)
    refine bodyPost_ret (results_cell_row rfl _ _ w.heap.size _ _ _ _ rfl HL3.out Try.underlying88 rfl size_lks) rfl ?_
    exact ⟨rfl, HB3.out⟩
  · have hp : pvN A.sl i = -1 := if_neg ht
    have hn : nxN A.sl i = -1 := if_neg ht
    rw [hp, hn]
    simp only [decide_eq_false ht] at c1
    have HB0 := Hid.mk' hB0
    have HL0 := Hid.mk' hL0
    clear hp hn ht h hg hB0 hL0 hW0
    go_enter Try.func47, Try.ntmps47
    go_wp2_with fail
    rw [HW0.out]
    refine (c1.out _).mono ?_
    rintro e w1 ⟨rfl, hw1⟩
    subst w1
    go_wp2_with (first | (refine wpList_store_lnk rfl _ _ rfl w.heap.size rfl (-1) (-1) rfl 0 0 HL0.out ?_; intro w3 hl3 hg3 hs3; have HL3 := Hid.mk' hl3; have HB3 : Hid (Below w.heap.size w w3) := (HB0.out.grown hg3 HB0.out.size (fun r e => by cases e; exact Nat.le_refl _)); clear hl3 hg3 hs3) | fail)
    refine bodyPost_ret (results_cell_row rfl _ _ w.heap.size _ _ _ _ rfl HL3.out Try.underlying88 rfl size_lks) rfl ?_
    exact ⟨rfl, HB3.out⟩

set_option maxRecDepth 100000 in
set_option maxHeartbeats 1000000 in
theorem relink_p (H : KeepC Rep) (CG : GetC Rep) (CU : PutC Rep) (w : World) (p : Nat) (F : Nat → Prop) (A : Arn) (i a b : Int) (h : Rep w p F A) (hg : An.Good A) (hwr : A.wr ≤ 1000000000) (ht : there i) :
    Calls Try.prog 49 #[ptr p, nu i, lkv a b] w fun e w' => (∃ u, e = .returned u) ∧ An.Left Rep w w' p F ⟨both A.sl i a b, A.fr, A.wr + 1⟩ := by
  have hi : I64 i := by unfold I64; omega
  have hB0 : Below w.heap.size w (w.alloc (.cells #[nu a, nu b] 88)) := (Below.refl _ _).alloc (Nat.le_refl _) _
  have hL0 : Lnk (w.alloc (.cells #[nu a, nu b] 88)) w.heap.size a b := lnk_new _ _ _
  obtain ⟨W0, hW0⟩ : ∃ W0, w.alloc (.cells #[nu a, nu b] 88) = W0 := ⟨_, rfl⟩
  rw [hW0] at hB0 hL0
  have HW0 := Hid.mk' hW0
  have c2 := Hid.mk' (CG W0 p F A i (H.below h hB0) hg hi)
  have hx : A.at i = A.sl.getD i.toNat bare := by unfold Arn.at; rw [if_pos ht]
  have he : Arn.atE i = 0 := by unfold Arn.atE; rw [if_pos ht]
  simp only [he, hx] at c2
  obtain ⟨x, hxx⟩ : ∃ x, A.sl.getD i.toNat bare = x := ⟨_, rfl⟩
  have c3 : Hid (∀ wx, Below w.heap.size w wx → Calls Try.prog 20 #[ptr p, nu i, ({ x with prev := a, next := b } : Slt).v] wx fun e w' => e = .returned .nilIface ∧ An.Left Rep w w' p F ⟨both A.sl i a b, A.fr, A.wr + 1⟩) := fun wx hb => by
    have := CU wx p F A i { x with prev := a, next := b } (H.below h hb) hg hwr hi
    unfold Arn.put at this
    rw [if_pos ht] at this
    refine this.mono ?_
    rintro e w' ⟨rfl, G, h1, h2, h3⟩
    refine ⟨rfl, G, by unfold both; rw [hxx]; exact h1, (Keep.of_below hb).trans h2 (fun j _ hj => hj), goes_trans (Goes.refl _ _) h3 hb.size⟩
  simp only [hxx] at c2
  have HB0 := Hid.mk' hB0
  have HL0 := Hid.mk' hL0
  clear hx he hxx h hg hwr ht hB0 hL0 hW0
  go_enter Try.func49, Try.ntmps49
  go_wp2_with fail
  rw [HW0.out]
  refine c2.out.mono ?_
  rintro e w1 ⟨rfl, hb1⟩
  have HB1 : Hid (Below w.heap.size w w1) := HB0.out.trans (hb1.mono HB0.out.size)
  have HK1 : Hid (Lnk w1 w.heap.size a b) := HL0.out.below hb1
  have hs1 := HK1.out.lt
  have HZ := Hid.mk' (lone_zero w1)
  have HBZ : Hid (Below w.heap.size w (w1.alloc (.cells sltZ 49))) := HB1.out.alloc HB1.out.size _
  have HKZ : Hid (Lnk (w1.alloc (.cells sltZ 49)) w.heap.size a b) := (heap_alloc_old _ _ hs1).trans HK1.out
  clear hb1 c2
  go_wp2_with (first | (refine wpList_store_lone rfl _ _ rfl w1.heap.size rfl x rfl slt0 HZ.out ?_; intro w2 hl2 hg2 hs2; have HL2 := Hid.mk' hl2; have HB2 : Hid (Below w.heap.size w w2) := (HBZ.out.grown hg2 HBZ.out.size (fun r e => by cases e; exact HB1.out.size)); have HK2 : Hid (Lnk w2 w.heap.size a b) := ((hg2.block _ HKZ.out.lt (fun e => by have := Option.some.inj e; omega)).trans HKZ.out); clear hl2 hg2 hs2) | fail)
  obtain ⟨lb, hlb⟩ : ∃ lb, w.heap.size = lb := ⟨_, rfl⟩
  obtain ⟨sb, hsb⟩ : ∃ sb, w1.heap.size = sb := ⟨_, rfl⟩
  have hne : lb ≠ sb := by omega
  have hle : w.heap.size ≤ sb := by omega
  have HLB := Hid.mk' hlb
  have HSB := Hid.mk' hsb
  rw [hsb] at HL2
  rw [hlb] at HK2
  simp only [hlb, hsb]
  have hS0 : w2.drew.cell? ⟨lb, 0, none⟩ = some (nu a) ∧ w2.drew.cell? ⟨lb, 1, none⟩ = some (nu b) := HK2.out.cells
  have HL3 : Hid (Lone w2.drew sb x) := HL2.out
  have HB3 : Hid (Below w.heap.size w w2.drew) := HB2.out.drew
  clear hlb hsb HZ HBZ HKZ HK1 HB1 hs1 HB2 HL2 HW0 HB0 HL0
  refine wp_region_held_drew (S := fun w' => w'.cell? ⟨lb, 0, none⟩ = some (nu a) ∧ w'.cell? ⟨lb, 1, none⟩ = some (nu b)) (by kernel_rfl) hS0 (fun hHeld => ?_)
  refine wpAnyH_take (i := 0) (v := ?_) rfl (by kernel_rfl) (by kernel_rfl) (by kernel_rfl) (fun _ _ _ h => h) (Or.inl ⟨by rfl, ?_⟩) hHeld ?_
  rotate_left
  · (intro w' hS'; go_simp <;> with_reducible rfl)
  simp only [Act.put, List.getElem_toArray, List.getElem_cons_succ, List.getElem_cons_zero, List.setIfInBounds_toArray, List.set]
  refine wpAnyH_take (i := 1) (v := ?_) rfl (by kernel_rfl) (by kernel_rfl) (by kernel_rfl) (fun _ _ _ h => h) (Or.inl ⟨by rfl, ?_⟩) hHeld ?_
  rotate_left
  · (intro w' hS'; go_simp <;> with_reducible rfl)
  simp only [Act.put, List.getElem_toArray, List.getElem_cons_succ, List.getElem_cons_zero, List.setIfInBounds_toArray, List.set]
  refine wpAnyH_take (i := 2) (v := ?_) rfl (by kernel_rfl) (by kernel_rfl) (by kernel_rfl) (fun _ _ _ h => h) (Or.inl ⟨by rfl, ?_⟩) hHeld ?_
  rotate_left
  · (intro w' hS'; go_simp <;> with_reducible rfl)
  simp only [Act.put, List.getElem_toArray, List.getElem_cons_succ, List.getElem_cons_zero, List.setIfInBounds_toArray, List.set]
  refine wpAnyH_take (i := 3) (v := ?_) rfl (by kernel_rfl) (by kernel_rfl) (by kernel_rfl) (fun _ _ _ h => h) (Or.inl ⟨by rfl, ?_⟩) hHeld ?_
  rotate_left
  · (intro w' hS'; go_simp <;> with_reducible rfl)
  simp only [Act.put, List.getElem_toArray, List.getElem_cons_succ, List.getElem_cons_zero, List.setIfInBounds_toArray, List.set]
  refine wpAnyH_take (i := 4) (v := ?_) rfl (by kernel_rfl) (by kernel_rfl) (by kernel_rfl) (fun _ _ _ h => h) (Or.inl ⟨by rfl, ?_⟩) hHeld ?_
  rotate_left
  · (intro w' hS'; go_simp <;> with_reducible rfl)
  simp only [Act.put, List.getElem_toArray, List.getElem_cons_succ, List.getElem_cons_zero, List.setIfInBounds_toArray, List.set]
  generalize w2.drew = W3 at *
  have h3c := HL3.out.cells.2.2.2.1
  have h3f := lone_open HL3.out 3
  have HL4 : Hid (Lone (W3.setCell ⟨sb, 3, none⟩ (nu a)) sb { x with prev := a }) := lone_prev HL3.out a
  have HB4 : Hid (Below w.heap.size w (W3.setCell ⟨sb, 3, none⟩ (nu a))) := HB3.out.setCell (p := ⟨sb, 3, none⟩) hle _
  refine wpAnyH_ready (rs := [5]) (by kernel_rfl) (by simp) ?_
  refine AllReadyH.cons rfl (fun K hK => ?_) AllReadyH.nil
  go_simp
  have hS4 : (W3.setCell ⟨sb, 3, none⟩ (nu a)).cell? ⟨lb, 0, none⟩ = some (nu a) ∧ (W3.setCell ⟨sb, 3, none⟩ (nu a)).cell? ⟨lb, 1, none⟩ = some (nu b) := ⟨(World.cell?_setCell_far _ ⟨sb, 3, none⟩ ⟨lb, 0, none⟩ _ (fun e => hne e.symm)).trans hHeld.1, (World.cell?_setCell_far _ ⟨sb, 3, none⟩ ⟨lb, 1, none⟩ _ (fun e => hne e.symm)).trans hHeld.2⟩
  refine hK.out _ _ hS4 (fun hHeld => ?_)
  clear hK K
  refine wpAnyH_take (i := 6) (v := ?_) rfl (by kernel_rfl) (by kernel_rfl) (by kernel_rfl) (fun _ _ _ h => h) (Or.inl ⟨by rfl, ?_⟩) hHeld ?_
  rotate_left
  · (intro w' hS'; go_simp <;> with_reducible rfl)
  simp only [Act.put, List.getElem_toArray, List.getElem_cons_succ, List.getElem_cons_zero, List.setIfInBounds_toArray, List.set]
  clear h3c h3f hS4 hS0
  generalize W3.setCell ⟨sb, 3, none⟩ (nu a) = W4 at *
  have h4c := HL4.out.cells.2.2.2.2.1
  have h4f := lone_open HL4.out 4
  have HL5 : Hid (Lone (W4.setCell ⟨sb, 4, none⟩ (nu b)) sb { x with prev := a, next := b }) := lone_next HL4.out b
  have HB5 : Hid (Below w.heap.size w (W4.setCell ⟨sb, 4, none⟩ (nu b))) := HB4.out.setCell (p := ⟨sb, 4, none⟩) hle _
  refine wpAnyH_ready (rs := [7]) (by kernel_rfl) (by simp) ?_
  refine AllReadyH.cons rfl (fun K hK => ?_) AllReadyH.nil
  go_simp
  have hS5 : (W4.setCell ⟨sb, 4, none⟩ (nu b)).cell? ⟨lb, 0, none⟩ = some (nu a) ∧ (W4.setCell ⟨sb, 4, none⟩ (nu b)).cell? ⟨lb, 1, none⟩ = some (nu b) := ⟨(World.cell?_setCell_far _ ⟨sb, 4, none⟩ ⟨lb, 0, none⟩ _ (fun e => hne e.symm)).trans hHeld.1, (World.cell?_setCell_far _ ⟨sb, 4, none⟩ ⟨lb, 1, none⟩ _ (fun e => hne e.symm)).trans hHeld.2⟩
  refine hK.out _ _ hS5 (fun hHeld => ?_)
  clear hK K
  refine wpAnyH_done (by kernel_rfl) ?_ _
  clear hHeld hS5 h4c h4f HL3 HB3 HL4 HB4
  generalize W4.setCell ⟨sb, 4, none⟩ (nu b) = W5 at *
  have HX := Hid.mk' HL5.out.range
  go_wp2_with (first | (refine wpList_load_slt rfl _ rfl sb 0 rfl { x with prev := a, next := b } HX.out ?_) | (refine (c3.out _ HB5.out).mono ?_; rintro e w6 ⟨rfl, hl6⟩; have HL6 := Hid.mk' hl6; clear hl6) | fail)
  go_end0
  exact ⟨⟨_, rfl⟩, HL6.out⟩

/-- One more write. -/
theorem left_more {w w1 w2 : World} {p : Nat} {F F1 : Nat → Prop} {A : Arn} (hk : Keep F w w1) (hg : Goes w F F1) (h : An.Left Rep w1 w2 p F1 A) : An.Left Rep w w2 p F A := by
  obtain ⟨G, h1, h2, h3⟩ := h
  exact ⟨G, h1, keep_goes hk hg h2, goes_trans hg h3 hk.size⟩

theorem left_below {w w1 w2 : World} {p : Nat} {F : Nat → Prop} {A : Arn} (hb : Below w.heap.size w w1) (h : An.Left Rep w1 w2 p F A) : An.Left Rep w w2 p F A :=
  left_more (Keep.of_below hb) (Goes.refl _ _) h

theorem left_after {w w1 w2 : World} {p : Nat} {F : Nat → Prop} {A : Arn} (H : KeepC Rep) (h : An.Left Rep w w1 p F A) (hb : Below w1.heap.size w1 w2) : An.Left Rep w w2 p F A := by
  obtain ⟨G, h1, h2, h3⟩ := h
  exact ⟨G, H.below h1 hb, h2.trans (Keep.of_below (F := fun _ => False) hb) (fun _ _ e => e.elim), h3⟩

set_option maxRecDepth 100000 in
set_option maxHeartbeats 1000000 in
theorem setPrev_p (H : KeepC Rep) (CG : GetC Rep) (CU : PutC Rep) (w : World) (p : Nat) (F : Nat → Prop) (A : Arn) (i n : Int) (h : Rep w p F A) (hg : An.Good A) (hwr : A.wr ≤ 1000000000) (ht : there i) :
    Calls Try.prog 52 #[ptr p, nu i, nu n] w fun e w' => (∃ u, e = .returned u) ∧ An.Left Rep w w' p F ⟨setP A.sl i n, A.fr, A.wr + 1⟩ := by
  have c1 := Hid.mk' (linksOf_p H CG w p F A i h hg)
  rw [pvN_in ht, nxN_in ht] at c1
  have c2 : Hid (∀ wx, Below w.heap.size w wx → Calls Try.prog 49 #[ptr p, nu i, lkv n (nx A.sl i)] wx fun e w' => (∃ u, e = .returned u) ∧ An.Left Rep w w' p F ⟨setP A.sl i n, A.fr, A.wr + 1⟩) := fun wx hb => by
    have := relink_p H CG CU wx p F A i n (nx A.sl i) (H.below h hb) hg hwr ht
    rw [both_prev] at this
    refine this.mono ?_
    rintro e w' ⟨h1, h2⟩
    exact ⟨h1, left_below hb h2⟩
  generalize pv A.sl i = pp at *
  generalize nx A.sl i = nn at *
  have hf0 := fld0 pp nn
  have hf1 := fld1 pp nn
  clear h hg hwr ht
  go_enter Try.func52, Try.ntmps52
  go_wp2_with fail
  refine c1.out.mono ?_
  rintro e w1 ⟨rfl, hb1⟩
  have HB1 := Hid.mk' hb1
  clear hb1 c1
  go_wp2_with fail
  refine (c2.out _ HB1.out).mono ?_
  rintro e w2 ⟨⟨u, rfl⟩, hl⟩
  have HL := Hid.mk' hl
  clear hl c2
  go_wp2
  go_end0
  exact ⟨⟨_, rfl⟩, HL.out⟩

set_option maxRecDepth 100000 in
set_option maxHeartbeats 1000000 in
theorem setNext_p (H : KeepC Rep) (CG : GetC Rep) (CU : PutC Rep) (w : World) (p : Nat) (F : Nat → Prop) (A : Arn) (i n : Int) (h : Rep w p F A) (hg : An.Good A) (hwr : A.wr ≤ 1000000000) (ht : there i) :
    Calls Try.prog 51 #[ptr p, nu i, nu n] w fun e w' => (∃ u, e = .returned u) ∧ An.Left Rep w w' p F ⟨setN A.sl i n, A.fr, A.wr + 1⟩ := by
  have c1 := Hid.mk' (linksOf_p H CG w p F A i h hg)
  rw [pvN_in ht, nxN_in ht] at c1
  have c2 : Hid (∀ wx, Below w.heap.size w wx → Calls Try.prog 49 #[ptr p, nu i, lkv (pv A.sl i) n] wx fun e w' => (∃ u, e = .returned u) ∧ An.Left Rep w w' p F ⟨setN A.sl i n, A.fr, A.wr + 1⟩) := fun wx hb => by
    have := relink_p H CG CU wx p F A i (pv A.sl i) n (H.below h hb) hg hwr ht
    rw [both_next] at this
    refine this.mono ?_
    rintro e w' ⟨h1, h2⟩
    exact ⟨h1, left_below hb h2⟩
  generalize pv A.sl i = pp at *
  generalize nx A.sl i = nn at *
  have hf0 := fld0 pp nn
  have hf1 := fld1 pp nn
  clear h hg hwr ht
  go_enter Try.func51, Try.ntmps51
  go_wp2_with fail
  refine c1.out.mono ?_
  rintro e w1 ⟨rfl, hb1⟩
  have HB1 := Hid.mk' hb1
  clear hb1 c1
  go_wp2_with fail
  refine (c2.out _ HB1.out).mono ?_
  rintro e w2 ⟨⟨u, rfl⟩, hl⟩
  have HL := Hid.mk' hl
  clear hl c2
  go_wp2
  go_end0
  exact ⟨⟨_, rfl⟩, HL.out⟩

set_option maxRecDepth 100000 in
set_option maxHeartbeats 1000000 in
theorem join_p (H : KeepC Rep) (CG : GetC Rep) (CU : PutC Rep) (w : World) (p : Nat) (F : Nat → Prop) (A : Arn) (i k : Int) (h : Rep w p F A) (hg : An.Good A) (hwr : A.wr ≤ 999999999) (ht : there i) (hk : there k) :
    Calls Try.prog 48 #[ptr p, nu i, nu k] w fun e w' => (∃ u, e = .returned u) ∧ An.Left Rep w w' p F ⟨link A.sl i k, A.fr, A.wr + 2⟩ := by
  have c1 := Hid.mk' (setNext_p H CG CU w p F A i k h hg (by omega) ht)
  have c2 : Hid (∀ wx, An.Left Rep w wx p F ⟨setN A.sl i k, A.fr, A.wr + 1⟩ → Calls Try.prog 52 #[ptr p, nu k, nu i] wx fun e w' => (∃ u, e = .returned u) ∧ An.Left Rep w w' p F ⟨link A.sl i k, A.fr, A.wr + 2⟩) := fun wx hl => by
    obtain ⟨G, h1, h2, h3⟩ := hl
    refine (setPrev_p H CG CU wx p G ⟨setN A.sl i k, A.fr, A.wr + 1⟩ k i h1 (good_sl hg (setN_len _ _ _)) (by show A.wr + 1 ≤ _; omega) hk).mono ?_
    rintro e w' ⟨h4, h5⟩
    exact ⟨h4, left_more h2 h3 h5⟩
  clear h hg hwr ht hk
  go_enter Try.func48, Try.ntmps48
  go_wp2_with fail
  refine c1.out.mono ?_
  rintro e w1 ⟨⟨u, rfl⟩, hl1⟩
  have HL1 := Hid.mk' hl1
  clear hl1 c1
  go_wp2_with fail
  refine (c2.out _ HL1.out).mono ?_
  rintro e w2 ⟨⟨u2, rfl⟩, hl⟩
  have HL := Hid.mk' hl
  clear hl c2 HL1
  go_wp2
  go_end0
  exact ⟨⟨_, rfl⟩, HL.out⟩
end
end Rg
end Go.Proofs.Ythabnombfbehkaa
