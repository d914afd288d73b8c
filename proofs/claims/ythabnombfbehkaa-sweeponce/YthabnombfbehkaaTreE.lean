import Derived.Test.YthabnombfbehkaaTreC
import Derived.Test.YthabnombfbehkaaRngG
import Derived.Test.YthabnombfbehkaaTreB
/- The program's trees: how one lies; what a slot holds, what is wrong with it, whether a parent is there. -/
namespace Go.Proofs.Ythabnombfbehkaa
set_option linter.ambiguousOpen false
open Go.RowKit
namespace Tr
open An Rg Ft Lv
set_option linter.unusedSimpArgs false
set_option linter.unusedVariables false

/-- What the arena and the rings answer. -/
structure ArC (Rep : World → Nat → (Nat → Prop) → Arn → Prop) : Prop where
  keep : KeepC Rep
  get : GetU Rep
  put : PutU Rep
  push : PushU Rep
  drop : DropU Rep
  all : AllU Rep

/-- The tree's own block. -/
def Tre (w : World) (q p : Nat) (l : Int) : Prop := w.heap[q]? = some (.cells #[ptr p, nu l] 68)

theorem Tre.lt {w : World} {q p : Nat} {l : Int} (h : Tre w q p l) : q < w.heap.size := (Array.getElem?_eq_some_iff.1 h).1

theorem Tre.cells {w : World} {q p : Nat} {l : Int} (h : Tre w q p l) : w.cell? ⟨q, 0, none⟩ = some (ptr p) ∧ w.cell? ⟨q, 1, none⟩ = some (nu l) ∧ ∀ i, w.frozen? ⟨q, i, none⟩ = false := by
  unfold Tre at h
  refine ⟨by simp [World.cell?, h], by simp [World.cell?, h], fun i => by simp [World.frozen?, h]⟩

theorem Tre.below {w w' : World} {q p : Nat} {l : Int} (h : Tre w q p l) (hb : Below w.heap.size w w') : Tre w' q p l := (hb.block q h.lt).trans h

theorem Tre.setLast {w : World} {q p : Nat} {l : Int} (h : Tre w q p l) (v : Int) : Tre (w.setCell ⟨q, 1, none⟩ (nu v)) q p v := by
  unfold Tre at h ⊢
  rw [heap_setCell_same _ q 1 _ _ _ h]
  rfl

/-- How the program's tree lies. -/
def RepT (Rep : World → Nat → (Nat → Prop) → Arn → Prop) : RepTy := fun w p q F A l => ∃ Fa, Rep w p Fa A ∧ Tre w q p l ∧ ¬ Fa q ∧ F = fun k => k = q ∨ Fa k

section
variable {Rep : World → Nat → (Nat → Prop) → Arn → Prop} {w w' : World} {p q : Nat} {F : Nat → Prop} {A A' : Arn} {l : Int}

theorem RepT.keep (H : KeepC Rep) (h : RepT Rep w p q F A l) {G : Nat → Prop} (hk : Keep G w w') (hn : ∀ k, F k → ¬ G k) : RepT Rep w' p q F A l := by
  obtain ⟨Fa, h1, h2, h3, rfl⟩ := h
  exact ⟨Fa, H.keep h1 hk (fun k hkk => hn k (.inr hkk)), (hk.block q h2.lt (hn q (.inl rfl))).trans h2, h3, rfl⟩

theorem RepT.below (H : KeepC Rep) (h : RepT Rep w p q F A l) (hb : Below w.heap.size w w') : RepT Rep w' p q F A l := h.keep H (Keep.of_below (F := fun _ => False) hb) (fun _ _ h => h)

theorem RepT.lt (H : KeepC Rep) (h : RepT Rep w p q F A l) (k : Nat) (hk : F k) : k < w.heap.size := by
  obtain ⟨Fa, h1, h2, h3, rfl⟩ := h
  rcases hk with rfl | hk
  · exact h2.lt
  · exact H.lt h1 k hk

theorem RepT.cells (h : RepT Rep w p q F A l) : w.cell? ⟨q, 0, none⟩ = some (ptr p) ∧ w.cell? ⟨q, 1, none⟩ = some (nu l) ∧ ∀ i, w.frozen? ⟨q, i, none⟩ = false := by
  obtain ⟨Fa, h1, h2, h3, rfl⟩ := h
  exact h2.cells

/-- What a call leaves of its arena, it leaves of the tree. -/
theorem leftT_of {Fa : Nat → Prop} (h2 : Tre w q p l) (h3 : ¬ Fa q) (hl : An.Left Rep w w' p Fa A') : LeftT (RepT Rep) w w' p q (fun k => k = q ∨ Fa k) A' l := by
  obtain ⟨G, g1, g2, g3⟩ := hl
  refine ⟨fun k => k = q ∨ G k, ⟨G, g1, (g2.block q h2.lt h3).trans h2, fun e => ?_, rfl⟩, g2.weaken (fun k _ e => .inr e), fun k hk => ?_⟩
  · rcases g3 q e with e | e
    · exact h3 e
    · have := h2.lt
      omega
  · rcases hk with e | e
    · exact .inl (.inl e)
    · exact (g3 k e).imp .inr id

theorem leftT_self (H : KeepC Rep) (h : RepT Rep w p q F A l) (hb : Below w.heap.size w w') : LeftT (RepT Rep) w w' p q F A l := ⟨F, h.below H hb, Keep.of_below hb, Goes.refl _ _⟩

theorem leftT_below {w0 : World} (hb : Below w0.heap.size w0 w) (hl : LeftT (RepT Rep) w w' p q F A l) : LeftT (RepT Rep) w0 w' p q F A l := by
  obtain ⟨G, g1, g2, g3⟩ := hl
  exact ⟨G, g1, (Keep.of_below hb).trans g2 (fun _ _ e => e), goes_trans (Goes.refl _ _) g3 hb.size⟩

theorem leftT_after (H : KeepC Rep) {w2 : World} (hl : LeftT (RepT Rep) w w' p q F A l) (hb : Below w'.heap.size w' w2) : LeftT (RepT Rep) w w2 p q F A l := by
  obtain ⟨G, g1, g2, g3⟩ := hl
  exact ⟨G, g1.below H hb, g2.trans (Keep.of_below (F := fun _ => False) hb) (fun _ _ e => e.elim), g3⟩

theorem leftT_more {w0 : World} {F0 : Nat → Prop} (hk : Keep F0 w0 w) (hg : Goes w0 F0 F) (hl : LeftT (RepT Rep) w w' p q F A l) : LeftT (RepT Rep) w0 w' p q F0 A l := by
  obtain ⟨G, g1, g2, g3⟩ := hl
  exact ⟨G, g1, keep_goes hk hg g2, goes_trans hg g3 hk.size⟩

theorem leftT_last (H : KeepC Rep) (h : RepT Rep w p q F A l) (v : Int) : LeftT (RepT Rep) w (w.setCell ⟨q, 1, none⟩ (nu v)) p q F A v := by
  obtain ⟨Fa, h1, h2, h3, rfl⟩ := h
  have hk : Keep (fun j => j = q) w (w.setCell ⟨q, 1, none⟩ (nu v)) := (Keep.refl (fun j => j = q) w).setCell (p := ⟨q, 1, none⟩) (.inl rfl) _
  exact ⟨_, ⟨Fa, H.keep h1 hk (fun k hkk e => h3 (e ▸ hkk)), h2.setLast v, h3, rfl⟩, hk.weaken (fun k _ e => .inl e), Goes.refl _ _⟩
end

/-! ### What a slot holds -/

theorem lone_there {w : World} {b : Nat} {x : Slt} (h : Lone w b x) : w.there b 0 17 := fun j hj => by
  rw [Nat.zero_add, cell_of_row w b j _ _ _ h]
  have : x.cells.toArray.size = 17 := by simp [Slt.len]
  exact ⟨by simp [this, hj], lone_open h j⟩

theorem lone_cells {w : World} {b : Nat} {y : Slt} (h : Lone w b y) (x : Slt) : Lone (w.setCells b 0 x.cells) b x := by
  obtain ⟨C', e1, e2⟩ := heap_setCells b _ x.cells 0 w y.cells.toArray h (by simp [Slt.len])
  unfold Lone
  rw [e1]
  refine congrArg (fun c => some (Obj.cells c 49 (0, 0))) (Array.toList_inj.1 ?_)
  rw [e2, Slt.len]
  simp [Slt.len]

theorem lone_kids {w : World} {b : Nat} {x : Slt} (h : Lone w b x) (a : Int) : Lone (w.setCell ⟨b, 2, none⟩ (nu a)) b { x with kids := a } := by
  unfold Lone at h ⊢
  rw [heap_setCell_same _ b 2 _ _ _ h]
  rfl

theorem lone_up {w : World} {b : Nat} {x : Slt} (h : Lone w b x) (us ub : Int) : Lone ((w.setCell ⟨b, 7, none⟩ (nu us)).setCell ⟨b, 8, none⟩ (nu ub)) b (hung x us ub) := by
  have h1 : (w.setCell ⟨b, 7, none⟩ (nu us)).heap[b]? = some (.cells (x.cells.toArray.setIfInBounds 7 (nu us)) 49) := by
    unfold Lone at h
    rw [heap_setCell_same _ b 7 _ _ _ h]
  unfold Lone
  rw [heap_setCell_same _ b 8 _ _ _ h1]
  rfl

theorem at_there {A : Arn} {i : Int} (h : there i) : A.at i = at' A.sl i := by
  unfold Arn.at at'
  rw [if_pos h]

section
variable {Rep : World → Nat → (Nat → Prop) → Arn → Prop}

set_option maxRecDepth 100000 in
set_option maxHeartbeats 1000000 in
theorem slot_p (C : ArC Rep) (w : World) (p q : Nat) (F : Nat → Prop) (A : Arn) (l i : Int) (h : RepT Rep w p q F A l) (hg : An.Good A) :
    Calls Try.prog 23 #[ptr q, nu i] w fun e w' => e = .returned (.tuple #[(A.at i).v, .bool (decide (there i))]) ∧ Below w.heap.size w w' := by
  have hB0 : Below w.heap.size w (w.alloc (.cells sltZ 49)) := (Below.refl _ _).alloc (Nat.le_refl _) _
  have hz0 := lone_zero w
  obtain ⟨W0, hW0⟩ : ∃ W0, w.alloc (.cells sltZ 49) = W0 := ⟨_, rfl⟩
  rw [hW0] at hB0 hz0
  have HW0 := Hid.mk' hW0
  have h' := h.below C.keep hB0
  have q0 := h'.cells.1
  obtain ⟨Fa, h1, h2, h3, rfl⟩ := h'
  have c2 := Hid.mk' (C.get W0 p Fa A i h1 hg)
  unfold Arn.atE at c2
  have HB0 := Hid.mk' hB0
  have HZ0 := Hid.mk' hz0
  by_cases ht : there i
  · rw [decide_eq_true ht]
    obtain ⟨x, hx⟩ : ∃ x, A.at i = x := ⟨_, rfl⟩
    rw [if_pos ht, hx] at c2
    rw [hx]
    have e0 : errE 0 = .nilIface := rfl
    rw [e0] at c2
    clear h hg ht hx e0 hB0 hz0 hW0 h1 h2 h3
    go_enter Try.func23, Try.ntmps23
    go_upto_region 1 with fail
    rw [HW0.out]
    go_wp2_with fail
    refine c2.out.mono ?_
    rintro e w1 ⟨rfl, hb1⟩
    have HB1 : Hid (Below w.heap.size w w1) := HB0.out.trans (hb1.mono HB0.out.size)
    have HR1 : Hid (Lone w1 w.heap.size slt0) := (hb1.block _ (Array.getElem?_eq_some_iff.1 HZ0.out).1).trans HZ0.out
    have hs1 := (Array.getElem?_eq_some_iff.1 HR1.out).1
    have HZ := Hid.mk' (lone_zero w1)
    have HBZ : Hid (Below w.heap.size w (w1.alloc (.cells sltZ 49))) := HB1.out.alloc HB1.out.size _
    have HRZ : Hid (Lone (w1.alloc (.cells sltZ 49)) w.heap.size slt0) := (heap_alloc_old _ _ hs1).trans HR1.out
    clear hb1 c2 q0
    go_wp2_with (first | (refine wpList_store_lone rfl _ _ rfl w1.heap.size rfl x rfl slt0 HZ.out ?_; intro w2 hl2 hg2 hs2; have HL2 := Hid.mk' hl2; have HB2 : Hid (Below w.heap.size w w2) := (HBZ.out.grown hg2 HBZ.out.size (fun r e => by cases e; exact HB1.out.size)); have HR2 : Hid (Lone w2 w.heap.size slt0) := ((hg2.block _ (Array.getElem?_eq_some_iff.1 HRZ.out).1 (fun e => by have := Option.some.inj e; omega)).trans HRZ.out); clear hl2 hg2 hs2) | fail)
    obtain ⟨sb, hsb⟩ : ∃ sb, w1.heap.size = sb := ⟨_, rfl⟩
    obtain ⟨rb, hrb⟩ : ∃ rb, w.heap.size = rb := ⟨_, rfl⟩
    have hne : rb ≠ sb := by omega
    have hle : w.heap.size ≤ rb := by omega
    rw [hsb] at HL2
    rw [hrb] at HR2
    simp only [hsb, hrb]
    have hS2 : Lone w2 sb x := HL2.out
    have HTH := Hid.mk' (lone_there (w := w2.drew) HR2.out)
    have HR3 : Hid (Lone (w2.drew.setCells rb 0 x.cells) rb x) := lone_cells (w := w2.drew) HR2.out x
    have hS3 : Lone (w2.drew.setCells rb 0 x.cells) sb x := ((grown_setCells rb x.cells 0 w2.drew).block _ (Array.getElem?_eq_some_iff.1 hS2).1 (fun e => hne (Option.some.inj e).symm)).trans hS2
    have HB3 : Hid (Below w.heap.size w (w2.drew.setCells rb 0 x.cells)) := HB2.out.drew.grown (grown_setCells rb x.cells 0 w2.drew) HB2.out.drew.size (fun r e => by cases e; exact hle)
    clear HR1 HZ HBZ HRZ hs1 HB1 hsb hrb HB2 HL2
    refine wp_region_held_drew (S := fun w' => Lone w' sb x) (by kernel_rfl) hS2 (fun hHeld => ?_)
    refine wpAnyH_take (i := 0) (v := _) rfl (by kernel_rfl) (by kernel_rfl) (by kernel_rfl) (fun _ _ _ h => h) (yieldsIf_load_mid (by rfl) 49 _ rfl sb 0 rfl x.cells _ (fun w' h => h.range) Try.underlying49 rfl size_slt) hHeld ?_
    simp only [Act.put, List.getElem_toArray, List.getElem_cons_succ, List.getElem_cons_zero, List.setIfInBounds_toArray, List.set]
    refine wpAnyH_take (i := 1) (v := ?_) rfl (by kernel_rfl) (by kernel_rfl) (by kernel_rfl) (fun _ _ _ h => h) (Or.inl ⟨by rfl, ?_⟩) hHeld ?_
    rotate_left
    · (intro w' hS'; go_simp <;> with_reducible rfl)
    simp only [Act.put, List.getElem_toArray, List.getElem_cons_succ, List.getElem_cons_zero, List.setIfInBounds_toArray, List.set]
    refine wpAnyH_take (i := 2) (v := ?_) rfl (by kernel_rfl) (by kernel_rfl) (by kernel_rfl) (fun _ _ _ h => h) (Or.inl ⟨by rfl, ?_⟩) hHeld ?_
    rotate_left
    · (intro w' hS'; go_simp <;> with_reducible rfl)
    simp only [Act.put, List.getElem_toArray, List.getElem_cons_succ, List.getElem_cons_zero, List.setIfInBounds_toArray, List.set]
    refine wpAnyH_ready (rs := [3]) (by kernel_rfl) (by simp) ?_
    refine AllReadyH.cons rfl (fun K hK => ?_) AllReadyH.nil
    rw [if_pos (by rfl)]
    simp only [List.getElem_toArray, List.getElem_cons_succ, List.getElem_cons_zero]
    refine wp_store_mid 49 _ _ rfl rb 0 x.cells.toArray rfl rfl HTH.out size_slt (all_one x) ?_
    refine hK.out _ _ hS3 (fun hHeld => ?_)
    clear hK K
    refine wpAnyH_take (i := 4) (v := ?_) rfl (by kernel_rfl) (by kernel_rfl) (by kernel_rfl) (fun _ _ _ h => h) (Or.inl ⟨by rfl, ?_⟩) hHeld ?_
    rotate_left
    · (intro w' hS'; go_simp <;> with_reducible rfl)
    simp only [Act.put, List.getElem_toArray, List.getElem_cons_succ, List.getElem_cons_zero, List.setIfInBounds_toArray, List.set]
    refine wpAnyH_done (by kernel_rfl) ?_ _
    clear hHeld hS2 hS3 HTH HR2
    generalize w2.drew.setCells rb 0 x.cells = w3 at *
    go_wp2
    refine bodyPost_ret (results_slt rfl _ _ rb x rfl HR3.out) rfl ?_
    exact ⟨rfl, HB3.out⟩
  · rw [decide_eq_false ht]
    have hx : A.at i = slt0 := by unfold Arn.at; rw [if_neg ht]
    rw [if_neg ht, hx] at c2
    rw [hx]
    have e0 : errE 1 = .iface 65 (.int .i64 1) := rfl
    rw [e0] at c2
    clear h hg ht hx e0 hB0 hz0 hW0 h1 h2 h3
    go_enter Try.func23, Try.ntmps23
    go_upto_region 1 with fail
    rw [HW0.out]
    go_wp2_with fail
    refine c2.out.mono ?_
    rintro e w1 ⟨rfl, hb1⟩
    have HB1 : Hid (Below w.heap.size w w1) := HB0.out.trans (hb1.mono HB0.out.size)
    have HR1 : Hid (Lone w1 w.heap.size slt0) := (hb1.block _ (Array.getElem?_eq_some_iff.1 HZ0.out).1).trans HZ0.out
    have hs1 := (Array.getElem?_eq_some_iff.1 HR1.out).1
    have HZ := Hid.mk' (lone_zero w1)
    have HBZ : Hid (Below w.heap.size w (w1.alloc (.cells sltZ 49))) := HB1.out.alloc HB1.out.size _
    have HRZ : Hid (Lone (w1.alloc (.cells sltZ 49)) w.heap.size slt0) := (heap_alloc_old _ _ hs1).trans HR1.out
    clear hb1 c2 q0
    go_wp2_with (first | (refine wpList_store_lone rfl _ _ rfl w1.heap.size rfl slt0 rfl slt0 HZ.out ?_; intro w2 hl2 hg2 hs2; have HL2 := Hid.mk' hl2; have HB2 : Hid (Below w.heap.size w w2) := (HBZ.out.grown hg2 HBZ.out.size (fun r e => by cases e; exact HB1.out.size)); have HR2 : Hid (Lone w2 w.heap.size slt0) := ((hg2.block _ (Array.getElem?_eq_some_iff.1 HRZ.out).1 (fun e => by have := Option.some.inj e; omega)).trans HRZ.out); clear hl2 hg2 hs2) | fail)
    obtain ⟨sb, hsb⟩ : ∃ sb, w1.heap.size = sb := ⟨_, rfl⟩
    obtain ⟨rb, hrb⟩ : ∃ rb, w.heap.size = rb := ⟨_, rfl⟩
    have hne : rb ≠ sb := by omega
    have hle : w.heap.size ≤ rb := by omega
    rw [hsb] at HL2
    rw [hrb] at HR2
    simp only [hsb, hrb]
    have hS2 : Lone w2 sb slt0 := HL2.out
    have HTH := Hid.mk' (lone_there (w := w2.drew) HR2.out)
    have HR3 : Hid (Lone (w2.drew.setCells rb 0 slt0.cells) rb slt0) := lone_cells (w := w2.drew) HR2.out slt0
    have hS3 : Lone (w2.drew.setCells rb 0 slt0.cells) sb slt0 := ((grown_setCells rb slt0.cells 0 w2.drew).block _ (Array.getElem?_eq_some_iff.1 hS2).1 (fun e => hne (Option.some.inj e).symm)).trans hS2
    have HB3 : Hid (Below w.heap.size w (w2.drew.setCells rb 0 slt0.cells)) := HB2.out.drew.grown (grown_setCells rb slt0.cells 0 w2.drew) HB2.out.drew.size (fun r e => by cases e; exact hle)
    clear HR1 HZ HBZ HRZ hs1 HB1 hsb hrb HB2 HL2
    refine wp_region_held_drew (S := fun w' => Lone w' sb slt0) (by kernel_rfl) hS2 (fun hHeld => ?_)
    refine wpAnyH_take (i := 0) (v := _) rfl (by kernel_rfl) (by kernel_rfl) (by kernel_rfl) (fun _ _ _ h => h) (yieldsIf_load_mid (by rfl) 49 _ rfl sb 0 rfl slt0.cells _ (fun w' h => h.range) Try.underlying49 rfl size_slt) hHeld ?_
    simp only [Act.put, List.getElem_toArray, List.getElem_cons_succ, List.getElem_cons_zero, List.setIfInBounds_toArray, List.set]
    refine wpAnyH_take (i := 1) (v := ?_) rfl (by kernel_rfl) (by kernel_rfl) (by kernel_rfl) (fun _ _ _ h => h) (Or.inl ⟨by rfl, ?_⟩) hHeld ?_
    rotate_left
    · (intro w' hS'; go_simp <;> with_reducible rfl)
    simp only [Act.put, List.getElem_toArray, List.getElem_cons_succ, List.getElem_cons_zero, List.setIfInBounds_toArray, List.set]
    refine wpAnyH_take (i := 2) (v := ?_) rfl (by kernel_rfl) (by kernel_rfl) (by kernel_rfl) (fun _ _ _ h => h) (Or.inl ⟨by rfl, ?_⟩) hHeld ?_
    rotate_left
    · (intro w' hS'; go_simp <;> with_reducible rfl)
    simp only [Act.put, List.getElem_toArray, List.getElem_cons_succ, List.getElem_cons_zero, List.setIfInBounds_toArray, List.set]
    refine wpAnyH_ready (rs := [3]) (by kernel_rfl) (by simp) ?_
    refine AllReadyH.cons rfl (fun K hK => ?_) AllReadyH.nil
    rw [if_pos (by rfl)]
    simp only [List.getElem_toArray, List.getElem_cons_succ, List.getElem_cons_zero]
    refine wp_store_mid 49 _ _ rfl rb 0 slt0.cells.toArray rfl rfl HTH.out size_slt (all_one slt0) ?_
    refine hK.out _ _ hS3 (fun hHeld => ?_)
    clear hK K
    refine wpAnyH_take (i := 4) (v := ?_) rfl (by kernel_rfl) (by kernel_rfl) (by kernel_rfl) (fun _ _ _ h => h) (Or.inl ⟨by rfl, ?_⟩) hHeld ?_
    rotate_left
    · (intro w' hS'; go_simp <;> with_reducible rfl)
    simp only [Act.put, List.getElem_toArray, List.getElem_cons_succ, List.getElem_cons_zero, List.setIfInBounds_toArray, List.set]
    refine wpAnyH_done (by kernel_rfl) ?_ _
    clear hHeld hS2 hS3 HTH HR2
    generalize w2.drew.setCells rb 0 slt0.cells = w3 at *
    go_wp2
    refine bodyPost_ret (results_slt rfl _ _ rb slt0 rfl HR3.out) rfl ?_
    exact ⟨rfl, HB3.out⟩

/-- From a later world on. -/
theorem slot_h (C : ArC Rep) (w : World) (p q : Nat) (F : Nat → Prop) (A : Arn) (l i : Int) (h : RepT Rep w p q F A l) (hg : An.Good A) (wx : World) (hb : Below w.heap.size w wx) :
    Calls Try.prog 23 #[ptr q, nu i] wx fun e w' => e = .returned (.tuple #[(A.at i).v, .bool (decide (there i))]) ∧ Below w.heap.size w w' := by
  refine (slot_p C wx p q F A l i (h.below C.keep hb) hg).mono ?_
  rintro e w' ⟨rfl, hb'⟩
  exact ⟨rfl, hb.trans (hb'.mono hb.size)⟩
end
end Tr
end Go.Proofs.Ythabnombfbehkaa
