/- SgE, SgF, SgG, in one text. -/
import Derived.Test.YthabnombfbehkaaSwpC
import Derived.Test.YthabnombfbehkaaTreE
import Derived.Maps.AppendAt
/- The program's garbage: how it lies; a slot, turn, Last, New. -/
namespace Go.Proofs.Ythabnombfbehkaa
set_option linter.ambiguousOpen false
open Go.RowKit
namespace Sp
open An Rg Ft Lv Sw
set_option linter.unusedSimpArgs false
set_option linter.unusedVariables false

/-- What the arena and the rings answer. -/
structure GaC (Rep : World → Nat → (Nat → Prop) → Arn → Prop) : Prop where
  keep : KeepC Rep
  get : GetU Rep
  push : PushU Rep
  drop : DropU Rep
  splice : SpliceU Rep
  all : AllU Rep
  free : FreeC Rep

/-- The garbage's own block. -/
def Grb (w : World) (q p : Nat) (l : Int) : Prop := w.heap[q]? = some (.cells #[ptr p, nu l] 61)

theorem Grb.lt {w : World} {q p : Nat} {l : Int} (h : Grb w q p l) : q < w.heap.size := (Array.getElem?_eq_some_iff.1 h).1

theorem Grb.cells {w : World} {q p : Nat} {l : Int} (h : Grb w q p l) : w.cell? ⟨q, 0, none⟩ = some (ptr p) ∧ w.cell? ⟨q, 1, none⟩ = some (nu l) ∧ ∀ i, w.frozen? ⟨q, i, none⟩ = false := by
  unfold Grb at h
  refine ⟨by simp [World.cell?, h], by simp [World.cell?, h], fun i => by simp [World.frozen?, h]⟩

theorem Grb.below {w w' : World} {q p : Nat} {l : Int} (h : Grb w q p l) (hb : Below w.heap.size w w') : Grb w' q p l := (hb.block q h.lt).trans h

theorem Grb.setLast {w : World} {q p : Nat} {l : Int} (h : Grb w q p l) (v : Int) : Grb (w.setCell ⟨q, 1, none⟩ (nu v)) q p v := by
  unfold Grb at h ⊢
  rw [heap_setCell_same _ q 1 _ _ _ h]
  rfl

/-- How the program's garbage lies. -/
def RepS (Rep : World → Nat → (Nat → Prop) → Arn → Prop) : RepTy := fun w p q F A l => ∃ Fa, Rep w p Fa A ∧ Grb w q p l ∧ ¬ Fa q ∧ F = fun k => k = q ∨ Fa k

section
variable {Rep : World → Nat → (Nat → Prop) → Arn → Prop} {w w' : World} {p q : Nat} {F : Nat → Prop} {A A' : Arn} {l : Int}

theorem RepS.keep (H : KeepC Rep) (h : RepS Rep w p q F A l) {G : Nat → Prop} (hk : Keep G w w') (hn : ∀ k, F k → ¬ G k) : RepS Rep w' p q F A l := by
  obtain ⟨Fa, h1, h2, h3, rfl⟩ := h
  exact ⟨Fa, H.keep h1 hk (fun k hkk => hn k (.inr hkk)), (hk.block q h2.lt (hn q (.inl rfl))).trans h2, h3, rfl⟩

theorem RepS.below (H : KeepC Rep) (h : RepS Rep w p q F A l) (hb : Below w.heap.size w w') : RepS Rep w' p q F A l := h.keep H (Keep.of_below (F := fun _ => False) hb) (fun _ _ h => h)

theorem RepS.lt (H : KeepC Rep) (h : RepS Rep w p q F A l) (k : Nat) (hk : F k) : k < w.heap.size := by
  obtain ⟨Fa, h1, h2, h3, rfl⟩ := h
  rcases hk with rfl | hk
  · exact h2.lt
  · exact H.lt h1 k hk

theorem RepS.cells (h : RepS Rep w p q F A l) : w.cell? ⟨q, 0, none⟩ = some (ptr p) ∧ w.cell? ⟨q, 1, none⟩ = some (nu l) ∧ ∀ i, w.frozen? ⟨q, i, none⟩ = false := by
  obtain ⟨Fa, h1, h2, h3, rfl⟩ := h
  exact h2.cells

/-- What a call leaves of its arena, it leaves of the garbage. -/
theorem leftS_of {Fa : Nat → Prop} (h2 : Grb w q p l) (h3 : ¬ Fa q) (hl : An.Left Rep w w' p Fa A') : LeftT (RepS Rep) w w' p q (fun k => k = q ∨ Fa k) A' l := by
  obtain ⟨G, g1, g2, g3⟩ := hl
  refine ⟨fun k => k = q ∨ G k, ⟨G, g1, (g2.block q h2.lt h3).trans h2, fun e => ?_, rfl⟩, g2.weaken (fun k _ e => .inr e), fun k hk => ?_⟩
  · rcases g3 q e with e | e
    · exact h3 e
    · have := h2.lt
      omega
  · rcases hk with e | e
    · exact .inl (.inl e)
    · exact (g3 k e).imp .inr id

theorem leftS_self (H : KeepC Rep) (h : RepS Rep w p q F A l) (hb : Below w.heap.size w w') : LeftT (RepS Rep) w w' p q F A l := ⟨F, h.below H hb, Keep.of_below hb, Goes.refl _ _⟩

theorem leftS_below {w0 : World} (hb : Below w0.heap.size w0 w) (hl : LeftT (RepS Rep) w w' p q F A l) : LeftT (RepS Rep) w0 w' p q F A l := by
  obtain ⟨G, g1, g2, g3⟩ := hl
  exact ⟨G, g1, (Keep.of_below hb).trans g2 (fun _ _ e => e), goes_trans (Goes.refl _ _) g3 hb.size⟩

theorem leftS_after (H : KeepC Rep) {w2 : World} (hl : LeftT (RepS Rep) w w' p q F A l) (hb : Below w'.heap.size w' w2) : LeftT (RepS Rep) w w2 p q F A l := by
  obtain ⟨G, g1, g2, g3⟩ := hl
  exact ⟨G, g1.below H hb, g2.trans (Keep.of_below (F := fun _ => False) hb) (fun _ _ e => e.elim), g3⟩

theorem leftS_more {w0 : World} {F0 : Nat → Prop} (hk : Keep F0 w0 w) (hg : Goes w0 F0 F) (hl : LeftT (RepS Rep) w w' p q F A l) : LeftT (RepS Rep) w0 w' p q F0 A l := by
  obtain ⟨G, g1, g2, g3⟩ := hl
  exact ⟨G, g1, keep_goes hk hg g2, goes_trans hg g3 hk.size⟩

theorem leftS_last (H : KeepC Rep) (h : RepS Rep w p q F A l) (v : Int) : LeftT (RepS Rep) w (w.setCell ⟨q, 1, none⟩ (nu v)) p q F A v := by
  obtain ⟨Fa, h1, h2, h3, rfl⟩ := h
  have hk : Keep (fun j => j = q) w (w.setCell ⟨q, 1, none⟩ (nu v)) := (Keep.refl (fun j => j = q) w).setCell (p := ⟨q, 1, none⟩) (.inl rfl) _
  exact ⟨_, ⟨Fa, H.keep h1 hk (fun k hkk e => h3 (e ▸ hkk)), h2.setLast v, h3, rfl⟩, hk.weaken (fun k _ e => .inl e), Goes.refl _ _⟩
end

section
variable {Rep : World → Nat → (Nat → Prop) → Arn → Prop}

set_option maxRecDepth 100000 in
set_option maxHeartbeats 1000000 in
theorem slot_s (C : GaC Rep) (w : World) (p q : Nat) (F : Nat → Prop) (A : Arn) (l i : Int) (h : RepS Rep w p q F A l) (hg : An.Good A) :
    Calls Try.prog 29 #[ptr q, nu i] w fun e w' => e = .returned (.tuple #[(A.at i).v, .bool (decide (there i))]) ∧ Below w.heap.size w w' := by
  have hB0 : Below w.heap.size w (w.alloc (.cells sltZ 49)) := (Below.refl _ _).alloc (Nat.le_refl _) _
  have hz0 := lone_zero w
  obtain ⟨W0, hW0⟩ : ∃ W0, w.alloc (.cells sltZ 49) = W0 := ⟨_, rfl⟩
  rw [hW0] at hB0 hz0
  have HW0 := Hid.mk' hW0
  have h' := h.below C.keep hB0
  have q0 := h'.cells.1
  obtain ⟨Fa, h1, h2, h3, rfl⟩ := h'
  have c2 := Hid.mk' (C.get W0 p Fa A i h1 hg)
  unfold Arn.atE at c2
  have HB0 := Hid.mk' hB0
  have HZ0 := Hid.mk' hz0
  by_cases ht : there i
  · rw [decide_eq_true ht]
    obtain ⟨x, hx⟩ : ∃ x, A.at i = x := ⟨_, rfl⟩
    rw [if_pos ht, hx] at c2
    rw [hx]
    have e0 : errE 0 = .nilIface := rfl
    rw [e0] at c2
    clear h hg ht hx e0 hB0 hz0 hW0 h1 h2 h3
    go_enter Try.func29, Try.ntmps29
    go_upto_region 1 with fail
    rw [HW0.out]
    go_wp2_with fail
    refine c2.out.mono ?_
    rintro e w1 ⟨rfl, hb1⟩
    have HB1 : Hid (Below w.heap.size w w1) := HB0.out.trans (hb1.mono HB0.out.size)
    have HR1 : Hid (Lone w1 w.heap.size slt0) := (hb1.block _ (Array.getElem?_eq_some_iff.1 HZ0.out).1).trans HZ0.out
    have hs1 := (Array.getElem?_eq_some_iff.1 HR1.out).1
    have HZ := Hid.mk' (lone_zero w1)
    have HBZ : Hid (Below w.heap.size w (w1.alloc (.cells sltZ 49))) := HB1.out.alloc HB1.out.size _
    have HRZ : Hid (Lone (w1.alloc (.cells sltZ 49)) w.heap.size slt0) := (heap_alloc_old _ _ hs1).trans HR1.out
    clear hb1 c2 q0
    go_wp2_with (first | (refine wpList_store_lone rfl _ _ rfl w1.heap.size rfl x rfl slt0 HZ.out ?_; intro w2 hl2 hg2 hs2; have HL2 := Hid.mk' hl2; have HB2 : Hid (Below w.heap.size w w2) := (HBZ.out.grown hg2 HBZ.out.size (fun r e => by cases e; exact HB1.out.size)); have HR2 : Hid (Lone w2 w.heap.size slt0) := ((hg2.block _ (Array.getElem?_eq_some_iff.1 HRZ.out).1 (fun e => by have := Option.some.inj e; omega)).trans HRZ.out); clear hl2 hg2 hs2) | fail)
    obtain ⟨sb, hsb⟩ : ∃ sb, w1.heap.size = sb := ⟨_, rfl⟩
    obtain ⟨rb, hrb⟩ : ∃ rb, w.heap.size = rb := ⟨_, rfl⟩
    have hne : rb ≠ sb := by omega
    have hle : w.heap.size ≤ rb := by omega
    rw [hsb] at HL2
    rw [hrb] at HR2
    simp only [hsb, hrb]
    have hS2 : Lone w2 sb x := HL2.out
    have HTH := Hid.mk' (Tr.lone_there (w := w2.drew) HR2.out)
    have HR3 : Hid (Lone (w2.drew.setCells rb 0 x.cells) rb x) := Tr.lone_cells (w := w2.drew) HR2.out x
    have hS3 : Lone (w2.drew.setCells rb 0 x.cells) sb x := ((grown_setCells rb x.cells 0 w2.drew).block _ (Array.getElem?_eq_some_iff.1 hS2).1 (fun e => hne (Option.some.inj e).symm)).trans hS2
    have HB3 : Hid (Below w.heap.size w (w2.drew.setCells rb 0 x.cells)) := HB2.out.drew.grown (grown_setCells rb x.cells 0 w2.drew) HB2.out.drew.size (fun r e => by cases e; exact hle)
    clear HR1 HZ HBZ HRZ hs1 HB1 hsb hrb HB2 HL2
    refine wp_region_held_drew (S := fun w' => Lone w' sb x) (by kernel_rfl) hS2 (fun hHeld => ?_)
    refine wpAnyH_take (i := 0) (v := _) rfl (by kernel_rfl) (by kernel_rfl) (by kernel_rfl) (fun _ _ _ h => h) (yieldsIf_load_mid (by rfl) 49 _ rfl sb 0 rfl x.cells _ (fun w' h => h.range) Try.underlying49 rfl size_slt) hHeld ?_
    simp only [Act.put, List.getElem_toArray, List.getElem_cons_succ, List.getElem_cons_zero, List.setIfInBounds_toArray, List.set]
    refine wpAnyH_take (i := 1) (v := ?_) rfl (by kernel_rfl) (by kernel_rfl) (by kernel_rfl) (fun _ _ _ h => h) (Or.inl ⟨by rfl, ?_⟩) hHeld ?_
    rotate_left
    · (intro w' hS'; go_simp <;> with_reducible rfl)
    simp only [Act.put, List.getElem_toArray, List.getElem_cons_succ, List.getElem_cons_zero, List.setIfInBounds_toArray, List.set]
    refine wpAnyH_take (i := 2) (v := ?_) rfl (by kernel_rfl) (by kernel_rfl) (by kernel_rfl) (fun _ _ _ h => h) (Or.inl ⟨by rfl, ?_⟩) hHeld ?_
    rotate_left
    · (intro w' hS'; go_simp <;> with_reducible rfl)
    simp only [Act.put, List.getElem_toArray, List.getElem_cons_succ, List.getElem_cons_zero, List.setIfInBounds_toArray, List.set]
    refine wpAnyH_ready (rs := [3]) (by kernel_rfl) (by simp) ?_
    refine AllReadyH.cons rfl (fun K hK => ?_) AllReadyH.nil
    rw [if_pos (by rfl)]
    simp only [List.getElem_toArray, List.getElem_cons_succ, List.getElem_cons_zero]
    refine wp_store_mid 49 _ _ rfl rb 0 x.cells.toArray rfl rfl HTH.out size_slt (all_one x) ?_
    refine hK.out _ _ hS3 (fun hHeld => ?_)
    clear hK K
    refine wpAnyH_take (i := 4) (v := ?_) rfl (by kernel_rfl) (by kernel_rfl) (by kernel_rfl) (fun _ _ _ h => h) (Or.inl ⟨by rfl, ?_⟩) hHeld ?_
    rotate_left
    · (intro w' hS'; go_simp <;> with_reducible rfl)
    simp only [Act.put, List.getElem_toArray, List.getElem_cons_succ, List.getElem_cons_zero, List.setIfInBounds_toArray, List.set]
    refine wpAnyH_done (by kernel_rfl) ?_ _
    clear hHeld hS2 hS3 HTH HR2
    generalize w2.drew.setCells rb 0 x.cells = w3 at *
    go_wp2
    refine bodyPost_ret (results_slt rfl _ _ rb x rfl HR3.out) rfl ?_
    exact ⟨rfl, HB3.out⟩
  · rw [decide_eq_false ht]
    have hx : A.at i = slt0 := by unfold Arn.at; rw [if_neg ht]
    rw [if_neg ht, hx] at c2
    rw [hx]
    have e0 : errE 1 = .iface 65 (.int .i64 1) := rfl
    rw [e0] at c2
    clear h hg ht hx e0 hB0 hz0 hW0 h1 h2 h3
    go_enter Try.func29, Try.ntmps29
    go_upto_region 1 with fail
    rw [HW0.out]
    go_wp2_with fail
    refine c2.out.mono ?_
    rintro e w1 ⟨rfl, hb1⟩
    have HB1 : Hid (Below w.heap.size w w1) := HB0.out.trans (hb1.mono HB0.out.size)
    have HR1 : Hid (Lone w1 w.heap.size slt0) := (hb1.block _ (Array.getElem?_eq_some_iff.1 HZ0.out).1).trans HZ0.out
    have hs1 := (Array.getElem?_eq_some_iff.1 HR1.out).1
    have HZ := Hid.mk' (lone_zero w1)
    have HBZ : Hid (Below w.heap.size w (w1.alloc (.cells sltZ 49))) := HB1.out.alloc HB1.out.size _
    have HRZ : Hid (Lone (w1.alloc (.cells sltZ 49)) w.heap.size slt0) := (heap_alloc_old _ _ hs1).trans HR1.out
    clear hb1 c2 q0
    go_wp2_with (first | (refine wpList_store_lone rfl _ _ rfl w1.heap.size rfl slt0 rfl slt0 HZ.out ?_; intro w2 hl2 hg2 hs2; have HL2 := Hid.mk' hl2; have HB2 : Hid (Below w.heap.size w w2) := (HBZ.out.grown hg2 HBZ.out.size (fun r e => by cases e; exact HB1.out.size)); have HR2 : Hid (Lone w2 w.heap.size slt0) := ((hg2.block _ (Array.getElem?_eq_some_iff.1 HRZ.out).1 (fun e => by have := Option.some.inj e; omega)).trans HRZ.out); clear hl2 hg2 hs2) | fail)
    obtain ⟨sb, hsb⟩ : ∃ sb, w1.heap.size = sb := ⟨_, rfl⟩
    obtain ⟨rb, hrb⟩ : ∃ rb, w.heap.size = rb := ⟨_, rfl⟩
    have hne : rb ≠ sb := by omega
    have hle : w.heap.size ≤ rb := by omega
    rw [hsb] at HL2
    rw [hrb] at HR2
    simp only [hsb, hrb]
    have hS2 : Lone w2 sb slt0 := HL2.out
    have HTH := Hid.mk' (Tr.lone_there (w := w2.drew) HR2.out)
    have HR3 : Hid (Lone (w2.drew.setCells rb 0 slt0.cells) rb slt0) := Tr.lone_cells (w := w2.drew) HR2.out slt0
    have hS3 : Lone (w2.drew.setCells rb 0 slt0.cells) sb slt0 := ((grown_setCells rb slt0.cells 0 w2.drew).block _ (Array.getElem?_eq_some_iff.1 hS2).1 (fun e => hne (Option.some.inj e).symm)).trans hS2
    have HB3 : Hid (Below w.heap.size w (w2.drew.setCells rb 0 slt0.cells)) := HB2.out.drew.grown (grown_setCells rb slt0.cells 0 w2.drew) HB2.out.drew.size (fun r e => by cases e; exact hle)
    clear HR1 HZ HBZ HRZ hs1 HB1 hsb hrb HB2 HL2
    refine wp_region_held_drew (S := fun w' => Lone w' sb slt0) (by kernel_rfl) hS2 (fun hHeld => ?_)
    refine wpAnyH_take (i := 0) (v := _) rfl (by kernel_rfl) (by kernel_rfl) (by kernel_rfl) (fun _ _ _ h => h) (yieldsIf_load_mid (by rfl) 49 _ rfl sb 0 rfl slt0.cells _ (fun w' h => h.range) Try.underlying49 rfl size_slt) hHeld ?_
    simp only [Act.put, List.getElem_toArray, List.getElem_cons_succ, List.getElem_cons_zero, List.setIfInBounds_toArray, List.set]
    refine wpAnyH_take (i := 1) (v := ?_) rfl (by kernel_rfl) (by kernel_rfl) (by kernel_rfl) (fun _ _ _ h => h) (Or.inl ⟨by rfl, ?_⟩) hHeld ?_
    rotate_left
    · (intro w' hS'; go_simp <;> with_reducible rfl)
    simp only [Act.put, List.getElem_toArray, List.getElem_cons_succ, List.getElem_cons_zero, List.setIfInBounds_toArray, List.set]
    refine wpAnyH_take (i := 2) (v := ?_) rfl (by kernel_rfl) (by kernel_rfl) (by kernel_rfl) (fun _ _ _ h => h) (Or.inl ⟨by rfl, ?_⟩) hHeld ?_
    rotate_left
    · (intro w' hS'; go_simp <;> with_reducible rfl)
    simp only [Act.put, List.getElem_toArray, List.getElem_cons_succ, List.getElem_cons_zero, List.setIfInBounds_toArray, List.set]
    refine wpAnyH_ready (rs := [3]) (by kernel_rfl) (by simp) ?_
    refine AllReadyH.cons rfl (fun K hK => ?_) AllReadyH.nil
    rw [if_pos (by rfl)]
    simp only [List.getElem_toArray, List.getElem_cons_succ, List.getElem_cons_zero]
    refine wp_store_mid 49 _ _ rfl rb 0 slt0.cells.toArray rfl rfl HTH.out size_slt (all_one slt0) ?_
    refine hK.out _ _ hS3 (fun hHeld => ?_)
    clear hK K
    refine wpAnyH_take (i := 4) (v := ?_) rfl (by kernel_rfl) (by kernel_rfl) (by kernel_rfl) (fun _ _ _ h => h) (Or.inl ⟨by rfl, ?_⟩) hHeld ?_
    rotate_left
    · (intro w' hS'; go_simp <;> with_reducible rfl)
    simp only [Act.put, List.getElem_toArray, List.getElem_cons_succ, List.getElem_cons_zero, List.setIfInBounds_toArray, List.set]
    refine wpAnyH_done (by kernel_rfl) ?_ _
    clear hHeld hS2 hS3 HTH HR2
    generalize w2.drew.setCells rb 0 slt0.cells = w3 at *
    go_wp2
    refine bodyPost_ret (results_slt rfl _ _ rb slt0 rfl HR3.out) rfl ?_
    exact ⟨rfl, HB3.out⟩

/-- From a later world on. -/
theorem slot_sh (C : GaC Rep) (w : World) (p q : Nat) (F : Nat → Prop) (A : Arn) (l i : Int) (h : RepS Rep w p q F A l) (hg : An.Good A) (wx : World) (hb : Below w.heap.size w wx) :
    Calls Try.prog 29 #[ptr q, nu i] wx fun e w' => e = .returned (.tuple #[(A.at i).v, .bool (decide (there i))]) ∧ Below w.heap.size w w' := by
  refine (slot_s C wx p q F A l i (h.below C.keep hb) hg).mono ?_
  rintro e w' ⟨rfl, hb'⟩
  exact ⟨rfl, hb.trans (hb'.mono hb.size)⟩

set_option maxRecDepth 100000 in
/-- A step was done, or refused. -/
theorem turn_s (H : KeepC Rep) (w : World) (p q : Nat) (F : Nat → Prop) (A : Arn) (l v : Int) (h : RepS Rep w p q F A l) :
    Calls Try.prog 32 #[ptr q, nu v, .nilIface] w fun e w' => e = .returned (.bool true) ∧ LeftT (RepS Rep) w w' p q F A v := by
  obtain ⟨q0, q1, q2⟩ := h.cells
  have HL := Hid.mk' (leftS_last H h v)
  have q2' := q2 1
  clear h q0 q2
  go_enter Try.func32, Try.ntmps32
  go_wp2
  go_ret
  exact ⟨rfl, HL.out⟩

set_option maxRecDepth 100000 in
theorem turn_no (w : World) (q : Nat) (v : Int) (t : TypeId) (x : Value) :
    Calls Try.prog 32 #[ptr q, nu v, .iface t x] w fun e w' => e = .returned (.bool false) ∧ Below w.heap.size w w' := by
  go_enter Try.func32, Try.ntmps32
  go_wp2
  go_ret
  exact ⟨rfl, Below.refl _ _⟩

set_option maxRecDepth 100000 in
theorem last_s (w : World) (p q : Nat) (F : Nat → Prop) (A : Arn) (l : Int) (h : RepS Rep w p q F A l) :
    Calls Try.prog 15 #[ptr q] w fun e w' => e = .returned (nu l) ∧ Below w.heap.size w w' := by
  have hc := h.cells.2.1
  clear h
  go_enter Try.func15, Try.ntmps15
  go_wp2
  go_ret
  exact ⟨rfl, Below.refl _ _⟩

set_option maxRecDepth 100000 in
theorem new_s (H : KeepC Rep) (w : World) (p : Nat) (F : Nat → Prop) (A : Arn) (h : Rep w p F A) :
    Calls Try.prog 6 #[ptr p] w fun e w' => ∃ q G, e = .returned (ptr q) ∧ RepS Rep w' p q G A (-1) ∧ (∀ k, G k → F k ∨ w.heap.size ≤ k) ∧ Below w.heap.size w w' := by
  have hB : Below w.heap.size w (w.alloc (.cells #[ptr p, nu (-1)] 61)) := (Below.refl _ _).alloc (Nat.le_refl _) _
  have HB := Hid.mk' hB
  have HR : Hid (RepS Rep (w.alloc (.cells #[ptr p, nu (-1)] 61)) p w.heap.size (fun k => k = w.heap.size ∨ F k) A (-1)) := ⟨F, H.below h hB, heap_alloc_new _ _, fun e => by have := H.lt h _ e; omega, rfl⟩
  clear hB h H
  go_enter Try.func6, Try.ntmps6
  go_wp2
  go_ret
  exact ⟨_, _, rfl, HR.out, fun k hk => hk.elim (fun e => .inr (by omega)) .inl, HB.out⟩
end
end Sp
end Go.Proofs.Ythabnombfbehkaa
/- The program's garbage: first, Add, Unit. -/
namespace Go.Proofs.Ythabnombfbehkaa
set_option linter.ambiguousOpen false
open Go.RowKit
namespace Sp
open An Rg Ft Lv Sw
set_option linter.unusedSimpArgs false
set_option linter.unusedVariables false

theorem results_slt3 {fn : Func} {t p u : Tmp} (h : fn.results = #[.tmp t, .cell p 49, .tmp u]) (tmps : Array Value) (w : World) (g : Nat) (x : Slt) (hp : tmps.getD p undef = .pointer (some ⟨g, 0, none⟩)) (hg : Lone w g x) :
    (results fn tmps).run Try.prog w = .ok (.tuple #[tmps.getD t undef, x.v, tmps.getD u undef]) w := by
  have hl : (loadVar 49 ⟨g, 0, none⟩).run Try.prog w = .ok x.v w := run_loadVar_row w g _ 49 _ _ _ hg Try.underlying49 rfl size_slt
  have hp' : tmps[p]?.getD undef = .pointer (some ⟨g, 0, none⟩) := by simpa using hp
  simp [results, h, hp', asAddr, hl]

/-- What first answers: the slot's number, what it holds, whether there is one. -/
def fstN (A : Arn) (l : Int) : Int := if there l then (A.at l).next else 0

def fstS (A : Arn) (l : Int) : Slt := if there l then A.at (A.at l).next else slt0

def fstB (A : Arn) (l : Int) : Bool := decide (there l ∧ there (A.at l).next)

section
variable {Rep : World → Nat → (Nat → Prop) → Arn → Prop}

set_option maxRecDepth 100000 in
set_option maxHeartbeats 2000000 in
theorem first_s (C : GaC Rep) (w : World) (p q : Nat) (F : Nat → Prop) (A : Arn) (l : Int) (h : RepS Rep w p q F A l) (hg : An.Good A) :
    Calls Try.prog 31 #[ptr q] w fun e w' => e = .returned (.tuple #[nu (fstN A l), (fstS A l).v, .bool (fstB A l)]) ∧ Below w.heap.size w w' := by
  have hB0 : Below w.heap.size w (w.alloc (.cells sltZ 49)) := (Below.refl _ _).alloc (Nat.le_refl _) _
  have hz0 := lone_zero w
  obtain ⟨W0, hW0⟩ : ∃ W0, w.alloc (.cells sltZ 49) = W0 := ⟨_, rfl⟩
  rw [hW0] at hB0 hz0
  have HW0 := Hid.mk' hW0
  have h' := h.below C.keep hB0
  have q0 := h'.cells.2.1
  obtain ⟨rb, hrb⟩ : ∃ rb, w.heap.size = rb := ⟨_, rfl⟩
  have hrl : rb < W0.heap.size := by rw [← hrb]; exact (Array.getElem?_eq_some_iff.1 hz0).1
  have HR0 : Hid (Lone W0 rb slt0) := by rw [← hrb]; exact hz0
  have HRB := Hid.mk' hrb
  have cs : Hid (∀ wx i, Below W0.heap.size W0 wx → Calls Try.prog 29 #[ptr q, nu i] wx fun e w' => e = .returned (.tuple #[(A.at i).v, .bool (decide (there i))]) ∧ Below w.heap.size w w' ∧ Below W0.heap.size W0 w' ∧ Below wx.heap.size wx w' ∧ Lone w' rb slt0) := fun wx i hb => by
    refine (slot_s C wx p q F A l i (h'.below C.keep hb) hg).mono ?_
    rintro e w' ⟨rfl, hb'⟩
    have hb2 := hb.trans (hb'.mono hb.size)
    exact ⟨rfl, hB0.trans (hb2.mono hB0.size), hb2, hb', HR0.out.below hb2⟩
  have c1 := Hid.mk' (cs.out W0 l (Below.refl _ _))
  clear h h' hz0 hW0 C
  by_cases ht : there l
  · have eN : fstN A l = (A.at l).next := if_pos ht
    have eS : fstS A l = A.at (A.at l).next := if_pos ht
    have eB : fstB A l = decide (there (A.at l).next) := by unfold fstB; simp [ht]
    rw [eN, eS, eB]
    rw [decide_eq_true ht] at c1
    obtain ⟨x, hx⟩ : ∃ x, A.at l = x := ⟨_, rfl⟩
    rw [hx] at c1 ⊢
    obtain ⟨n, hn⟩ : ∃ n, x.next = n := ⟨_, rfl⟩
    rw [hn]
    have HN := Hid.mk' hn
    obtain ⟨y, hy⟩ : ∃ y, A.at n = y := ⟨_, rfl⟩
    obtain ⟨bn, hbn⟩ : ∃ bn, decide (there n) = bn := ⟨_, rfl⟩
    rw [hy, hbn]
    have c2 : Hid (∀ wx, Below W0.heap.size W0 wx → Calls Try.prog 29 #[ptr q, nu n] wx fun e w' => e = .returned (.tuple #[y.v, .bool bn]) ∧ Below w.heap.size w w' ∧ Below W0.heap.size W0 w' ∧ Below wx.heap.size wx w' ∧ Lone w' rb slt0) := fun wx hb => by
      have := cs.out wx n hb
      rwa [hy, hbn] at this
    clear hg ht hx hy hbn eN eS eB hn cs hB0 hrb
    go_enter Try.func31, Try.ntmps31
    go_upto_region 1 with fail
    rw [HW0.out, HRB.out]
    go_wp2_with fail
    refine c1.out.mono ?_
    rintro e w1 ⟨rfl, hb1, hb1', _, hr1⟩
    have HB1 := Hid.mk' hb1
    have HC1 := Hid.mk' hb1'
    have hs1 : rb < w1.heap.size := Nat.lt_of_lt_of_le hrl hb1'.size
    have HZ := Hid.mk' (lone_zero w1)
    have HBZ : Hid (Below W0.heap.size W0 (w1.alloc (.cells sltZ 49))) := HC1.out.alloc HC1.out.size _
    clear hb1 hb1' c1 q0 hr1 HB1
    go_upto_region 4 with (first | (refine wpList_store_lone rfl _ _ rfl w1.heap.size rfl x rfl slt0 HZ.out ?_; intro w2 hl2 hg2 hs2; have HL2 := Hid.mk' hl2; have HC2 : Hid (Below W0.heap.size W0 w2) := (HBZ.out.grown hg2 HBZ.out.size (fun r e => by cases e; exact HC1.out.size)); clear hl2 hg2 hs2) | fail)
    obtain ⟨sb, hsb⟩ : ∃ sb, w1.heap.size = sb := ⟨_, rfl⟩
    have hles : W0.heap.size ≤ sb := by have := HC1.out.size; omega
    rw [hsb] at HL2
    simp only [hsb]
    have hne : rb ≠ sb := by omega
    have x4 : w2.cell? ⟨sb, 4, none⟩ = some (nu n) := by have := HL2.out.cells.2.2.2.2.1; rwa [HN.out] at this
    have hls2 : sb < w2.heap.size := (Array.getElem?_eq_some_iff.1 HL2.out).1
    have c3 := Hid.mk' (c2.out w2 HC2.out)
    clear c2 HZ HBZ HC1 hsb hs1
    go_wp2_with fail
    refine c3.out.mono ?_
    rintro e w3 ⟨rfl, hb3, hb3', hb3'', hr3⟩
    have HB3 := Hid.mk' hb3
    have HC3 := Hid.mk' hb3'
    have HR3 := Hid.mk' hr3
    have HL3 : Hid (Lone w3 sb x) := HL2.out.below hb3''
    have hls3 : sb < w3.heap.size := Nat.lt_of_lt_of_le hls2 hb3''.size
    have HZ := Hid.mk' (lone_zero w3)
    have HBZ : Hid (Below w.heap.size w (w3.alloc (.cells sltZ 49))) := HB3.out.alloc HB3.out.size _
    have HLZ : Hid (Lone (w3.alloc (.cells sltZ 49)) sb x) := (heap_alloc_old _ _ hls3).trans HL3.out
    have HRZ : Hid (Lone (w3.alloc (.cells sltZ 49)) rb slt0) := (heap_alloc_old _ _ (by omega)).trans HR3.out
    clear hb3 hb3' hb3'' hr3 c3 x4 HL2 HC2
    go_upto_region 5 with (first | (refine wpList_store_lone rfl _ _ rfl w3.heap.size rfl y rfl slt0 HZ.out ?_; intro w4 hl4 hg4 hs4; have HL4 := Hid.mk' hl4; have HB4 : Hid (Below w.heap.size w w4) := (HBZ.out.grown hg4 HBZ.out.size (fun r e => by cases e; exact HB3.out.size)); have HX4 : Hid (Lone w4 sb x) := HLZ.out.grown hg4 (by omega); have HR4 : Hid (Lone w4 rb slt0) := HRZ.out.grown hg4 (by omega); clear hl4 hg4 hs4) | fail)
    obtain ⟨yb, hyb⟩ : ∃ yb, w3.heap.size = yb := ⟨_, rfl⟩
    have hny : sb ≠ yb ∧ rb ≠ yb := ⟨by omega, by omega⟩
    rw [hyb] at HL4
    simp only [hyb]
    have hwr : w.heap.size ≤ rb := by rw [HRB.out]; exact Nat.le_refl _
    have hS4 : Lone w4 yb y ∧ w4.cell? ⟨sb, 4, none⟩ = some (nu n) := ⟨HL4.out, by have := HX4.out.cells.2.2.2.2.1; rwa [HN.out] at this⟩
    have HTH := Hid.mk' (Tr.lone_there (w := w4.drew) HR4.out)
    have HR5 : Hid (Lone (w4.drew.setCells rb 0 y.cells) rb y) := Tr.lone_cells (w := w4.drew) HR4.out y
    have hS5 : Lone (w4.drew.setCells rb 0 y.cells) yb y ∧ (w4.drew.setCells rb 0 y.cells).cell? ⟨sb, 4, none⟩ = some (nu n) := by
      have hb := (grown_setCells rb y.cells 0 w4.drew).block
      refine ⟨(hb _ (Array.getElem?_eq_some_iff.1 hS4.1).1 (fun e => hny.2 (Option.some.inj e).symm)).trans hS4.1, ?_⟩
      have hx5 : Lone (w4.drew.setCells rb 0 y.cells) sb x := (hb _ (Array.getElem?_eq_some_iff.1 HX4.out).1 (fun e => hne (Option.some.inj e).symm)).trans HX4.out
      have := hx5.cells.2.2.2.2.1
      rwa [HN.out] at this
    have HB5 : Hid (Below w.heap.size w (w4.drew.setCells rb 0 y.cells)) := HB4.out.drew.grown (grown_setCells rb y.cells 0 w4.drew) HB4.out.drew.size (fun r e => by cases e; exact hwr)
    clear HR3 HZ HBZ HLZ HRZ HB3 HC3 HL3 HX4 HR4 HB4 HL4 hyb
    refine wp_region_held_drew (S := fun w' => Lone w' yb y ∧ w'.cell? ⟨sb, 4, none⟩ = some (nu n)) (by kernel_rfl) hS4 (fun hHeld => ?_)
    refine wpAnyH_take (i := 0) (v := ?_) rfl (by kernel_rfl) (by kernel_rfl) (by kernel_rfl) (fun _ _ _ h => h) (Or.inl ⟨by rfl, ?_⟩) hHeld ?_
    rotate_left
    · (intro w' hS'; have hq1 := hS'.2; go_simp <;> with_reducible rfl)
    simp only [Act.put, List.getElem_toArray, List.getElem_cons_succ, List.getElem_cons_zero, List.setIfInBounds_toArray, List.set]
    refine wpAnyH_take (i := 1) (v := ?_) rfl (by kernel_rfl) (by kernel_rfl) (by kernel_rfl) (fun _ _ _ h => h) (Or.inl ⟨by rfl, ?_⟩) hHeld ?_
    rotate_left
    · (intro w' hS'; have hq1 := hS'.2; go_simp <;> with_reducible rfl)
    simp only [Act.put, List.getElem_toArray, List.getElem_cons_succ, List.getElem_cons_zero, List.setIfInBounds_toArray, List.set]
    refine wpAnyH_take (i := 2) (v := _) rfl (by kernel_rfl) (by kernel_rfl) (by kernel_rfl) (fun _ _ _ h => h) (yieldsIf_load_mid (by rfl) 49 _ rfl yb 0 rfl y.cells _ (fun w' h => h.1.range) Try.underlying49 rfl size_slt) hHeld ?_
    simp only [Act.put, List.getElem_toArray, List.getElem_cons_succ, List.getElem_cons_zero, List.setIfInBounds_toArray, List.set]
    refine wpAnyH_take (i := 3) (v := ?_) rfl (by kernel_rfl) (by kernel_rfl) (by kernel_rfl) (fun _ _ _ h => h) (Or.inl ⟨by rfl, ?_⟩) hHeld ?_
    rotate_left
    · (intro w' hS'; go_simp <;> with_reducible rfl)
    simp only [Act.put, List.getElem_toArray, List.getElem_cons_succ, List.getElem_cons_zero, List.setIfInBounds_toArray, List.set]
    refine wpAnyH_take (i := 4) (v := ?_) rfl (by kernel_rfl) (by kernel_rfl) (by kernel_rfl) (fun _ _ _ h => h) (Or.inl ⟨by rfl, ?_⟩) hHeld ?_
    rotate_left
    · (intro w' hS'; go_simp <;> with_reducible rfl)
    simp only [Act.put, List.getElem_toArray, List.getElem_cons_succ, List.getElem_cons_zero, List.setIfInBounds_toArray, List.set]
    refine wpAnyH_ready (rs := [5]) (by kernel_rfl) (by simp) ?_
    refine AllReadyH.cons rfl (fun K hK => ?_) AllReadyH.nil
    rw [if_pos (by rfl)]
    simp only [List.getElem_toArray, List.getElem_cons_succ, List.getElem_cons_zero]
    refine wp_store_mid 49 _ _ rfl rb 0 y.cells.toArray rfl rfl HTH.out size_slt (all_one y) ?_
    refine hK.out _ _ hS5 (fun hHeld => ?_)
    clear hK K
    refine wpAnyH_take (i := 6) (v := ?_) rfl (by kernel_rfl) (by kernel_rfl) (by kernel_rfl) (fun _ _ _ h => h) (Or.inl ⟨by rfl, ?_⟩) hHeld ?_
    rotate_left
    · (intro w' hS'; go_simp <;> with_reducible rfl)
    simp only [Act.put, List.getElem_toArray, List.getElem_cons_succ, List.getElem_cons_zero, List.setIfInBounds_toArray, List.set]
    refine wpAnyH_done (by kernel_rfl) ?_ _
    clear hHeld hS4 hS5 HTH
    generalize w4.drew.setCells rb 0 y.cells = w5 at *
    go_wp2
    refine bodyPost_ret (results_slt3 rfl _ _ rb y rfl HR5.out) rfl ?_
    exact ⟨rfl, HB5.out⟩
  · have eN : fstN A l = 0 := if_neg ht
    have eS : fstS A l = slt0 := if_neg ht
    have eB : fstB A l = false := by unfold fstB; simp [ht]
    rw [eN, eS, eB]
    rw [decide_eq_false ht] at c1
    generalize A.at l = x at *
    clear hg ht eN eS eB cs hB0 hrb
    go_enter Try.func31, Try.ntmps31
    go_upto_region 1 with fail
    rw [HW0.out, HRB.out]
    go_wp2_with fail
    refine c1.out.mono ?_
    rintro e w1 ⟨rfl, hb1, hb1', _, hr1⟩
    have HB1 := Hid.mk' hb1
    have HC1 := Hid.mk' hb1'
    have HR1 := Hid.mk' hr1
    have hs1 : rb < w1.heap.size := Nat.lt_of_lt_of_le hrl hb1'.size
    have HZ := Hid.mk' (lone_zero w1)
    have HBZ : Hid (Below w.heap.size w (w1.alloc (.cells sltZ 49))) := HB1.out.alloc HB1.out.size _
    have HRZ : Hid (Lone (w1.alloc (.cells sltZ 49)) rb slt0) := (heap_alloc_old _ _ hs1).trans HR1.out
    have hwr : w.heap.size ≤ rb := by rw [HRB.out]; exact Nat.le_refl _
    clear hb1 hb1' c1 q0 hr1
    go_wp2_with (first | (refine wpList_store_lone rfl _ _ rfl w1.heap.size rfl x rfl slt0 HZ.out ?_; intro w2 hl2 hg2 hs2; have HB2 : Hid (Below w.heap.size w w2) := (HBZ.out.grown hg2 HBZ.out.size (fun r e => by cases e; exact HB1.out.size)); have HR2 : Hid (Lone w2 rb slt0) := HRZ.out.grown hg2 (by omega); clear hl2 hg2 hs2) | (refine wpList_store_lone rfl _ _ rfl rb rfl slt0 rfl slt0 HR2.out ?_; intro w3 hl3 hg3 hs3; have HB3 : Hid (Below w.heap.size w w3) := (HB2.out.grown hg3 HB2.out.size (fun r e => by cases e; exact hwr)); have HR3 := Hid.mk' hl3; clear hl3 hg3 hs3) | fail)
    refine bodyPost_ret (results_slt3 rfl _ _ rb slt0 rfl HR3.out) rfl ?_
    exact ⟨rfl, HB3.out⟩
end
end Sp
end Go.Proofs.Ythabnombfbehkaa
/- The program's garbage: Add, Unit. -/
namespace Go.Proofs.Ythabnombfbehkaa
set_option linter.ambiguousOpen false
open Go.RowKit
namespace Sp
open An Rg Ft Lv Sw
set_option linter.unusedSimpArgs false
set_option linter.unusedVariables false

theorem errE_some (n : Nat) (h : n ≠ 0) : errE n = .iface 65 (.int .i64 (n : Int)) := by
  cases n with
  | zero => exact absurd rfl h
  | succ n => rfl

theorem errP_some (n : Nat) (pl : Int) (h : n ≠ 0) : ∃ t v, errP n pl = .iface t v := by
  unfold errP
  split
  · exact ⟨_, _, errE_some n h⟩
  · exact ⟨_, _, rfl⟩

theorem errP_none (pl : Int) (h : pl = -1) : errP 0 pl = .nilIface := by
  subst h
  rfl

theorem push_plQ (S : List Slt) (l i : Int) (h : (push S l i).no = 0) : (push S l i).pl = -1 := by
  revert h
  unfold push
  repeat' split
  all_goals simp

theorem splice_plQ (S : List Slt) (l i : Int) (h : (splice S l i).no = 0) : (splice S l i).pl = -1 := by
  revert h
  unfold splice
  repeat' split
  all_goals simp

theorem drop_plQ (S : List Slt) (l i : Int) (h : (drop S l i).no = 0) : (drop S l i).pl = -1 := by
  revert h
  unfold drop
  repeat' split
  all_goals simp

theorem at_sl {A : Arn} {i : Int} (h : there i) : A.at i = slG A.sl i := if_pos h

section
variable {Rep : World → Nat → (Nat → Prop) → Arn → Prop}

/-- What is left amid a call: arena and last one. -/
theorem leftS_step {w w1 w2 : World} {p q : Nat} {F : Nat → Prop} {A1 A2 : Arn} {l1 l2 : Int} (h : LeftT (RepS Rep) w w1 p q F A1 l1) (hc : ∀ G, RepS Rep w1 p q G A1 l1 → LeftT (RepS Rep) w1 w2 p q G A2 l2) : LeftT (RepS Rep) w w2 p q F A2 l2 := by
  obtain ⟨G, g1, g2, g3⟩ := h
  exact leftS_more g2 g3 (hc G g1)

set_option maxRecDepth 100000 in
set_option maxHeartbeats 2000000 in
theorem add_s (C : GaC Rep) (w : World) (p q : Nat) (F : Nat → Prop) (A : Arn) (l i : Int) (h : RepS Rep w p q F A l) (hg : An.Good A) (hwr : A.wr ≤ 999999980) :
    Calls Try.prog 9 #[ptr q, nu i] w fun e w' => e = .returned (errP (addG A.sl l i).no (addG A.sl l i).pl) ∧ ∃ n, n ≤ 3 ∧ ((addG A.sl l i).no ≠ 0 → n = 0) ∧ LeftT (RepS Rep) w w' p q F ⟨(addG A.sl l i).sl, A.fr, A.wr + n⟩ (addG A.sl l i).last := by
  have cs := Hid.mk' (slot_s C w p q F A l i h hg)
  have HL0 : Hid (∀ w', Below w.heap.size w w' → ∃ n, n ≤ 3 ∧ n = 0 ∧ LeftT (RepS Rep) w w' p q F ⟨A.sl, A.fr, A.wr + n⟩ l) := fun w' hb => ⟨0, by omega, rfl, leftS_self C.keep h hb⟩
  by_cases ht : there i
  · rw [decide_eq_true ht, at_sl ht] at cs
    obtain ⟨x, hx⟩ : ∃ x, slG A.sl i = x := ⟨_, rfl⟩
    rw [hx] at cs
    cases hu : x.used with
    | true =>
      have e : addG A.sl l i = if (push A.sl l i).no ≠ 0 then ⟨(push A.sl l i).no, (push A.sl l i).pl, (push A.sl l i).sl, l⟩ else ⟨0, -1, (push A.sl l i).sl, (push A.sl l i).ans⟩ := by
        unfold addG
        rw [if_neg (fun z => z ht), if_neg (by rw [hx, hu]; simp)]
      rw [e]
      have hpl := push_plQ A.sl l i
      obtain ⟨P, hP⟩ : ∃ P, push A.sl l i = P := ⟨_, rfl⟩
      rw [hP] at hpl ⊢
      have cP : Hid (∀ wx, Below w.heap.size w wx → Calls Try.prog 30 #[ptr p, nu l, nu i] wx fun e w' => e = .returned (.tuple #[nu P.ans, errP P.no P.pl]) ∧ (w'.cell? ⟨q, 0, none⟩ = some (ptr p) ∧ w'.cell? ⟨q, 1, none⟩ = some (nu l)) ∧ Hid (∃ n, n ≤ 3 ∧ (P.no ≠ 0 → n = 0) ∧ LeftT (RepS Rep) w w' p q F ⟨P.sl, A.fr, A.wr + n⟩ l)) := fun wx hb => by
        obtain ⟨Fa, h1, h2, h3, rfl⟩ := h.below C.keep hb
        have := C.push wx p Fa A l i h1 hg (by omega)
        rw [hP] at this
        refine this.mono ?_
        rintro e w' ⟨rfl, n, hn, hn0, hl⟩
        have hl' := leftS_of h2 h3 hl
        refine ⟨rfl, ?_, n, hn, hn0, leftS_below hb hl'⟩
        obtain ⟨G, g1, _⟩ := hl'
        exact ⟨g1.cells.1, g1.cells.2.1⟩
      have cQ : Hid (∀ wx, Below w.heap.size w wx → wx.cell? ⟨q, 0, none⟩ = some (ptr p) ∧ wx.cell? ⟨q, 1, none⟩ = some (nu l)) := fun wx hb => ⟨(h.below C.keep hb).cells.1, (h.below C.keep hb).cells.2.1⟩
      have HC := Hid.mk' C.keep
      clear h hg hwr ht hx e C HL0
      by_cases hn : P.no = 0
      · rw [if_neg (by rw [hn]; simp)]
        have e0 : errP P.no P.pl = .nilIface := by rw [hn]; exact errP_none _ (hpl hn)
        rw [e0] at cP
        rw [show errP (GAns.mk 0 (-1) P.sl P.ans).no (GAns.mk 0 (-1) P.sl P.ans).pl = .nilIface from rfl]
        clear hpl e0 hn
        go_enter Try.func9, Try.ntmps9
        go_wp2_with fail
        refine cs.out.mono ?_
        rintro e w1 ⟨rfl, hb1⟩
        have HB1 := Hid.mk' hb1
        have HZ := Hid.mk' (lone_zero w1)
        have HBZ : Hid (Below w.heap.size w (w1.alloc (.cells sltZ 49))) := HB1.out.alloc HB1.out.size _
        clear hb1 cs
        go_upto_region 6 with (first | (refine wpList_store_lone rfl _ _ rfl w1.heap.size rfl x rfl slt0 HZ.out ?_; intro w2 hl2 hg2 hs2; have HB2 : Hid (Below w.heap.size w w2) := (HBZ.out.grown hg2 HBZ.out.size (fun r e => by cases e; exact HB1.out.size)); have hc0 := hl2.cells.1; rw [hu] at hc0; clear hl2 hg2 hs2) | fail)
        have HSD := Hid.mk' (cQ.out w2.drew HB2.out.drew)
        have c5 := Hid.mk' (cP.out w2.drew HB2.out.drew)
        obtain ⟨z0, z1⟩ := cQ.out w2 HB2.out
        clear hc0 HZ HBZ HB1 HB2 cQ cP
        go_region_held3 (fun w' => w'.cell? ⟨q, 0, none⟩ = some (ptr p) ∧ w'.cell? ⟨q, 1, none⟩ = some (nu l)) (first | assumption | exact HSD.out | exact hs5 | fail) (first | (go_at_call 30; with_reducible refine c5.out.mono ?_; rintro e w5 ⟨rfl, hs5, HQ5⟩) | fail)
        obtain ⟨n5, hn5, hz5, hl5⟩ := HQ5.out
        obtain ⟨G5, g1, g2, g3⟩ := hl5
        have HL6 : Hid (LeftT (RepS Rep) w (w5.setCell ⟨q, 1, none⟩ (nu P.ans)) p q F ⟨P.sl, A.fr, A.wr + n5⟩ P.ans) := leftS_more g2 g3 (leftS_last HC.out g1 P.ans)
        have f1 := g1.cells.2.2 1
        clear g1 g2 g3 HQ5 z0 z1 hs5 c5 hz5
        go_wp2
        go_ret
        exact ⟨rfl, n5, hn5, fun z => absurd rfl z, HL6.out⟩
      · rw [if_pos hn]
        obtain ⟨t, v, e0⟩ := errP_some P.no P.pl hn
        rw [show errP (GAns.mk P.no P.pl P.sl l).no (GAns.mk P.no P.pl P.sl l).pl = errP P.no P.pl from rfl]
        rw [e0] at cP ⊢
        clear hpl e0
        have HNN := Hid.mk' hn
        clear hn
        go_enter Try.func9, Try.ntmps9
        go_wp2_with fail
        refine cs.out.mono ?_
        rintro e w1 ⟨rfl, hb1⟩
        have HB1 := Hid.mk' hb1
        have HZ := Hid.mk' (lone_zero w1)
        have HBZ : Hid (Below w.heap.size w (w1.alloc (.cells sltZ 49))) := HB1.out.alloc HB1.out.size _
        clear hb1 cs
        go_upto_region 6 with (first | (refine wpList_store_lone rfl _ _ rfl w1.heap.size rfl x rfl slt0 HZ.out ?_; intro w2 hl2 hg2 hs2; have HB2 : Hid (Below w.heap.size w w2) := (HBZ.out.grown hg2 HBZ.out.size (fun r e => by cases e; exact HB1.out.size)); have hc0 := hl2.cells.1; rw [hu] at hc0; clear hl2 hg2 hs2) | fail)
        have HSD := Hid.mk' (cQ.out w2.drew HB2.out.drew)
        have c5 := Hid.mk' (cP.out w2.drew HB2.out.drew)
        obtain ⟨z0, z1⟩ := cQ.out w2 HB2.out
        clear hc0 HZ HBZ HB1 HB2 cQ cP
        go_region_held3 (fun w' => w'.cell? ⟨q, 0, none⟩ = some (ptr p) ∧ w'.cell? ⟨q, 1, none⟩ = some (nu l)) (first | assumption | exact HSD.out | exact hs5 | fail) (first | (go_at_call 30; with_reducible refine c5.out.mono ?_; rintro e w5 ⟨rfl, hs5, HQ5⟩) | fail)
        clear z0 z1 hs5 c5
        go_wp2
        go_ret
        obtain ⟨n5, hn5, hz5, hl5⟩ := HQ5.out
        exact ⟨rfl, n5, hn5, hz5, hl5⟩
    | false =>
      have e : addG A.sl l i = ⟨10, -1, A.sl, l⟩ := by
        unfold addG
        rw [if_neg (fun z => z ht), if_pos (by rw [hx, hu])]
      rw [e, show errP (GAns.mk 10 (-1) A.sl l).no (GAns.mk 10 (-1) A.sl l).pl = .iface 65 (.int .i64 10) from rfl]
      clear h hg hwr ht hx e C
      go_enter Try.func9, Try.ntmps9
      go_wp2_with fail
      refine cs.out.mono ?_
      rintro e w1 ⟨rfl, hb1⟩
      have HB1 := Hid.mk' hb1
      have HZ := Hid.mk' (lone_zero w1)
      have HBZ : Hid (Below w.heap.size w (w1.alloc (.cells sltZ 49))) := HB1.out.alloc HB1.out.size _
      clear hb1 cs
      go_wp2_with (first | (refine wpList_store_lone rfl _ _ rfl w1.heap.size rfl x rfl slt0 HZ.out ?_; intro w2 hl2 hg2 hs2; have HB2 : Hid (Below w.heap.size w w2) := (HBZ.out.grown hg2 HBZ.out.size (fun r e => by cases e; exact HB1.out.size)); have hc0 := hl2.cells.1; rw [hu] at hc0; clear hl2 hg2 hs2) | fail)
      go_ret
      obtain ⟨n, hn, hz, hl⟩ := HL0.out w2 HB2.out
      exact ⟨rfl, n, hn, fun _ => hz, hl⟩
  · rw [decide_eq_false ht] at cs
    generalize A.at i = x at *
    have e : addG A.sl l i = ⟨1, -1, A.sl, l⟩ := by
      unfold addG
      rw [if_pos ht]
    rw [e, show errP (GAns.mk 1 (-1) A.sl l).no (GAns.mk 1 (-1) A.sl l).pl = .iface 65 (.int .i64 1) from rfl]
    clear h hg hwr ht e C
    go_enter Try.func9, Try.ntmps9
    go_wp2_with fail
    refine cs.out.mono ?_
    rintro e w1 ⟨rfl, hb1⟩
    have HB1 := Hid.mk' hb1
    have HZ := Hid.mk' (lone_zero w1)
    have HBZ : Hid (Below w.heap.size w (w1.alloc (.cells sltZ 49))) := HB1.out.alloc HB1.out.size _
    clear hb1 cs
    go_wp2_with (first | (refine wpList_store_lone rfl _ _ rfl w1.heap.size rfl x rfl slt0 HZ.out ?_; intro w2 hl2 hg2 hs2; have HB2 : Hid (Below w.heap.size w w2) := (HBZ.out.grown hg2 HBZ.out.size (fun r e => by cases e; exact HB1.out.size)); clear hl2 hg2 hs2) | fail)
    go_ret
    obtain ⟨n, hn, hz, hl⟩ := HL0.out w2 HB2.out
    exact ⟨rfl, n, hn, fun _ => hz, hl⟩
end
end Sp
end Go.Proofs.Ythabnombfbehkaa
