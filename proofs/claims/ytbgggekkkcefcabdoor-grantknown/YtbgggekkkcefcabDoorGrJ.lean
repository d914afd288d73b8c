/- Layer 22: what all have that are born. -/
import Derived.Test.YtbgggekkkcefcabDoorGrI
import Derived.Test.YtbgggekkkcefcabDoorShelf
import Derived.Deep.RegionHeld3
namespace Go.Proofs.YtbgggekkkcefcabDoor
set_option linter.ambiguousOpen false
open Go.RowKit
namespace Gr
set_option linter.unusedVariables false
set_option linter.unusedSimpArgs false

theorem clone_g (s : ByteArray) (w : World) (h : s.size ≤ 281474976710656) :
    Calls Tryd.prog 40 #[.string s] w fun e w' => e = .returned (.string s) ∧ Below w.heap.size w w' := by
  go_enter Tryd.func40, Tryd.ntmps40
  go_wp2_with (go_at_call 56; refine (Tryd.stringslite_Clone _ _ h).mono ?_; rintro e w1 ⟨rfl, hb1⟩)
  go_ret
  exact ⟨rfl, hb1⟩

/-- What born holds amid the copies of the texts. -/
def OwnS (w : World) (b : Bi) (s : Sn) (u l : ByteArray) (w' : World) : Prop :=
  w'.cell? ⟨w.heap.size + 1, 5, none⟩ = some (.string u) ∧ w'.cell? ⟨w.heap.size + 1, 6, none⟩ = some (.string l) ∧ w'.frozen? ⟨w.heap.size + 1, 5, none⟩ = false ∧ w'.frozen? ⟨w.heap.size + 1, 6, none⟩ = false ∧ w'.heap[w.heap.size + 1]? = some (.cells s.arr 28) ∧ w'.heap[w.heap.size]? = some (.cells b.arr 47) ∧ w'.heap[w.heap.size + 2]? = some (.cells zeroS.arr 28) ∧ Below w.heap.size w w'

section
variable {w w' w2 : World} {b : Bi} {s : Sn} {u l : ByteArray}

theorem cells_selfG {w : World} {b o : Nat} {cs : Array Value} {t : TypeId} {fr : Nat × Nat} {v : Value} (h : w.heap[b]? = some (.cells cs t fr)) (hv : cs[o]? = some v) : w.setCell ⟨b, o, none⟩ v = w := by
  obtain ⟨hb, e⟩ := Array.getElem?_eq_some_iff.1 h
  obtain ⟨ho, eo⟩ := Array.getElem?_eq_some_iff.1 hv
  have e1 : (w.setCell ⟨b, o, none⟩ v).heap = w.heap := by
    unfold World.setCell
    apply Array.ext
    · simp
    · intro i h1 h2
      simp only [Array.getElem_modify]
      split
      · rename_i q
        subst q
        rw [e]
        simp only [Option.isSome_none, Bool.false_eq_true, if_false, Obj.cells.injEq, and_true]
        apply Array.ext
        · simp
        · intro j k1 k2
          rw [Array.getElem_setIfInBounds]
          split
          · rename_i q2; subst q2; exact eo.symm
          · rfl
      · rfl
  show ({ w with heap := (w.setCell ⟨b, o, none⟩ v).heap } : World) = w
  rw [e1]

theorem OwnS.user (hu : s.user = u) (h : OwnS w b s u l w') : w'.setCell ⟨w.heap.size + 1, 5, none⟩ (.string u) = w' := cells_selfG h.2.2.2.2.1 (by rw [← hu]; rfl)

theorem OwnS.label (hl : s.label = l) (h : OwnS w b s u l w') : w'.setCell ⟨w.heap.size + 1, 6, none⟩ (.string l) = w' := cells_selfG h.2.2.2.2.1 (by rw [← hl]; rfl)

theorem OwnS.drew (h : OwnS w b s u l w') : OwnS w b s u l w'.drew := ⟨h.1, h.2.1, h.2.2.1, h.2.2.2.1, h.2.2.2.2.1, h.2.2.2.2.2.1, h.2.2.2.2.2.2.1, h.2.2.2.2.2.2.2.drew⟩

theorem OwnS.below (h : OwnS w b s u l w') (hb : Below w'.heap.size w' w2) : OwnS w b s u l w2 := by
  have l0 := (Array.getElem?_eq_some_iff.1 h.2.2.2.2.1).1
  have l1 := (Array.getElem?_eq_some_iff.1 h.2.2.2.2.2.1).1
  have l2 := (Array.getElem?_eq_some_iff.1 h.2.2.2.2.2.2.1).1
  exact ⟨(hb.cell (p := ⟨_, 5, none⟩) l0).trans h.1, (hb.cell (p := ⟨_, 6, none⟩) l0).trans h.2.1, (World.frozen?_of_block (a := ⟨_, 5, none⟩) (hb.block _ l0)).trans h.2.2.1, (World.frozen?_of_block (a := ⟨_, 6, none⟩) (hb.block _ l0)).trans h.2.2.2.1, (hb.block _ l0).trans h.2.2.2.2.1, (hb.block _ l1).trans h.2.2.2.2.2.1, (hb.block _ l2).trans h.2.2.2.2.2.2.1, h.2.2.2.2.2.2.2.trans (hb.mono (by omega))⟩

theorem OwnS.start : OwnS w b s s.user s.label (((w.alloc (.cells b.arr 47)).alloc (.cells s.arr 28)).alloc (.cells zeroS.arr 28)) := by
  have e0 := three_0 w (.cells b.arr 47) (.cells s.arr 28) (.cells zeroS.arr 28)
  have e1 := three_1 w (.cells b.arr 47) (.cells s.arr 28) (.cells zeroS.arr 28)
  have e2 := three_at w (.cells b.arr 47) (.cells s.arr 28) (.cells zeroS.arr 28)
  have hB := three_below w (.cells b.arr 47) (.cells s.arr 28) (.cells zeroS.arr 28)
  generalize ((w.alloc (.cells b.arr 47)).alloc (.cells s.arr 28)).alloc (.cells zeroS.arr 28) = wA at *
  refine ⟨by rw [cell_of_row wA _ 5 _ _ _ e1]; rfl, by rw [cell_of_row wA _ 6 _ _ _ e1]; rfl, ?_, ?_, e1, e0, e2, hB⟩
  · simp only [World.frozen?, e1]
    rfl
  · simp only [World.frozen?, e1]
    rfl
end

set_option maxRecDepth 100000 in
set_option maxHeartbeats 8000000 in
theorem born_p (b : Bi) (s : Sn) (w : World) (hf1 : s.user.size ≤ 281474976710656) (hf2 : s.label.size ≤ 281474976710656) (hU : Ck.untilB b.now b.r.life b.latest = true) (hb1 : 0 ≤ b.births) (hb2 : b.births < 1048576) :
    Calls Tryd.prog 21 #[b.v, s.v] w fun e w' => e = .returned ({ s with birth := b.births + 1, born := b.now, deadline := Ck.untilI b.now b.r.life b.latest } : Sn).v ∧ Below w.heap.size w w' := by
  have hS0 := OwnS.start (w := w) (b := b) (s := s)
  have cD := deadline_p b
  simp only [hU, if_true] at cD
  obtain ⟨D, hD⟩ : ∃ D, Ck.untilI b.now b.r.life b.latest = D := ⟨_, rfl⟩
  rw [hD] at cD ⊢
  obtain ⟨u, hu⟩ : ∃ u, s.user = u := ⟨_, rfl⟩
  obtain ⟨l, hl⟩ : ∃ l, s.label = l := ⟨_, rfl⟩
  rw [hu] at hf1 hS0
  rw [hl] at hf2 hS0
  have c1 : Hid (∀ w1, Calls Tryd.prog 40 #[.string u] w1 fun e w' => e = .returned (.string u) ∧ Below w1.heap.size w1 w') := fun w1 => clone_g u w1 hf1
  have c2 : Hid (∀ w1, Calls Tryd.prog 40 #[.string l] w1 fun e w' => e = .returned (.string l) ∧ Below w1.heap.size w1 w') := fun w1 => clone_g l w1 hf2
  have HU : Hid (∀ wx, OwnS w b s u l wx → wx.setCell ⟨w.heap.size + 1, 5, none⟩ (.string u) = wx) := fun wx h => h.user hu
  have HL : Hid (∀ wx, OwnS w b s u l wx → wx.setCell ⟨w.heap.size + 1, 6, none⟩ (.string l) = wx) := fun wx h => h.label hl
  have HCD := hidG cD
  obtain ⟨wA, hA⟩ : ∃ wA, ((w.alloc (.cells b.arr 47)).alloc (.cells s.arr 28)).alloc (.cells zeroS.arr 28) = wA := ⟨_, rfl⟩
  rw [hA] at hS0
  have HA : Hid (((w.alloc (.cells b.arr 47)).alloc (.cells s.arr 28)).alloc (.cells #[.int .i64 0, .int .i64 0, .int .i64 0, .int .i64 0, .int .i64 0, .string ⟨#[]⟩, .string ⟨#[]⟩, .int .u64 0, .int .i64 0, .int .i64 0, .int .i64 0, .int .i64 0] 28) = wA) := hidG hA
  clear hu hl hf1 hf2 hU hD cD hA
  show Calls Tryd.prog 21 #[.agg b.arr, .agg s.arr] w _
  go_enter Tryd.func21, Tryd.ntmps21
  go_wp2_with fail
  rw [HA.out]
  have HS0 := hidG hS0
  unfold OwnS at hS0
  go_region_held3 (fun w' => w'.cell? ⟨w.heap.size + 1, 5, none⟩ = some (.string u) ∧ w'.cell? ⟨w.heap.size + 1, 6, none⟩ = some (.string l) ∧ w'.frozen? ⟨w.heap.size + 1, 5, none⟩ = false ∧ w'.frozen? ⟨w.heap.size + 1, 6, none⟩ = false ∧ w'.heap[w.heap.size + 1]? = some (.cells s.arr 28) ∧ w'.heap[w.heap.size]? = some (.cells b.arr 47) ∧ w'.heap[w.heap.size + 2]? = some (.cells zeroS.arr 28) ∧ Below w.heap.size w w') (first | assumption | exact OwnS.drew (by assumption) | (rw [HU.out _ (by assumption)]; assumption) | (rw [HL.out _ (by assumption)]; assumption) | fail) (first | (go_at_call 40; (first | with_reducible refine (c1.out _).mono ?_ | with_reducible refine (c2.out _).mono ?_ | fail); rintro e w2 ⟨rfl, hq⟩; have hS2 := OwnS.below (w := w) (by assumption) hq; unfold OwnS at hS2; clear hq) | fail)
  have hS3 : OwnS w b s u l w2 := hS2
  rw [HU.out _ hS3, HL.out _ hS3]
  obtain ⟨-, -, -, -, q1, q0, q2, hB⟩ := hS2
  have HQ0 := hidG q0
  have HQ1 := hidG q1
  have HQ2 := hidG q2
  have HB := hidG hB
  have k18 : w2.cell? ⟨w.heap.size, 18, none⟩ = some (nu b.now) := by rw [cell_of_row w2 _ 18 _ _ _ q0]; rfl
  have k19 : w2.cell? ⟨w.heap.size, 19, none⟩ = some (nu b.births) := by rw [cell_of_row w2 _ 19 _ _ _ q0]; rfl
  have s1 : w2.cell? ⟨w.heap.size + 1, 1, none⟩ = some (nu s.birth) := by rw [cell_of_row w2 _ 1 _ _ _ q1]; rfl
  have s9 : w2.cell? ⟨w.heap.size + 1, 9, none⟩ = some (nu s.born) := by rw [cell_of_row w2 _ 9 _ _ _ q1]; rfl
  have s10 : w2.cell? ⟨w.heap.size + 1, 10, none⟩ = some (nu s.deadline) := by rw [cell_of_row w2 _ 10 _ _ _ q1]; rfl
  have f1 : w2.frozen? ⟨w.heap.size + 1, 1, none⟩ = false := by simp [World.frozen?, q1]
  have f9 : w2.frozen? ⟨w.heap.size + 1, 9, none⟩ = false := by simp [World.frozen?, q1]
  have f10 : w2.frozen? ⟨w.heap.size + 1, 10, none⟩ = false := by simp [World.frozen?, q1]
  have n0 : ¬ w.heap.size + 1 = w.heap.size := by omega
  have n2 : ¬ w.heap.size + 1 = w.heap.size + 1 + 1 := by omega
  have t1 : wrap64 (b.births + 1) = b.births + 1 := by unfold wrap64; omega
  clear hS3 hS0 HS0 HU HL c1 c2 q0 q1 q2 hB HA
  go_wp2_with fail
  go_region
  clear hS2
  obtain ⟨S1, hS1⟩ : ∃ S1 : Sn, S1 = { s with birth := b.births + 1, born := b.now } := ⟨_, rfl⟩
  obtain ⟨w3, hw3⟩ : ∃ w3, ((w2.setCell ⟨w.heap.size + 1, 1, none⟩ (.int .i64 (b.births + 1))).setCell ⟨w.heap.size + 1, 9, none⟩ (.int .i64 b.now)).drew = w3 := ⟨_, rfl⟩
  rw [hw3]
  have e1 : w3.heap[w.heap.size + 1]? = some (.cells S1.arr 28) := by
    rw [← hw3, hS1]
    exact heap_setCell_same _ _ 9 _ _ _ (heap_setCell_same _ _ 1 _ _ _ HQ1.out)
  have e0 : w3.heap[w.heap.size]? = some (.cells b.arr 47) := by
    rw [← hw3]
    show (((w2.setCell ⟨w.heap.size + 1, 1, none⟩ _).setCell ⟨w.heap.size + 1, 9, none⟩ _)).heap[w.heap.size]? = _
    rw [setCell_off _ _ _ n0, setCell_off _ _ _ n0]
    exact HQ0.out
  have e2 : w3.heap[w.heap.size + 1 + 1]? = some (.cells zeroS.arr 28) := by
    rw [← hw3]
    show (((w2.setCell ⟨w.heap.size + 1, 1, none⟩ _).setCell ⟨w.heap.size + 1, 9, none⟩ _)).heap[w.heap.size + 1 + 1]? = _
    rw [setCell_off _ _ _ n2, setCell_off _ _ _ n2]
    exact HQ2.out
  have HB3 : Hid (Below w.heap.size w w3) := hidG (by
    rw [← hw3]
    exact ((HB.out.setCell (p := ⟨w.heap.size + 1, 1, none⟩) (by show w.heap.size ≤ w.heap.size + 1; omega) _).setCell (p := ⟨w.heap.size + 1, 9, none⟩) (by show w.heap.size ≤ w.heap.size + 1; omega) _).drew)
  have E0 := hidG e0
  have E1 := hidG e1
  have E2 := hidG e2
  have HS1 := hidG hS1
  clear e0 e1 e2 hw3 k18 k19 s1 s9 s10 f1 f9 f10 t1 hS1 HQ0 HQ1 HQ2 HB
  go_wp2_with (first | (refine wpList_load_bi rfl _ rfl w.heap.size rfl b E0.out ?_) | fail)
  refine (HCD.out _).mono ?_
  rintro e w4 ⟨rfl, hb4⟩
  have e1 := (hb4.block _ (Array.getElem?_eq_some_iff.1 E1.out).1).trans E1.out
  have e2 := (hb4.block _ (Array.getElem?_eq_some_iff.1 E2.out).1).trans E2.out
  have HB4 := hidG (HB3.out.trans (hb4.mono HB3.out.size))
  have s10 : w4.cell? ⟨w.heap.size + 1, 10, none⟩ = some (nu S1.deadline) := by rw [cell_of_row w4 _ 10 _ _ _ e1]; rfl
  have f10 : w4.frozen? ⟨w.heap.size + 1, 10, none⟩ = false := by simp [World.frozen?, e1]
  obtain ⟨S2, hS2⟩ : ∃ S2 : Sn, S2 = { S1 with deadline := D } := ⟨_, rfl⟩
  have F1 : Hid ((w4.setCell ⟨w.heap.size + 1, 10, none⟩ (.int .i64 D)).heap[w.heap.size + 1]? = some (.cells S2.arr 28)) := hidG (by
    rw [hS2]
    exact heap_setCell_same _ _ 10 _ _ _ e1)
  have F2 : Hid ((w4.setCell ⟨w.heap.size + 1, 10, none⟩ (.int .i64 D)).heap[w.heap.size + 1 + 1]? = some (.cells zeroS.arr 28)) := hidG (by
    rw [setCell_off _ _ _ n2]
    exact e2)
  have HB5 : Hid (Below w.heap.size w (w4.setCell ⟨w.heap.size + 1, 10, none⟩ (.int .i64 D))) := hidG (HB4.out.setCell (p := ⟨w.heap.size + 1, 10, none⟩) (by show w.heap.size ≤ w.heap.size + 1; omega) _)
  have HS2 := hidG hS2
  clear hb4 e1 e2 hS2
  go_wp2_with (first | (refine wpList_load_sn rfl _ rfl (w.heap.size + 1) rfl S2 F1.out ?_) | (refine wpList_store_sn rfl _ _ rfl (w.heap.size + 1 + 1) rfl S2 zeroS rfl F2.out ?_; intro w6 hh hg; have HH := hidG hh; have HG := hidG hg; clear hh hg) | fail)
  refine bodyPost_ret (results_cell_row rfl _ _ (w.heap.size + 1 + 1) _ _ _ _ rfl HH.out Tryd.underlying28 rfl size_sn) rfl ⟨?_, HB5.out.grown HG.out HB5.out.size (fun k e => by cases e; omega)⟩
  rw [HS2.out, HS1.out]
  rfl
end Gr
end Go.Proofs.YtbgggekkkcefcabDoor
