/- Names that are read, steps up; of the program and of the document's answer. -/
import Derived.Test.YtfhnfejghngoeaaDoorLevels
namespace Go.Proofs.YtfhnfejghngoeaaDoor
set_option linter.ambiguousOpen false
open Go.RowKit Er Nm
namespace Lv
set_option linter.unusedSimpArgs false
set_option linter.unusedVariables false

theorem idx0 (w : World) : (Instr.index 55 (.agg #[.string ⟨#[108, 111, 119]⟩, .string ⟨#[109, 105, 100]⟩, .string ⟨#[104, 105, 103, 104]⟩]) (.int .i64 0)).run Tryd.prog w = .ok (.string ⟨#[108, 111, 119]⟩) w := by kernel_rfl

theorem idx1 (w : World) : (Instr.index 55 (.agg #[.string ⟨#[108, 111, 119]⟩, .string ⟨#[109, 105, 100]⟩, .string ⟨#[104, 105, 103, 104]⟩]) (.int .i64 1)).run Tryd.prog w = .ok (.string ⟨#[109, 105, 100]⟩) w := by kernel_rfl

theorem idx2 (w : World) : (Instr.index 55 (.agg #[.string ⟨#[108, 111, 119]⟩, .string ⟨#[109, 105, 100]⟩, .string ⟨#[104, 105, 103, 104]⟩]) (.int .i64 2)).run Tryd.prog w = .ok (.string ⟨#[104, 105, 103, 104]⟩) w := by kernel_rfl

theorem ne_list {s t : ByteArray} (h : s ≠ t) : (s.toList == t.toList) = false := by
  cases q : (s.toList == t.toList) with
  | false => rfl
  | true =>
    have e := eq_of_beq q
    rw [ByteArray.toList_eq, ByteArray.toList_eq] at e
    exact absurd (ByteArray.ext (Array.toList_inj.1 e)) h

theorem nmL_0 : (nmS 0).toList = [108, 111, 119] := by rw [ByteArray.toList_eq]; rfl

theorem nmL_1 : (nmS 1).toList = [109, 105, 100] := by rw [ByteArray.toList_eq]; rfl

theorem nmL_2 : (nmS 2).toList = [104, 105, 103, 104] := by rw [ByteArray.toList_eq]; rfl

set_option maxRecDepth 100000 in
theorem parse_no (s : ByteArray) (w : World) (h0 : s ≠ nmS 0) (h1 : s ≠ nmS 1) (h2 : s ≠ nmS 2) (hN : NamesG w) :
    Calls Tryd.prog 11 #[.string s] w fun e w' => e = .returned (.tuple #[.int .i64 0, noV 4]) ∧ w' = w := by
  have n0 := hN 0 _ rfl
  have n1 := hN 1 _ rfl
  have n2 := hN 2 _ rfl
  clear hN
  have q0 : (s.toList == [108, 111, 119]) = false := by rw [← nmL_0]; exact ne_list h0
  have q1 : (s.toList == [109, 105, 100]) = false := by rw [← nmL_1]; exact ne_list h1
  have q2 : (s.toList == [104, 105, 103, 104]) = false := by rw [← nmL_2]; exact ne_list h2
  clear h0 h1 h2
  have i0 := idx0
  have i1 := idx1
  have i2 := idx2
  unfold noV
  go_enter Tryd.func11, Tryd.ntmps11
  go_wp2
  go_loopw [7] (fun i wr => (i = .int .i64 0 ∨ i = .int .i64 1 ∨ i = .int .i64 2 ∨ i = .int .i64 3) ∧ wr = w) (fun i _ => 3 - (intOf i).toNat)
  case atStart => exact ⟨.inl rfl, rfl⟩
  case round =>
    obtain ⟨hi, hq⟩ := hrel
    subst wr
    rcases hi with rfl | rfl | rfl | rfl
    · go_wp2
      go_roundw
      case rel => exact ⟨(.inr (.inl rfl)), by trivial⟩
      case measure => simp [intOf]
    · go_wp2
      go_roundw
      case rel => exact ⟨(.inr (.inr (.inl rfl))), by trivial⟩
      case measure => simp [intOf]
    · go_wp2
      go_roundw
      case rel => exact ⟨(.inr (.inr (.inr rfl))), by trivial⟩
      case measure => simp [intOf]
    · go_wp2
      go_ret2
      exact ⟨rfl, rfl⟩

set_option maxRecDepth 100000 in
theorem rparse_no (s : ByteArray) (w : World) (h0 : s ≠ nmS 0) (h1 : s ≠ nmS 1) (h2 : s ≠ nmS 2)  :
    Calls Tryd.prog 9 #[.string s] w fun e w' => e = .returned (.tuple #[.int .i64 0, .int .i64 4]) ∧ w' = w := by
  have q0 : ([108, 111, 119] == s.toList) = false := by rw [← nmL_0]; exact ne_list (Ne.symm h0)
  have q1 : ([109, 105, 100] == s.toList) = false := by rw [← nmL_1]; exact ne_list (Ne.symm h1)
  have q2 : ([104, 105, 103, 104] == s.toList) = false := by rw [← nmL_2]; exact ne_list (Ne.symm h2)
  clear h0 h1 h2
  have c0 := rname_yes 0 w rfl
  have c1 := rname_yes 1 w rfl
  have c2 := rname_yes 2 w rfl
  simp only [nmS_0, nmS_1, nmS_2] at c0 c1 c2
  go_enter Tryd.func9, Tryd.ntmps9
  go_wp2
  go_loopw [4] (fun i wr => (i = .int .i64 0 ∨ i = .int .i64 1 ∨ i = .int .i64 2 ∨ i = .int .i64 3) ∧ wr = w) (fun i _ => 3 - (intOf i).toNat)
  case atStart => exact ⟨.inl rfl, rfl⟩
  case round =>
    obtain ⟨hi, hq⟩ := hrel
    subst wr
    rcases hi with rfl | rfl | rfl | rfl
    · go_wp2_with (go_at_call 8; refine c0.mono ?_; rintro e w1 ⟨rfl, hq⟩; subst w1)
      go_roundw
      case rel => exact ⟨(.inr (.inl rfl)), by trivial⟩
      case measure => simp [intOf]
    · go_wp2_with (go_at_call 8; refine c1.mono ?_; rintro e w1 ⟨rfl, hq⟩; subst w1)
      go_roundw
      case rel => exact ⟨(.inr (.inr (.inl rfl))), by trivial⟩
      case measure => simp [intOf]
    · go_wp2_with (go_at_call 8; refine c2.mono ?_; rintro e w1 ⟨rfl, hq⟩; subst w1)
      go_roundw
      case rel => exact ⟨(.inr (.inr (.inr rfl))), by trivial⟩
      case measure => simp [intOf]
    · go_wp2
      go_ret2
      exact ⟨rfl, rfl⟩

set_option maxRecDepth 100000 in
theorem parse_0 (w : World) (hN : NamesG w) :
    Calls Tryd.prog 11 #[.string ⟨#[108, 111, 119]⟩] w fun e w' => e = .returned (.tuple #[.int .i64 0, .nilIface]) ∧ w' = w := by
  have n0 := hN 0 _ rfl
  have n1 := hN 1 _ rfl
  have n2 := hN 2 _ rfl
  clear hN
  have i0 := idx0
  have i1 := idx1
  have i2 := idx2
  go_enter Tryd.func11, Tryd.ntmps11
  go_wp2
  go_loopw [7] (fun i wr => (i = .int .i64 0) ∧ wr = w) (fun i _ => 3 - (intOf i).toNat)
  case atStart => exact ⟨rfl, rfl⟩
  case round =>
    obtain ⟨hi, hq⟩ := hrel
    subst wr
    obtain rfl := hi
    · go_wp2
      go_ret2
      exact ⟨rfl, rfl⟩

set_option maxRecDepth 100000 in
theorem rparse_0 (w : World)  :
    Calls Tryd.prog 9 #[.string ⟨#[108, 111, 119]⟩] w fun e w' => e = .returned (.tuple #[.int .i64 0, .int .i64 0]) ∧ w' = w := by
  have c0 := rname_yes 0 w rfl
  have c1 := rname_yes 1 w rfl
  have c2 := rname_yes 2 w rfl
  simp only [nmS_0, nmS_1, nmS_2] at c0 c1 c2
  go_enter Tryd.func9, Tryd.ntmps9
  go_wp2
  go_loopw [4] (fun i wr => (i = .int .i64 0) ∧ wr = w) (fun i _ => 3 - (intOf i).toNat)
  case atStart => exact ⟨rfl, rfl⟩
  case round =>
    obtain ⟨hi, hq⟩ := hrel
    subst wr
    obtain rfl := hi
    · go_wp2_with (go_at_call 8; refine c0.mono ?_; rintro e w1 ⟨rfl, hq⟩; subst w1)
      go_ret2
      exact ⟨rfl, rfl⟩

set_option maxRecDepth 100000 in
theorem parse_1 (w : World) (hN : NamesG w) :
    Calls Tryd.prog 11 #[.string ⟨#[109, 105, 100]⟩] w fun e w' => e = .returned (.tuple #[.int .i64 1, .nilIface]) ∧ w' = w := by
  have n0 := hN 0 _ rfl
  have n1 := hN 1 _ rfl
  have n2 := hN 2 _ rfl
  clear hN
  have i0 := idx0
  have i1 := idx1
  have i2 := idx2
  go_enter Tryd.func11, Tryd.ntmps11
  go_wp2
  go_loopw [7] (fun i wr => (i = .int .i64 0 ∨ i = .int .i64 1) ∧ wr = w) (fun i _ => 3 - (intOf i).toNat)
  case atStart => exact ⟨.inl rfl, rfl⟩
  case round =>
    obtain ⟨hi, hq⟩ := hrel
    subst wr
    rcases hi with rfl | rfl
    · go_wp2
      go_roundw
      case rel => exact ⟨(.inr rfl), by trivial⟩
      case measure => simp [intOf]
    · go_wp2
      go_ret2
      exact ⟨rfl, rfl⟩

set_option maxRecDepth 100000 in
theorem rparse_1 (w : World)  :
    Calls Tryd.prog 9 #[.string ⟨#[109, 105, 100]⟩] w fun e w' => e = .returned (.tuple #[.int .i64 1, .int .i64 0]) ∧ w' = w := by
  have c0 := rname_yes 0 w rfl
  have c1 := rname_yes 1 w rfl
  have c2 := rname_yes 2 w rfl
  simp only [nmS_0, nmS_1, nmS_2] at c0 c1 c2
  go_enter Tryd.func9, Tryd.ntmps9
  go_wp2
  go_loopw [4] (fun i wr => (i = .int .i64 0 ∨ i = .int .i64 1) ∧ wr = w) (fun i _ => 3 - (intOf i).toNat)
  case atStart => exact ⟨.inl rfl, rfl⟩
  case round =>
    obtain ⟨hi, hq⟩ := hrel
    subst wr
    rcases hi with rfl | rfl
    · go_wp2_with (go_at_call 8; refine c0.mono ?_; rintro e w1 ⟨rfl, hq⟩; subst w1)
      go_roundw
      case rel => exact ⟨(.inr rfl), by trivial⟩
      case measure => simp [intOf]
    · go_wp2_with (go_at_call 8; refine c1.mono ?_; rintro e w1 ⟨rfl, hq⟩; subst w1)
      go_ret2
      exact ⟨rfl, rfl⟩

set_option maxRecDepth 100000 in
theorem parse_2 (w : World) (hN : NamesG w) :
    Calls Tryd.prog 11 #[.string ⟨#[104, 105, 103, 104]⟩] w fun e w' => e = .returned (.tuple #[.int .i64 2, .nilIface]) ∧ w' = w := by
  have n0 := hN 0 _ rfl
  have n1 := hN 1 _ rfl
  have n2 := hN 2 _ rfl
  clear hN
  have i0 := idx0
  have i1 := idx1
  have i2 := idx2
  go_enter Tryd.func11, Tryd.ntmps11
  go_wp2
  go_loopw [7] (fun i wr => (i = .int .i64 0 ∨ i = .int .i64 1 ∨ i = .int .i64 2) ∧ wr = w) (fun i _ => 3 - (intOf i).toNat)
  case atStart => exact ⟨.inl rfl, rfl⟩
  case round =>
    obtain ⟨hi, hq⟩ := hrel
    subst wr
    rcases hi with rfl | rfl | rfl
    · go_wp2
      go_roundw
      case rel => exact ⟨(.inr (.inl rfl)), by trivial⟩
      case measure => simp [intOf]
    · go_wp2
      go_roundw
      case rel => exact ⟨(.inr (.inr rfl)), by trivial⟩
      case measure => simp [intOf]
    · go_wp2
      go_ret2
      exact ⟨rfl, rfl⟩

set_option maxRecDepth 100000 in
theorem rparse_2 (w : World)  :
    Calls Tryd.prog 9 #[.string ⟨#[104, 105, 103, 104]⟩] w fun e w' => e = .returned (.tuple #[.int .i64 2, .int .i64 0]) ∧ w' = w := by
  have c0 := rname_yes 0 w rfl
  have c1 := rname_yes 1 w rfl
  have c2 := rname_yes 2 w rfl
  simp only [nmS_0, nmS_1, nmS_2] at c0 c1 c2
  go_enter Tryd.func9, Tryd.ntmps9
  go_wp2
  go_loopw [4] (fun i wr => (i = .int .i64 0 ∨ i = .int .i64 1 ∨ i = .int .i64 2) ∧ wr = w) (fun i _ => 3 - (intOf i).toNat)
  case atStart => exact ⟨.inl rfl, rfl⟩
  case round =>
    obtain ⟨hi, hq⟩ := hrel
    subst wr
    rcases hi with rfl | rfl | rfl
    · go_wp2_with (go_at_call 8; refine c0.mono ?_; rintro e w1 ⟨rfl, hq⟩; subst w1)
      go_roundw
      case rel => exact ⟨(.inr (.inl rfl)), by trivial⟩
      case measure => simp [intOf]
    · go_wp2_with (go_at_call 8; refine c1.mono ?_; rintro e w1 ⟨rfl, hq⟩; subst w1)
      go_roundw
      case rel => exact ⟨(.inr (.inr rfl)), by trivial⟩
      case measure => simp [intOf]
    · go_wp2_with (go_at_call 8; refine c2.mono ?_; rintro e w1 ⟨rfl, hq⟩; subst w1)
      go_ret2
      exact ⟨rfl, rfl⟩

theorem sdx0 (w : World) : (Instr.index 79 (.agg #[.int .i64 0, .int .i64 1, .int .i64 0, .int .i64 2, .int .i64 1, .int .i64 2]) (.int .i64 0)).run Tryd.prog w = .ok (.agg #[.int .i64 0, .int .i64 1]) w := by kernel_rfl

theorem sdx1 (w : World) : (Instr.index 79 (.agg #[.int .i64 0, .int .i64 1, .int .i64 0, .int .i64 2, .int .i64 1, .int .i64 2]) (.int .i64 1)).run Tryd.prog w = .ok (.agg #[.int .i64 0, .int .i64 2]) w := by kernel_rfl

theorem sdx2 (w : World) : (Instr.index 79 (.agg #[.int .i64 0, .int .i64 1, .int .i64 0, .int .i64 2, .int .i64 1, .int .i64 2]) (.int .i64 2)).run Tryd.prog w = .ok (.agg #[.int .i64 1, .int .i64 2]) w := by kernel_rfl

/-- Does it lead up? -/
def upB (a b : Int) : Bool := levelB a && levelB b && decide (a < b)

theorem upB_iff {a b : Int} : upB a b = true ↔ (a = 0 ∧ b = 1) ∨ (a = 0 ∧ b = 2) ∨ (a = 1 ∧ b = 2) := by
  unfold upB
  simp only [Bool.and_eq_true, levelB_iff, decide_eq_true_eq]
  omega

/-- The two cells of a step. -/
def Two (w : World) (g : Nat) (a b : Int) : Prop := w.cell? ⟨g, 0, none⟩ = some (.int .i64 a) ∧ w.cell? ⟨g, 1, none⟩ = some (.int .i64 b)

set_option maxRecDepth 100000 in
theorem lead_0 (w : World) (hS : StepsG w) :
    Calls Tryd.prog 25 #[.agg #[.int .i64 0, .int .i64 1]] w fun e w' => e = .returned (.bool true) ∧ Below w.heap.size w w' := by
  have hS1 := hS.below ((Below.refl _ w).alloc (Nat.le_refl _) (.cells #[.int .i64 0, .int .i64 1] 62))
  have s0 := hS1 0 _ rfl
  have s1 := hS1 1 _ rfl
  have s2 := hS1 2 _ rfl
  have s3 := hS1 3 _ rfl
  have s4 := hS1 4 _ rfl
  have s5 := hS1 5 _ rfl
  clear hS hS1
  have i0 := sdx0
  have i1 := sdx1
  have i2 := sdx2
  go_enter Tryd.func25, Tryd.ntmps25
  go_wp2
  go_loopw [6] (fun i wr => (i = .int .i64 0) ∧ wr.cell? ⟨w.heap.size, 0, none⟩ = some (.int .i64 0) ∧ wr.cell? ⟨w.heap.size, 1, none⟩ = some (.int .i64 1) ∧ w.heap.size < wr.heap.size ∧ Below w.heap.size w wr) (fun i _ => 3 - (intOf i).toNat)
  case atStart => exact ⟨rfl, by simp, by simp, by simp, (Below.refl _ _).alloc (Nat.le_refl _) _⟩
  case round =>
    obtain ⟨hi, e0, e1, hlt, hB⟩ := hrel
    clear s0 s1 s2 s3 s4 s5
    obtain rfl := hi
    · go_wp2
      go_ret
      exact ⟨rfl, hB.alloc hB.size _⟩

set_option maxRecDepth 100000 in
theorem lead_1 (w : World) (hS : StepsG w) :
    Calls Tryd.prog 25 #[.agg #[.int .i64 0, .int .i64 2]] w fun e w' => e = .returned (.bool true) ∧ Below w.heap.size w w' := by
  have hS1 := hS.below ((Below.refl _ w).alloc (Nat.le_refl _) (.cells #[.int .i64 0, .int .i64 2] 62))
  have s0 := hS1 0 _ rfl
  have s1 := hS1 1 _ rfl
  have s2 := hS1 2 _ rfl
  have s3 := hS1 3 _ rfl
  have s4 := hS1 4 _ rfl
  have s5 := hS1 5 _ rfl
  clear hS hS1
  have i0 := sdx0
  have i1 := sdx1
  have i2 := sdx2
  go_enter Tryd.func25, Tryd.ntmps25
  go_wp2
  go_loopw [6] (fun i wr => (i = .int .i64 0 ∨ i = .int .i64 1) ∧ wr.cell? ⟨w.heap.size, 0, none⟩ = some (.int .i64 0) ∧ wr.cell? ⟨w.heap.size, 1, none⟩ = some (.int .i64 2) ∧ w.heap.size < wr.heap.size ∧ Below w.heap.size w wr) (fun i _ => 3 - (intOf i).toNat)
  case atStart => exact ⟨.inl rfl, by simp, by simp, by simp, (Below.refl _ _).alloc (Nat.le_refl _) _⟩
  case round =>
    obtain ⟨hi, e0, e1, hlt, hB⟩ := hrel
    clear s0 s1 s2 s3 s4 s5
    rcases hi with rfl | rfl
    · go_wp2
      go_roundw
      case rel => exact ⟨(.inr rfl), (World.cell?_alloc_lt _ _ _ hlt).trans e0, (World.cell?_alloc_lt _ _ _ hlt).trans e1, by simp; omega, hB.alloc hB.size _⟩
      case measure => simp [intOf]
    · go_wp2
      go_ret
      exact ⟨rfl, hB.alloc hB.size _⟩

set_option maxRecDepth 100000 in
theorem lead_2 (w : World) (hS : StepsG w) :
    Calls Tryd.prog 25 #[.agg #[.int .i64 1, .int .i64 2]] w fun e w' => e = .returned (.bool true) ∧ Below w.heap.size w w' := by
  have hS1 := hS.below ((Below.refl _ w).alloc (Nat.le_refl _) (.cells #[.int .i64 1, .int .i64 2] 62))
  have s0 := hS1 0 _ rfl
  have s1 := hS1 1 _ rfl
  have s2 := hS1 2 _ rfl
  have s3 := hS1 3 _ rfl
  have s4 := hS1 4 _ rfl
  have s5 := hS1 5 _ rfl
  clear hS hS1
  have i0 := sdx0
  have i1 := sdx1
  have i2 := sdx2
  go_enter Tryd.func25, Tryd.ntmps25
  go_wp2
  go_loopw [6] (fun i wr => (i = .int .i64 0 ∨ i = .int .i64 1 ∨ i = .int .i64 2) ∧ wr.cell? ⟨w.heap.size, 0, none⟩ = some (.int .i64 1) ∧ wr.cell? ⟨w.heap.size, 1, none⟩ = some (.int .i64 2) ∧ w.heap.size < wr.heap.size ∧ Below w.heap.size w wr) (fun i _ => 3 - (intOf i).toNat)
  case atStart => exact ⟨.inl rfl, by simp, by simp, by simp, (Below.refl _ _).alloc (Nat.le_refl _) _⟩
  case round =>
    obtain ⟨hi, e0, e1, hlt, hB⟩ := hrel
    clear s0 s1 s2 s3 s4 s5
    rcases hi with rfl | rfl | rfl
    · go_wp2
      go_roundw
      case rel => exact ⟨(.inr (.inl rfl)), (World.cell?_alloc_lt _ _ _ hlt).trans e0, (World.cell?_alloc_lt _ _ _ hlt).trans e1, by simp; omega, hB.alloc hB.size _⟩
      case measure => simp [intOf]
    · go_wp2
      go_roundw
      case rel => exact ⟨(.inr (.inr rfl)), (World.cell?_alloc_lt _ _ _ hlt).trans e0, (World.cell?_alloc_lt _ _ _ hlt).trans e1, by simp; omega, hB.alloc hB.size _⟩
      case measure => simp [intOf]
    · go_wp2
      go_ret
      exact ⟨rfl, hB.alloc hB.size _⟩

set_option maxRecDepth 100000 in
theorem lead_n0 (b : Int) (hb1 : (b == 1) = false) (hb2 : (b == 2) = false) (w : World) (hS : StepsG w) :
    Calls Tryd.prog 25 #[.agg #[.int .i64 0, .int .i64 b]] w fun e w' => e = .returned (.bool false) ∧ Below w.heap.size w w' := by
  have hS1 := hS.below ((Below.refl _ w).alloc (Nat.le_refl _) (.cells #[.int .i64 0, .int .i64 b] 62))
  have s0 := hS1 0 _ rfl
  have s1 := hS1 1 _ rfl
  have s2 := hS1 2 _ rfl
  have s3 := hS1 3 _ rfl
  have s4 := hS1 4 _ rfl
  have s5 := hS1 5 _ rfl
  clear hS hS1
  have i0 := sdx0
  have i1 := sdx1
  have i2 := sdx2
  go_enter Tryd.func25, Tryd.ntmps25
  go_wp2
  go_loopw [6] (fun i wr => (i = .int .i64 0 ∨ i = .int .i64 1 ∨ i = .int .i64 2 ∨ i = .int .i64 3) ∧ wr.cell? ⟨w.heap.size, 0, none⟩ = some (.int .i64 0) ∧ wr.cell? ⟨w.heap.size, 1, none⟩ = some (.int .i64 b) ∧ w.heap.size < wr.heap.size ∧ Below w.heap.size w wr) (fun i _ => 3 - (intOf i).toNat)
  case atStart => exact ⟨.inl rfl, by simp, by simp, by simp, (Below.refl _ _).alloc (Nat.le_refl _) _⟩
  case round =>
    obtain ⟨hi, e0, e1, hlt, hB⟩ := hrel
    clear s0 s1 s2 s3 s4 s5
    rcases hi with rfl | rfl | rfl | rfl
    · go_wp2
      go_roundw
      case rel => exact ⟨(.inr (.inl rfl)), (World.cell?_alloc_lt _ _ _ hlt).trans e0, (World.cell?_alloc_lt _ _ _ hlt).trans e1, by simp; omega, hB.alloc hB.size _⟩
      case measure => simp [intOf]
    · go_wp2
      go_roundw
      case rel => exact ⟨(.inr (.inr (.inl rfl))), (World.cell?_alloc_lt _ _ _ hlt).trans e0, (World.cell?_alloc_lt _ _ _ hlt).trans e1, by simp; omega, hB.alloc hB.size _⟩
      case measure => simp [intOf]
    · go_wp2
      go_roundw
      case rel => exact ⟨(.inr (.inr (.inr rfl))), (World.cell?_alloc_lt _ _ _ hlt).trans e0, (World.cell?_alloc_lt _ _ _ hlt).trans e1, by simp; omega, hB.alloc hB.size _⟩
      case measure => simp [intOf]
    · go_wp2
      go_ret
      exact ⟨rfl, hB⟩

set_option maxRecDepth 100000 in
theorem lead_n1 (b : Int) (hb2 : (b == 2) = false) (w : World) (hS : StepsG w) :
    Calls Tryd.prog 25 #[.agg #[.int .i64 1, .int .i64 b]] w fun e w' => e = .returned (.bool false) ∧ Below w.heap.size w w' := by
  have hS1 := hS.below ((Below.refl _ w).alloc (Nat.le_refl _) (.cells #[.int .i64 1, .int .i64 b] 62))
  have s0 := hS1 0 _ rfl
  have s1 := hS1 1 _ rfl
  have s2 := hS1 2 _ rfl
  have s3 := hS1 3 _ rfl
  have s4 := hS1 4 _ rfl
  have s5 := hS1 5 _ rfl
  clear hS hS1
  have i0 := sdx0
  have i1 := sdx1
  have i2 := sdx2
  go_enter Tryd.func25, Tryd.ntmps25
  go_wp2
  go_loopw [6] (fun i wr => (i = .int .i64 0 ∨ i = .int .i64 1 ∨ i = .int .i64 2 ∨ i = .int .i64 3) ∧ wr.cell? ⟨w.heap.size, 0, none⟩ = some (.int .i64 1) ∧ wr.cell? ⟨w.heap.size, 1, none⟩ = some (.int .i64 b) ∧ w.heap.size < wr.heap.size ∧ Below w.heap.size w wr) (fun i _ => 3 - (intOf i).toNat)
  case atStart => exact ⟨.inl rfl, by simp, by simp, by simp, (Below.refl _ _).alloc (Nat.le_refl _) _⟩
  case round =>
    obtain ⟨hi, e0, e1, hlt, hB⟩ := hrel
    clear s0 s1 s2 s3 s4 s5
    rcases hi with rfl | rfl | rfl | rfl
    · go_wp2
      go_roundw
      case rel => exact ⟨(.inr (.inl rfl)), (World.cell?_alloc_lt _ _ _ hlt).trans e0, (World.cell?_alloc_lt _ _ _ hlt).trans e1, by simp; omega, hB.alloc hB.size _⟩
      case measure => simp [intOf]
    · go_wp2
      go_roundw
      case rel => exact ⟨(.inr (.inr (.inl rfl))), (World.cell?_alloc_lt _ _ _ hlt).trans e0, (World.cell?_alloc_lt _ _ _ hlt).trans e1, by simp; omega, hB.alloc hB.size _⟩
      case measure => simp [intOf]
    · go_wp2
      go_roundw
      case rel => exact ⟨(.inr (.inr (.inr rfl))), (World.cell?_alloc_lt _ _ _ hlt).trans e0, (World.cell?_alloc_lt _ _ _ hlt).trans e1, by simp; omega, hB.alloc hB.size _⟩
      case measure => simp [intOf]
    · go_wp2
      go_ret
      exact ⟨rfl, hB⟩

set_option maxRecDepth 100000 in
theorem lead_n (a b : Int) (ha0 : (a == 0) = false) (ha1 : (a == 1) = false) (w : World) (hS : StepsG w) :
    Calls Tryd.prog 25 #[.agg #[.int .i64 a, .int .i64 b]] w fun e w' => e = .returned (.bool false) ∧ Below w.heap.size w w' := by
  have hS1 := hS.below ((Below.refl _ w).alloc (Nat.le_refl _) (.cells #[.int .i64 a, .int .i64 b] 62))
  have s0 := hS1 0 _ rfl
  have s1 := hS1 1 _ rfl
  have s2 := hS1 2 _ rfl
  have s3 := hS1 3 _ rfl
  have s4 := hS1 4 _ rfl
  have s5 := hS1 5 _ rfl
  clear hS hS1
  have i0 := sdx0
  have i1 := sdx1
  have i2 := sdx2
  go_enter Tryd.func25, Tryd.ntmps25
  go_wp2
  go_loopw [6] (fun i wr => (i = .int .i64 0 ∨ i = .int .i64 1 ∨ i = .int .i64 2 ∨ i = .int .i64 3) ∧ wr.cell? ⟨w.heap.size, 0, none⟩ = some (.int .i64 a) ∧ wr.cell? ⟨w.heap.size, 1, none⟩ = some (.int .i64 b) ∧ w.heap.size < wr.heap.size ∧ Below w.heap.size w wr) (fun i _ => 3 - (intOf i).toNat)
  case atStart => exact ⟨.inl rfl, by simp, by simp, by simp, (Below.refl _ _).alloc (Nat.le_refl _) _⟩
  case round =>
    obtain ⟨hi, e0, e1, hlt, hB⟩ := hrel
    clear s0 s1 s2 s3 s4 s5
    rcases hi with rfl | rfl | rfl | rfl
    · go_wp2
      go_roundw
      case rel => exact ⟨(.inr (.inl rfl)), (World.cell?_alloc_lt _ _ _ hlt).trans e0, (World.cell?_alloc_lt _ _ _ hlt).trans e1, by simp; omega, hB.alloc hB.size _⟩
      case measure => simp [intOf]
    · go_wp2
      go_roundw
      case rel => exact ⟨(.inr (.inr (.inl rfl))), (World.cell?_alloc_lt _ _ _ hlt).trans e0, (World.cell?_alloc_lt _ _ _ hlt).trans e1, by simp; omega, hB.alloc hB.size _⟩
      case measure => simp [intOf]
    · go_wp2
      go_roundw
      case rel => exact ⟨(.inr (.inr (.inr rfl))), (World.cell?_alloc_lt _ _ _ hlt).trans e0, (World.cell?_alloc_lt _ _ _ hlt).trans e1, by simp; omega, hB.alloc hB.size _⟩
      case measure => simp [intOf]
    · go_wp2
      go_ret
      exact ⟨rfl, hB⟩

theorem beq_no {a b : Int} (h : a ≠ b) : (a == b) = false := by simpa using h

theorem lead_any (a b : Int) (w : World) (hS : StepsG w) :
    Calls Tryd.prog 25 #[.agg #[.int .i64 a, .int .i64 b]] w fun e w' => e = .returned (.bool (upB a b)) ∧ Below w.heap.size w w' := by
  cases h : upB a b with
  | true =>
    rcases upB_iff.1 h with ⟨rfl, rfl⟩ | ⟨rfl, rfl⟩ | ⟨rfl, rfl⟩
    · exact lead_0 w hS
    · exact lead_1 w hS
    · exact lead_2 w hS
  | false =>
    have hn : ¬ ((a = 0 ∧ b = 1) ∨ (a = 0 ∧ b = 2) ∨ (a = 1 ∧ b = 2)) := fun k => by rw [upB_iff.2 k] at h; cases h
    by_cases h0 : a = 0
    · subst h0
      exact lead_n0 b (beq_no (by omega)) (beq_no (by omega)) w hS
    · by_cases h1 : a = 1
      · subst h1
        exact lead_n1 b (beq_no (by omega)) w hS
      · exact lead_n a b (beq_no h0) (beq_no h1) w hS

/-- What is wrong with a step up, as a number. -/
def raiseI (a b n : Int) : Int := if upB a b = true then (if 1 ≤ n ∧ n ≤ 300 then 0 else 12) else 13

theorem raise_level (a b n : Int) (w : World) (hS : StepsG w) (h : upB a b = false) :
    Calls Tryd.prog 15 #[.int .i64 a, .int .i64 b, .int .i64 n] w fun e w' => e = .returned (noV 13) ∧ Below w.heap.size w w' := by
  have c := lead_any a b w hS
  rw [h] at c
  unfold noV
  clear h hS
  go_enter Tryd.func15, Tryd.ntmps15
  go_wp2_with (go_at_call 25; refine c.mono ?_; rintro e w1 ⟨rfl, hb⟩)
  go_ret
  exact ⟨rfl, hb⟩

theorem raise_time (a b n : Int) (w : World) (hS : StepsG w) (h : upB a b = true) (hn : ¬ (1 ≤ n ∧ n ≤ 300)) :
    Calls Tryd.prog 15 #[.int .i64 a, .int .i64 b, .int .i64 n] w fun e w' => e = .returned (noV 12) ∧ Below w.heap.size w w' := by
  have c := lead_any a b w hS
  rw [h] at c
  unfold noV
  clear h hS
  by_cases h1 : n < 1
  · clear hn
    go_enter Tryd.func15, Tryd.ntmps15
    go_wp2_with (go_at_call 25; refine c.mono ?_; rintro e w1 ⟨rfl, hb⟩)
    go_ret
    exact ⟨rfl, hb⟩
  · have h2 : 300 < n := by omega
    clear hn
    go_enter Tryd.func15, Tryd.ntmps15
    go_wp2_with (go_at_call 25; refine c.mono ?_; rintro e w1 ⟨rfl, hb⟩)
    go_ret
    exact ⟨rfl, hb⟩

theorem raise_ok (a b n : Int) (w : World) (hS : StepsG w) (h : upB a b = true) (hn : 1 ≤ n ∧ n ≤ 300) :
    Calls Tryd.prog 15 #[.int .i64 a, .int .i64 b, .int .i64 n] w fun e w' => e = .returned .nilIface ∧ Below w.heap.size w w' := by
  have c := lead_any a b w hS
  rw [h] at c
  have h1 : ¬ n < 1 := by omega
  have h2 : ¬ 300 < n := by omega
  clear h hS hn
  go_enter Tryd.func15, Tryd.ntmps15
  go_wp2_with (go_at_call 25; refine c.mono ?_; rintro e w1 ⟨rfl, hb⟩)
  go_ret
  exact ⟨rfl, hb⟩

theorem rraise_level (a b n : Int) (w : World) (h : upB a b = false) :
    Calls Tryd.prog 16 #[.int .i64 a, .int .i64 b, .int .i64 n] w fun e w' => e = .returned (.int .i64 13) ∧ w' = w := by
  have c := is_any
  cases h1 : levelB a
  · clear h
    go_enter Tryd.func16, Tryd.ntmps16
    go_wp2_with (go_at_call 24; refine (c _ _).mono ?_; rintro e w1 ⟨rfl, hq⟩; subst w1)
    go_ret
    exact ⟨rfl, rfl⟩
  · cases h2 : levelB b
    · clear h
      go_enter Tryd.func16, Tryd.ntmps16
      go_wp2_with (go_at_call 24; refine (c _ _).mono ?_; rintro e w1 ⟨rfl, hq⟩; subst w1)
      go_ret
      exact ⟨rfl, rfl⟩
    · have h3 : b ≤ a := by
        have : decide (a < b) = false := by simpa [upB, h1, h2] using h
        simpa using this
      clear h
      go_enter Tryd.func16, Tryd.ntmps16
      go_wp2_with (go_at_call 24; refine (c _ _).mono ?_; rintro e w1 ⟨rfl, hq⟩; subst w1)
      go_ret
      exact ⟨rfl, rfl⟩

theorem up_parts {a b : Int} (h : upB a b = true) : levelB a = true ∧ levelB b = true ∧ ¬ b ≤ a := by
  unfold upB at h
  simp only [Bool.and_eq_true, decide_eq_true_eq] at h
  exact ⟨h.1.1, h.1.2, by omega⟩

theorem rraise_time (a b n : Int) (w : World) (h : upB a b = true) (hn : ¬ (1 ≤ n ∧ n ≤ 300)) :
    Calls Tryd.prog 16 #[.int .i64 a, .int .i64 b, .int .i64 n] w fun e w' => e = .returned (.int .i64 12) ∧ w' = w := by
  have c := is_any
  obtain ⟨h1, h2, h3⟩ := up_parts h
  clear h
  by_cases h4 : n < 1
  · clear hn
    go_enter Tryd.func16, Tryd.ntmps16
    go_wp2_with (go_at_call 24; refine (c _ _).mono ?_; rintro e w1 ⟨rfl, hq⟩; subst w1)
    go_ret
    exact ⟨rfl, rfl⟩
  · have h5 : 300 < n := by omega
    clear hn
    go_enter Tryd.func16, Tryd.ntmps16
    go_wp2_with (go_at_call 24; refine (c _ _).mono ?_; rintro e w1 ⟨rfl, hq⟩; subst w1)
    go_ret
    exact ⟨rfl, rfl⟩

theorem rraise_ok (a b n : Int) (w : World) (h : upB a b = true) (hn : 1 ≤ n ∧ n ≤ 300) :
    Calls Tryd.prog 16 #[.int .i64 a, .int .i64 b, .int .i64 n] w fun e w' => e = .returned (.int .i64 0) ∧ w' = w := by
  have c := is_any
  obtain ⟨h1, h2, h3⟩ := up_parts h
  have h4 : ¬ n < 1 := by omega
  have h5 : ¬ 300 < n := by omega
  clear h hn
  go_enter Tryd.func16, Tryd.ntmps16
  go_wp2_with (go_at_call 24; refine (c _ _).mono ?_; rintro e w1 ⟨rfl, hq⟩; subst w1)
  go_ret
  exact ⟨rfl, rfl⟩

end Lv
end Go.Proofs.YtfhnfejghngoeaaDoor
