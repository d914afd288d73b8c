/- Levels and steps up, of the program: what a plain seat can use too. -/
import Derived.Test.YtbgggekkkcefcabDoorGrP
import Derived.Test.YtbgggekkkcefcabDoorIs
import Derived.WalkKit
import Derived.WalkSpells
import Derived.Handy
namespace Go.Proofs.YtbgggekkkcefcabDoor
set_option linter.ambiguousOpen false
open Go.RowKit Er
namespace Lv
set_option linter.unusedSimpArgs false
set_option linter.unusedVariables false

theorem ret_bool {b c : Bool} (h : b = c) : Ending.returned (.bool b) = .returned (.bool c) := by rw [h]

/-- The steps, as they lie. -/
def stepCells : List Value := [.int .i64 0, .int .i64 1, .int .i64 0, .int .i64 2, .int .i64 1, .int .i64 2]

def StepsG (w : World) : Prop := ∀ j v, stepCells[j]? = some v → w.cell? ⟨1, j, none⟩ = some v

theorem StepsG.lt {w : World} (h : StepsG w) : 1 < w.heap.size := by
  have h0 := h 0 _ rfl
  rcases Nat.lt_or_ge 1 w.heap.size with k | k
  · exact k
  · simp [World.cell?, Array.getElem?_eq_none k] at h0

theorem StepsG.below {w w' : World} (h : StepsG w) (hb : Below w.heap.size w w') : StepsG w' := fun j v hj => (hb.cell (p := ⟨1, j, none⟩) h.lt).trans (h j v hj)

/-- Is it a level? -/
def levelB (n : Int) : Bool := decide (0 ≤ n) && decide (n ≤ 2)

theorem levelB_iff {n : Int} : levelB n = true ↔ 0 ≤ n ∧ n ≤ 2 := by unfold levelB; simp

theorem isLevel_any (n : Int) (w : World) :
    Calls Tryd.prog 54 #[.int .i64 n] w fun e w' => e = .returned (.bool (levelB n)) ∧ w' = w := by
  by_cases h0 : 0 ≤ n
  · by_cases h1 : n < 3
    all_goals
      go_enter Tryd.func54, Tryd.ntmps54
      go_wp2
      go_ret
      exact ⟨ret_bool (by simp [levelB]; omega), rfl⟩
  · go_enter Tryd.func54, Tryd.ntmps54
    go_wp2
    go_ret
    exact ⟨ret_bool (by simp [levelB]; omega), rfl⟩

/-- Is it enough? -/
def enoughB (a b : Int) : Bool := levelB a && levelB b && decide (b ≤ a)

theorem enough_any (a b : Int) (w : World) :
    Calls Tryd.prog 38 #[.int .i64 a, .int .i64 b] w fun e w' => e = .returned (.bool (enoughB a b)) ∧ w' = w := by
  have c := isLevel_any
  unfold enoughB
  cases h1 : levelB a
  · go_enter Tryd.func38, Tryd.ntmps38
    go_wp2_with (go_at_call 54; refine (c _ _).mono ?_; rintro e w1 ⟨rfl, rfl⟩)
    go_ret
    exact ⟨ret_bool (by simp), rfl⟩
  · cases h2 : levelB b
    · go_enter Tryd.func38, Tryd.ntmps38
      go_wp2_with (go_at_call 54; refine (c _ _).mono ?_; rintro e w1 ⟨rfl, rfl⟩)
      go_ret
      exact ⟨ret_bool (by simp), rfl⟩
    · by_cases h3 : b ≤ a
      all_goals
        go_enter Tryd.func38, Tryd.ntmps38
        go_wp2_with (go_at_call 54; refine (c _ _).mono ?_; rintro e w1 ⟨rfl, rfl⟩)
        go_ret
        exact ⟨ret_bool (by simp [h3]), rfl⟩

theorem sdx0 (w : World) : (Instr.index 102 (.agg #[.int .i64 0, .int .i64 1, .int .i64 0, .int .i64 2, .int .i64 1, .int .i64 2]) (.int .i64 0)).run Tryd.prog w = .ok (.agg #[.int .i64 0, .int .i64 1]) w := by kernel_rfl

theorem sdx1 (w : World) : (Instr.index 102 (.agg #[.int .i64 0, .int .i64 1, .int .i64 0, .int .i64 2, .int .i64 1, .int .i64 2]) (.int .i64 1)).run Tryd.prog w = .ok (.agg #[.int .i64 0, .int .i64 2]) w := by kernel_rfl

theorem sdx2 (w : World) : (Instr.index 102 (.agg #[.int .i64 0, .int .i64 1, .int .i64 0, .int .i64 2, .int .i64 1, .int .i64 2]) (.int .i64 2)).run Tryd.prog w = .ok (.agg #[.int .i64 1, .int .i64 2]) w := by kernel_rfl

/-- Does it lead up? -/
def upB (a b : Int) : Bool := levelB a && levelB b && decide (a < b)

theorem upB_iff {a b : Int} : upB a b = true ↔ (a = 0 ∧ b = 1) ∨ (a = 0 ∧ b = 2) ∨ (a = 1 ∧ b = 2) := by
  unfold upB
  simp only [Bool.and_eq_true, levelB_iff, decide_eq_true_eq]
  omega

set_option maxRecDepth 100000 in
theorem lead_0 (w : World) (hS : StepsG w) :
    Calls Tryd.prog 57 #[.agg #[.int .i64 0, .int .i64 1]] w fun e w' => e = .returned (.bool true) ∧ Below w.heap.size w w' := by
  have hS1 := hS.below ((Below.refl _ w).alloc (Nat.le_refl _) (.cells #[.int .i64 0, .int .i64 1] 84))
  have s0 := hS1 0 _ rfl
  have s1 := hS1 1 _ rfl
  have s2 := hS1 2 _ rfl
  have s3 := hS1 3 _ rfl
  have s4 := hS1 4 _ rfl
  have s5 := hS1 5 _ rfl
  clear hS hS1
  have i0 := sdx0
  have i1 := sdx1
  have i2 := sdx2
  go_enter Tryd.func57, Tryd.ntmps57
  go_wp2
  go_loopw [6] (fun i wr => (i = .int .i64 0) ∧ wr.cell? ⟨w.heap.size, 0, none⟩ = some (.int .i64 0) ∧ wr.cell? ⟨w.heap.size, 1, none⟩ = some (.int .i64 1) ∧ w.heap.size < wr.heap.size ∧ Below w.heap.size w wr) (fun i _ => 3 - (intOf i).toNat)
  case atStart => exact ⟨rfl, by simp, by simp, by simp, (Below.refl _ _).alloc (Nat.le_refl _) _⟩
  case round =>
    obtain ⟨hi, e0, e1, hlt, hB⟩ := hrel
    clear s0 s1 s2 s3 s4 s5
    obtain rfl := hi
    · go_wp2
      go_ret
      exact ⟨rfl, hB.alloc hB.size _⟩

set_option maxRecDepth 100000 in
theorem lead_1 (w : World) (hS : StepsG w) :
    Calls Tryd.prog 57 #[.agg #[.int .i64 0, .int .i64 2]] w fun e w' => e = .returned (.bool true) ∧ Below w.heap.size w w' := by
  have hS1 := hS.below ((Below.refl _ w).alloc (Nat.le_refl _) (.cells #[.int .i64 0, .int .i64 2] 84))
  have s0 := hS1 0 _ rfl
  have s1 := hS1 1 _ rfl
  have s2 := hS1 2 _ rfl
  have s3 := hS1 3 _ rfl
  have s4 := hS1 4 _ rfl
  have s5 := hS1 5 _ rfl
  clear hS hS1
  have i0 := sdx0
  have i1 := sdx1
  have i2 := sdx2
  go_enter Tryd.func57, Tryd.ntmps57
  go_wp2
  go_loopw [6] (fun i wr => (i = .int .i64 0 ∨ i = .int .i64 1) ∧ wr.cell? ⟨w.heap.size, 0, none⟩ = some (.int .i64 0) ∧ wr.cell? ⟨w.heap.size, 1, none⟩ = some (.int .i64 2) ∧ w.heap.size < wr.heap.size ∧ Below w.heap.size w wr) (fun i _ => 3 - (intOf i).toNat)
  case atStart => exact ⟨.inl rfl, by simp, by simp, by simp, (Below.refl _ _).alloc (Nat.le_refl _) _⟩
  case round =>
    obtain ⟨hi, e0, e1, hlt, hB⟩ := hrel
    clear s0 s1 s2 s3 s4 s5
    rcases hi with rfl | rfl
    · go_wp2
      go_roundw
      case rel => exact ⟨(.inr rfl), (World.cell?_alloc_lt _ _ _ hlt).trans e0, (World.cell?_alloc_lt _ _ _ hlt).trans e1, by simp; omega, hB.alloc hB.size _⟩
      case measure => simp [intOf]
    · go_wp2
      go_ret
      exact ⟨rfl, hB.alloc hB.size _⟩

set_option maxRecDepth 100000 in
theorem lead_2 (w : World) (hS : StepsG w) :
    Calls Tryd.prog 57 #[.agg #[.int .i64 1, .int .i64 2]] w fun e w' => e = .returned (.bool true) ∧ Below w.heap.size w w' := by
  have hS1 := hS.below ((Below.refl _ w).alloc (Nat.le_refl _) (.cells #[.int .i64 1, .int .i64 2] 84))
  have s0 := hS1 0 _ rfl
  have s1 := hS1 1 _ rfl
  have s2 := hS1 2 _ rfl
  have s3 := hS1 3 _ rfl
  have s4 := hS1 4 _ rfl
  have s5 := hS1 5 _ rfl
  clear hS hS1
  have i0 := sdx0
  have i1 := sdx1
  have i2 := sdx2
  go_enter Tryd.func57, Tryd.ntmps57
  go_wp2
  go_loopw [6] (fun i wr => (i = .int .i64 0 ∨ i = .int .i64 1 ∨ i = .int .i64 2) ∧ wr.cell? ⟨w.heap.size, 0, none⟩ = some (.int .i64 1) ∧ wr.cell? ⟨w.heap.size, 1, none⟩ = some (.int .i64 2) ∧ w.heap.size < wr.heap.size ∧ Below w.heap.size w wr) (fun i _ => 3 - (intOf i).toNat)
  case atStart => exact ⟨.inl rfl, by simp, by simp, by simp, (Below.refl _ _).alloc (Nat.le_refl _) _⟩
  case round =>
    obtain ⟨hi, e0, e1, hlt, hB⟩ := hrel
    clear s0 s1 s2 s3 s4 s5
    rcases hi with rfl | rfl | rfl
    · go_wp2
      go_roundw
      case rel => exact ⟨(.inr (.inl rfl)), (World.cell?_alloc_lt _ _ _ hlt).trans e0, (World.cell?_alloc_lt _ _ _ hlt).trans e1, by simp; omega, hB.alloc hB.size _⟩
      case measure => simp [intOf]
    · go_wp2
      go_roundw
      case rel => exact ⟨(.inr (.inr rfl)), (World.cell?_alloc_lt _ _ _ hlt).trans e0, (World.cell?_alloc_lt _ _ _ hlt).trans e1, by simp; omega, hB.alloc hB.size _⟩
      case measure => simp [intOf]
    · go_wp2
      go_ret
      exact ⟨rfl, hB.alloc hB.size _⟩

set_option maxRecDepth 100000 in
theorem lead_n0 (b : Int) (hb1 : (b == 1) = false) (hb2 : (b == 2) = false) (w : World) (hS : StepsG w) :
    Calls Tryd.prog 57 #[.agg #[.int .i64 0, .int .i64 b]] w fun e w' => e = .returned (.bool false) ∧ Below w.heap.size w w' := by
  have hS1 := hS.below ((Below.refl _ w).alloc (Nat.le_refl _) (.cells #[.int .i64 0, .int .i64 b] 84))
  have s0 := hS1 0 _ rfl
  have s1 := hS1 1 _ rfl
  have s2 := hS1 2 _ rfl
  have s3 := hS1 3 _ rfl
  have s4 := hS1 4 _ rfl
  have s5 := hS1 5 _ rfl
  clear hS hS1
  have i0 := sdx0
  have i1 := sdx1
  have i2 := sdx2
  go_enter Tryd.func57, Tryd.ntmps57
  go_wp2
  go_loopw [6] (fun i wr => (i = .int .i64 0 ∨ i = .int .i64 1 ∨ i = .int .i64 2 ∨ i = .int .i64 3) ∧ wr.cell? ⟨w.heap.size, 0, none⟩ = some (.int .i64 0) ∧ wr.cell? ⟨w.heap.size, 1, none⟩ = some (.int .i64 b) ∧ w.heap.size < wr.heap.size ∧ Below w.heap.size w wr) (fun i _ => 3 - (intOf i).toNat)
  case atStart => exact ⟨.inl rfl, by simp, by simp, by simp, (Below.refl _ _).alloc (Nat.le_refl _) _⟩
  case round =>
    obtain ⟨hi, e0, e1, hlt, hB⟩ := hrel
    clear s0 s1 s2 s3 s4 s5
    rcases hi with rfl | rfl | rfl | rfl
    · go_wp2
      go_roundw
      case rel => exact ⟨(.inr (.inl rfl)), (World.cell?_alloc_lt _ _ _ hlt).trans e0, (World.cell?_alloc_lt _ _ _ hlt).trans e1, by simp; omega, hB.alloc hB.size _⟩
      case measure => simp [intOf]
    · go_wp2
      go_roundw
      case rel => exact ⟨(.inr (.inr (.inl rfl))), (World.cell?_alloc_lt _ _ _ hlt).trans e0, (World.cell?_alloc_lt _ _ _ hlt).trans e1, by simp; omega, hB.alloc hB.size _⟩
      case measure => simp [intOf]
    · go_wp2
      go_roundw
      case rel => exact ⟨(.inr (.inr (.inr rfl))), (World.cell?_alloc_lt _ _ _ hlt).trans e0, (World.cell?_alloc_lt _ _ _ hlt).trans e1, by simp; omega, hB.alloc hB.size _⟩
      case measure => simp [intOf]
    · go_wp2
      go_ret
      exact ⟨rfl, hB⟩

set_option maxRecDepth 100000 in
theorem lead_n1 (b : Int) (hb2 : (b == 2) = false) (w : World) (hS : StepsG w) :
    Calls Tryd.prog 57 #[.agg #[.int .i64 1, .int .i64 b]] w fun e w' => e = .returned (.bool false) ∧ Below w.heap.size w w' := by
  have hS1 := hS.below ((Below.refl _ w).alloc (Nat.le_refl _) (.cells #[.int .i64 1, .int .i64 b] 84))
  have s0 := hS1 0 _ rfl
  have s1 := hS1 1 _ rfl
  have s2 := hS1 2 _ rfl
  have s3 := hS1 3 _ rfl
  have s4 := hS1 4 _ rfl
  have s5 := hS1 5 _ rfl
  clear hS hS1
  have i0 := sdx0
  have i1 := sdx1
  have i2 := sdx2
  go_enter Tryd.func57, Tryd.ntmps57
  go_wp2
  go_loopw [6] (fun i wr => (i = .int .i64 0 ∨ i = .int .i64 1 ∨ i = .int .i64 2 ∨ i = .int .i64 3) ∧ wr.cell? ⟨w.heap.size, 0, none⟩ = some (.int .i64 1) ∧ wr.cell? ⟨w.heap.size, 1, none⟩ = some (.int .i64 b) ∧ w.heap.size < wr.heap.size ∧ Below w.heap.size w wr) (fun i _ => 3 - (intOf i).toNat)
  case atStart => exact ⟨.inl rfl, by simp, by simp, by simp, (Below.refl _ _).alloc (Nat.le_refl _) _⟩
  case round =>
    obtain ⟨hi, e0, e1, hlt, hB⟩ := hrel
    clear s0 s1 s2 s3 s4 s5
    rcases hi with rfl | rfl | rfl | rfl
    · go_wp2
      go_roundw
      case rel => exact ⟨(.inr (.inl rfl)), (World.cell?_alloc_lt _ _ _ hlt).trans e0, (World.cell?_alloc_lt _ _ _ hlt).trans e1, by simp; omega, hB.alloc hB.size _⟩
      case measure => simp [intOf]
    · go_wp2
      go_roundw
      case rel => exact ⟨(.inr (.inr (.inl rfl))), (World.cell?_alloc_lt _ _ _ hlt).trans e0, (World.cell?_alloc_lt _ _ _ hlt).trans e1, by simp; omega, hB.alloc hB.size _⟩
      case measure => simp [intOf]
    · go_wp2
      go_roundw
      case rel => exact ⟨(.inr (.inr (.inr rfl))), (World.cell?_alloc_lt _ _ _ hlt).trans e0, (World.cell?_alloc_lt _ _ _ hlt).trans e1, by simp; omega, hB.alloc hB.size _⟩
      case measure => simp [intOf]
    · go_wp2
      go_ret
      exact ⟨rfl, hB⟩

set_option maxRecDepth 100000 in
theorem lead_n (a b : Int) (ha0 : (a == 0) = false) (ha1 : (a == 1) = false) (w : World) (hS : StepsG w) :
    Calls Tryd.prog 57 #[.agg #[.int .i64 a, .int .i64 b]] w fun e w' => e = .returned (.bool false) ∧ Below w.heap.size w w' := by
  have hS1 := hS.below ((Below.refl _ w).alloc (Nat.le_refl _) (.cells #[.int .i64 a, .int .i64 b] 84))
  have s0 := hS1 0 _ rfl
  have s1 := hS1 1 _ rfl
  have s2 := hS1 2 _ rfl
  have s3 := hS1 3 _ rfl
  have s4 := hS1 4 _ rfl
  have s5 := hS1 5 _ rfl
  clear hS hS1
  have i0 := sdx0
  have i1 := sdx1
  have i2 := sdx2
  go_enter Tryd.func57, Tryd.ntmps57
  go_wp2
  go_loopw [6] (fun i wr => (i = .int .i64 0 ∨ i = .int .i64 1 ∨ i = .int .i64 2 ∨ i = .int .i64 3) ∧ wr.cell? ⟨w.heap.size, 0, none⟩ = some (.int .i64 a) ∧ wr.cell? ⟨w.heap.size, 1, none⟩ = some (.int .i64 b) ∧ w.heap.size < wr.heap.size ∧ Below w.heap.size w wr) (fun i _ => 3 - (intOf i).toNat)
  case atStart => exact ⟨.inl rfl, by simp, by simp, by simp, (Below.refl _ _).alloc (Nat.le_refl _) _⟩
  case round =>
    obtain ⟨hi, e0, e1, hlt, hB⟩ := hrel
    clear s0 s1 s2 s3 s4 s5
    rcases hi with rfl | rfl | rfl | rfl
    · go_wp2
      go_roundw
      case rel => exact ⟨(.inr (.inl rfl)), (World.cell?_alloc_lt _ _ _ hlt).trans e0, (World.cell?_alloc_lt _ _ _ hlt).trans e1, by simp; omega, hB.alloc hB.size _⟩
      case measure => simp [intOf]
    · go_wp2
      go_roundw
      case rel => exact ⟨(.inr (.inr (.inl rfl))), (World.cell?_alloc_lt _ _ _ hlt).trans e0, (World.cell?_alloc_lt _ _ _ hlt).trans e1, by simp; omega, hB.alloc hB.size _⟩
      case measure => simp [intOf]
    · go_wp2
      go_roundw
      case rel => exact ⟨(.inr (.inr (.inr rfl))), (World.cell?_alloc_lt _ _ _ hlt).trans e0, (World.cell?_alloc_lt _ _ _ hlt).trans e1, by simp; omega, hB.alloc hB.size _⟩
      case measure => simp [intOf]
    · go_wp2
      go_ret
      exact ⟨rfl, hB⟩

theorem beq_no {a b : Int} (h : a ≠ b) : (a == b) = false := by simpa using h

theorem lead_any (a b : Int) (w : World) (hS : StepsG w) :
    Calls Tryd.prog 57 #[.agg #[.int .i64 a, .int .i64 b]] w fun e w' => e = .returned (.bool (upB a b)) ∧ Below w.heap.size w w' := by
  cases h : upB a b with
  | true =>
    rcases upB_iff.1 h with ⟨rfl, rfl⟩ | ⟨rfl, rfl⟩ | ⟨rfl, rfl⟩
    · exact lead_0 w hS
    · exact lead_1 w hS
    · exact lead_2 w hS
  | false =>
    have hn : ¬ ((a = 0 ∧ b = 1) ∨ (a = 0 ∧ b = 2) ∨ (a = 1 ∧ b = 2)) := fun k => by rw [upB_iff.2 k] at h; cases h
    by_cases h0 : a = 0
    · subst h0
      exact lead_n0 b (beq_no (by omega)) (beq_no (by omega)) w hS
    · by_cases h1 : a = 1
      · subst h1
        exact lead_n1 b (beq_no (by omega)) w hS
      · exact lead_n a b (beq_no h0) (beq_no h1) w hS

theorem raise_level (a b n : Int) (w : World) (hS : StepsG w) (h : upB a b = false) :
    Calls Tryd.prog 41 #[.int .i64 a, .int .i64 b, .int .i64 n] w fun e w' => e = .returned (noV 13) ∧ Below w.heap.size w w' := by
  have c := lead_any a b w hS
  rw [h] at c
  unfold noV
  clear h hS
  go_enter Tryd.func41, Tryd.ntmps41
  go_wp2_with (go_at_call 57; refine c.mono ?_; rintro e w1 ⟨rfl, hb⟩)
  go_ret
  exact ⟨rfl, hb⟩

theorem raise_time (a b n : Int) (w : World) (hS : StepsG w) (h : upB a b = true) (hn : ¬ (1 ≤ n ∧ n ≤ 300)) :
    Calls Tryd.prog 41 #[.int .i64 a, .int .i64 b, .int .i64 n] w fun e w' => e = .returned (noV 12) ∧ Below w.heap.size w w' := by
  have c := lead_any a b w hS
  rw [h] at c
  unfold noV
  clear h hS
  by_cases h1 : n < 1
  · clear hn
    go_enter Tryd.func41, Tryd.ntmps41
    go_wp2_with (go_at_call 57; refine c.mono ?_; rintro e w1 ⟨rfl, hb⟩)
    go_ret
    exact ⟨rfl, hb⟩
  · have h2 : 300 < n := by omega
    clear hn
    go_enter Tryd.func41, Tryd.ntmps41
    go_wp2_with (go_at_call 57; refine c.mono ?_; rintro e w1 ⟨rfl, hb⟩)
    go_ret
    exact ⟨rfl, hb⟩

theorem raise_ok (a b n : Int) (w : World) (hS : StepsG w) (h : upB a b = true) (hn : 1 ≤ n ∧ n ≤ 300) :
    Calls Tryd.prog 41 #[.int .i64 a, .int .i64 b, .int .i64 n] w fun e w' => e = .returned .nilIface ∧ Below w.heap.size w w' := by
  have c := lead_any a b w hS
  rw [h] at c
  have h1 : ¬ n < 1 := by omega
  have h2 : ¬ 300 < n := by omega
  clear h hS hn
  go_enter Tryd.func41, Tryd.ntmps41
  go_wp2_with (go_at_call 57; refine c.mono ?_; rintro e w1 ⟨rfl, hb⟩)
  go_ret
  exact ⟨rfl, hb⟩
end Lv
end Go.Proofs.YtbgggekkkcefcabDoor
