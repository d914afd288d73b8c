/- Levels: their names, what is enough, what may be raised; of the program and of the document's answer. -/
import Derived.Test.YtfhnfejghngoeaaDoorLaidG
import Derived.Test.YtfhnfejghngoeaaDoorPlace
import Derived.Test.YtfhnfejghngoeaaDoorParts
namespace Go.Proofs.YtfhnfejghngoeaaDoor
set_option linter.ambiguousOpen false
open Go.RowKit Er Nm
namespace Lv
set_option linter.unusedSimpArgs false
set_option linter.unusedVariables false

theorem ret_bool {b c : Bool} (h : b = c) : Ending.returned (.bool b) = .returned (.bool c) := by rw [h]

theorem ret_int {k : IntKind} {a b : Int} (h : a = b) : Ending.returned (.int k a) = .returned (.int k b) := by rw [h]

/-- The names, as they lie. -/
def nameCells : List Value := [.string ⟨#[108, 111, 119]⟩, .string ⟨#[109, 105, 100]⟩, .string ⟨#[104, 105, 103, 104]⟩]

def NamesG (w : World) : Prop := ∀ j v, nameCells[j]? = some v → w.cell? ⟨0, j, none⟩ = some v

theorem names_of {L : List (String × DataW Unit)} {W : World} (h : laidMetH Tryd.prog L W) (e : (L.filter fun x => x.1 == "lineage/level.names") = [("lineage/level.names", Rows.laid_lineage_level_names)]) : NamesG W := by
  have h2 := h.filter fun x => x.1 == "lineage/level.names"
  rw [e] at h2
  have h' : laidMet Tryd.prog [("lineage/level.names", Rows.laid_lineage_level_names)] W := h2
  have hv := Fl.cells_of_laid (g := 0) (t := 55) 4 (by kernel_rfl) (by kernel_rfl) (by kernel_rfl) h'
  have hf : Fl.flat (Rows.laid_lineage_level_names : DataW Unit) = nameCells := by rfl
  rw [hf] at hv
  intro j v hj
  rw [World.var?_cell (show Tryd.prog.globalNamed "lineage/level.names" = some 0 by kernel_rfl) hv j]
  simpa using hj

theorem NamesG.lt {w : World} (h : NamesG w) : 0 < w.heap.size := by
  have h0 := h 0 _ rfl
  rcases Nat.lt_or_ge 0 w.heap.size with k | k
  · exact k
  · simp [World.cell?, Array.getElem?_eq_none k] at h0

theorem NamesG.below {w w' : World} (h : NamesG w) (hb : Below w.heap.size w w') : NamesG w' := fun j v hj => (hb.cell (p := ⟨0, j, none⟩) h.lt).trans (h j v hj)

/-- The steps, as they lie. -/
def stepCells : List Value := [.int .i64 0, .int .i64 1, .int .i64 0, .int .i64 2, .int .i64 1, .int .i64 2]

def StepsG (w : World) : Prop := ∀ j v, stepCells[j]? = some v → w.cell? ⟨2, j, none⟩ = some v

theorem steps_of {L : List (String × DataW Unit)} {W : World} (h : laidMetH Tryd.prog L W) (e : (L.filter fun x => x.1 == "lineage/level.steps") = [("lineage/level.steps", Rows.laid_lineage_level_steps)]) : StepsG W := by
  have h2 := h.filter fun x => x.1 == "lineage/level.steps"
  rw [e] at h2
  have h' : laidMet Tryd.prog [("lineage/level.steps", Rows.laid_lineage_level_steps)] W := h2
  have hv := Fl.cells_of_laid (g := 2) (t := 79) 4 (by kernel_rfl) (by kernel_rfl) (by kernel_rfl) h'
  have hf : Fl.flat (Rows.laid_lineage_level_steps : DataW Unit) = stepCells := by rfl
  rw [hf] at hv
  intro j v hj
  rw [World.var?_cell (show Tryd.prog.globalNamed "lineage/level.steps" = some 2 by kernel_rfl) hv j]
  simpa using hj

theorem StepsG.lt {w : World} (h : StepsG w) : 2 < w.heap.size := by
  have h0 := h 0 _ rfl
  rcases Nat.lt_or_ge 2 w.heap.size with k | k
  · exact k
  · simp [World.cell?, Array.getElem?_eq_none k] at h0

theorem StepsG.below {w w' : World} (h : StepsG w) (hb : Below w.heap.size w w') : StepsG w' := fun j v hj => (hb.cell (p := ⟨2, j, none⟩) h.lt).trans (h j v hj)

/-- Is it a level? -/
def levelB (n : Int) : Bool := decide (0 ≤ n) && decide (n ≤ 2)

theorem levelB_iff {n : Int} : levelB n = true ↔ 0 ≤ n ∧ n ≤ 2 := by unfold levelB; simp

theorem levelB_three {n : Int} (h : levelB n = true) : n = 0 ∨ n = 1 ∨ n = 2 := by have := levelB_iff.1 h; omega

theorem isLevel_any (n : Int) (w : World) :
    Calls Tryd.prog 21 #[.int .i64 n] w fun e w' => e = .returned (.bool (levelB n)) ∧ w' = w := by
  by_cases h0 : 0 ≤ n
  · by_cases h1 : n < 3
    all_goals
      go_enter Tryd.func21, Tryd.ntmps21
      go_wp2
      go_ret
      exact ⟨ret_bool (by simp [levelB]; omega), rfl⟩
  · go_enter Tryd.func21, Tryd.ntmps21
    go_wp2
    go_ret
    exact ⟨ret_bool (by simp [levelB]; omega), rfl⟩

theorem is_any (n : Int) (w : World) :
    Calls Tryd.prog 24 #[.int .i64 n] w fun e w' => e = .returned (.bool (levelB n)) ∧ w' = w := by
  by_cases h0 : 0 ≤ n
  · by_cases h1 : n ≤ 2
    all_goals
      go_enter Tryd.func24, Tryd.ntmps24
      go_wp2
      go_ret
      exact ⟨ret_bool (by simp [levelB]; omega), rfl⟩
  · go_enter Tryd.func24, Tryd.ntmps24
    go_wp2
    go_ret
    exact ⟨ret_bool (by simp [levelB]; omega), rfl⟩

/-- Is it enough? -/
def enoughB (a b : Int) : Bool := levelB a && levelB b && decide (b ≤ a)

theorem enough_any (a b : Int) (w : World) :
    Calls Tryd.prog 13 #[.int .i64 a, .int .i64 b] w fun e w' => e = .returned (.bool (enoughB a b)) ∧ w' = w := by
  have c := isLevel_any
  unfold enoughB
  cases h1 : levelB a
  · go_enter Tryd.func13, Tryd.ntmps13
    go_wp2_with (go_at_call 21; refine (c _ _).mono ?_; rintro e w1 ⟨rfl, rfl⟩)
    go_ret
    exact ⟨ret_bool (by simp), rfl⟩
  · cases h2 : levelB b
    · go_enter Tryd.func13, Tryd.ntmps13
      go_wp2_with (go_at_call 21; refine (c _ _).mono ?_; rintro e w1 ⟨rfl, rfl⟩)
      go_ret
      exact ⟨ret_bool (by simp), rfl⟩
    · by_cases h3 : b ≤ a
      all_goals
        go_enter Tryd.func13, Tryd.ntmps13
        go_wp2_with (go_at_call 21; refine (c _ _).mono ?_; rintro e w1 ⟨rfl, rfl⟩)
        go_ret
        exact ⟨ret_bool (by simp [h3]), rfl⟩

theorem renough_any (a b : Int) (w : World) :
    Calls Tryd.prog 14 #[.int .i64 a, .int .i64 b] w fun e w' => e = .returned (.bool (enoughB a b)) ∧ w' = w := by
  have c := is_any
  unfold enoughB
  cases h1 : levelB a
  · go_enter Tryd.func14, Tryd.ntmps14
    go_wp2_with (go_at_call 24; refine (c _ _).mono ?_; rintro e w1 ⟨rfl, rfl⟩)
    go_ret
    exact ⟨ret_bool (by simp), rfl⟩
  · cases h2 : levelB b
    · go_enter Tryd.func14, Tryd.ntmps14
      go_wp2_with (go_at_call 24; refine (c _ _).mono ?_; rintro e w1 ⟨rfl, rfl⟩)
      go_ret
      exact ⟨ret_bool (by simp), rfl⟩
    · by_cases h3 : b ≤ a
      all_goals
        go_enter Tryd.func14, Tryd.ntmps14
        go_wp2_with (go_at_call 24; refine (c _ _).mono ?_; rintro e w1 ⟨rfl, rfl⟩)
        go_ret
        exact ⟨ret_bool (by simp [h3]), rfl⟩

/-- The name of a level. -/
def nmS (l : Int) : ByteArray := if l = 0 then ⟨#[108, 111, 119]⟩ else if l = 1 then ⟨#[109, 105, 100]⟩ else ⟨#[104, 105, 103, 104]⟩

theorem nmS_0 : nmS 0 = ⟨#[108, 111, 119]⟩ := rfl

theorem nmS_1 : nmS 1 = ⟨#[109, 105, 100]⟩ := rfl

theorem nmS_2 : nmS 2 = ⟨#[104, 105, 103, 104]⟩ := rfl

theorem clone_s (s : ByteArray) (w : World) (h : s.size ≤ 281474976710656) :
    Calls Tryd.prog 22 #[.string s] w fun e w' => e = .returned (.string s) ∧ Below w.heap.size w w' := by
  go_enter Tryd.func22, Tryd.ntmps22
  go_wp2_with (go_at_call 29; refine (Tryd.stringslite_Clone _ _ h).mono ?_; rintro e w1 ⟨rfl, hb1⟩)
  go_ret
  exact ⟨rfl, hb1⟩

theorem name_yes (l : Int) (w : World) (h : levelB l = true) (hN : NamesG w) :
    Calls Tryd.prog 10 #[.int .i64 l] w fun e w' => e = .returned (.tuple #[.string (nmS l), .nilIface]) ∧ Below w.heap.size w w' := by
  have c := isLevel_any l
  rw [h] at c
  have n0 := hN 0 _ rfl
  have n1 := hN 1 _ rfl
  have n2 := hN 2 _ rfl
  have c2 := clone_s (nmS l) w (by rcases levelB_three h with rfl | rfl | rfl <;> decide)
  rcases levelB_three h with rfl | rfl | rfl
  all_goals
    simp only [nmS_0, nmS_1, nmS_2] at c2 ⊢
    go_enter Tryd.func10, Tryd.ntmps10
    go_wp2_with (first | (go_at_call 21; refine (c _).mono ?_; rintro e w1 ⟨rfl, rfl⟩) | (go_at_call 22; refine c2.mono ?_; rintro e w1 ⟨rfl, hb⟩))
    go_ret2
    exact ⟨rfl, hb⟩

theorem name_no (l : Int) (w : World) (h : levelB l = false) :
    Calls Tryd.prog 10 #[.int .i64 l] w fun e w' => e = .returned (.tuple #[.string ⟨#[]⟩, noV 13]) ∧ w' = w := by
  have c := isLevel_any l
  rw [h] at c
  unfold noV
  clear h
  go_enter Tryd.func10, Tryd.ntmps10
  go_wp2_with (go_at_call 21; refine (c _).mono ?_; rintro e w1 ⟨rfl, rfl⟩)
  go_ret2
  exact ⟨rfl, rfl⟩

theorem rname_yes (l : Int) (w : World) (h : levelB l = true) :
    Calls Tryd.prog 8 #[.int .i64 l] w fun e w' => e = .returned (.tuple #[.string (nmS l), .int .i64 0]) ∧ w' = w := by
  rcases levelB_three h with rfl | rfl | rfl
  all_goals
    clear h
    simp only [nmS_0, nmS_1, nmS_2]
    go_enter Tryd.func8, Tryd.ntmps8
    go_wp2
    go_ret2
    exact ⟨rfl, rfl⟩

theorem rname_no (l : Int) (w : World) (h : levelB l = false) :
    Calls Tryd.prog 8 #[.int .i64 l] w fun e w' => e = .returned (.tuple #[.string ⟨#[]⟩, .int .i64 13]) ∧ w' = w := by
  have h0 : (l == 0) = false := by
    cases q : (l == 0) with
    | false => rfl
    | true => rw [eq_of_beq q] at h; cases h
  have h1 : (l == 1) = false := by
    cases q : (l == 1) with
    | false => rfl
    | true => rw [eq_of_beq q] at h; cases h
  have h2 : (l == 2) = false := by
    cases q : (l == 2) with
    | false => rfl
    | true => rw [eq_of_beq q] at h; cases h
  clear h
  go_enter Tryd.func8, Tryd.ntmps8
  go_wp2
  go_ret2
  exact ⟨rfl, rfl⟩

end Lv
end Go.Proofs.YtfhnfejghngoeaaDoor
