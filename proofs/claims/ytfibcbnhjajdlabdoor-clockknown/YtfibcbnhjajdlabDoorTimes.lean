/- Times: After, Until and Left, of the program and of the document's answer. -/
import Derived.Test.YtfibcbnhjajdlabDoorIs
import Derived.WalkKit
import Derived.WalkSpells
import Derived.WalkLawsBesides
import Derived.BigQuiet
namespace Go.Proofs.YtfibcbnhjajdlabDoor
open Go.RowKit Er
namespace Ck
set_option linter.unusedSimpArgs false
set_option linter.unusedVariables false

theorem ret_bool {b c : Bool} (h : b = c) : Ending.returned (.bool b) = .returned (.bool c) := by rw [h]

theorem ret_int {k : IntKind} {a b : Int} (h : a = b) : Ending.returned (.int k a) = .returned (.int k b) := by rw [h]

/-- May the clock show it? -/
def timeB (n : Int) : Bool := decide (0 ≤ n) && decide (n ≤ 1099511627776)

theorem timeB_iff {n : Int} : timeB n = true ↔ 0 ≤ n ∧ n ≤ 1099511627776 := by unfold timeB; simp

theorem timeB_not {n : Int} : timeB n = false ↔ ¬ (0 ≤ n ∧ n ≤ 1099511627776) := by rw [← timeB_iff]; simp

set_option maxRecDepth 100000 in
theorem isTime_any (n : Int) (w : World) :
    Calls Tryd.prog 12 #[.int .i64 n] w fun e w' => e = .returned (.bool (timeB n)) ∧ w' = w := by
  by_cases h0 : 0 ≤ n
  · by_cases h1 : n ≤ 1099511627776
    all_goals
      go_enter Tryd.func12, Tryd.ntmps12
      go_wp2
      go_ret
      exact ⟨ret_bool (by simp [timeB, h0, h1]), rfl⟩
  · go_enter Tryd.func12, Tryd.ntmps12
    go_wp2
    go_ret
    exact ⟨ret_bool (by simp [timeB]; omega), rfl⟩

set_option maxRecDepth 100000 in
theorem time_any (n : Int) (w : World) :
    Calls Tryd.prog 37 #[.int .i64 n] w fun e w' => e = .returned (.bool (timeB n)) ∧ w' = w := by
  by_cases h0 : 0 ≤ n
  · by_cases h1 : n ≤ 1099511627776
    all_goals
      go_enter Tryd.func37, Tryd.ntmps37
      go_wp2
      go_ret
      exact ⟨ret_bool (by simp [timeB, h0, h1]), rfl⟩
  · go_enter Tryd.func37, Tryd.ntmps37
    go_wp2
    go_ret
    exact ⟨ret_bool (by simp [timeB]; omega), rfl⟩

/-- May After answer? -/
def afterB (now ticks : Int) : Bool := timeB now && decide (0 ≤ ticks) && decide (ticks ≤ 1073741824) && decide (now + ticks ≤ 1099511627776)

theorem afterB_iff {now ticks : Int} : afterB now ticks = true ↔ 0 ≤ now ∧ now ≤ 1099511627776 ∧ 0 ≤ ticks ∧ ticks ≤ 1073741824 ∧ now + ticks ≤ 1099511627776 := by
  unfold afterB; simp [timeB_iff, and_assoc]

set_option maxRecDepth 100000 in
theorem after_yes (now ticks : Int) (w : World) (h : afterB now ticks = true) :
    Calls Tryd.prog 8 #[.int .i64 now, .int .i64 ticks] w fun e w' => e = .returned (.tuple #[.int .i64 (now + ticks), .nilIface]) ∧ w' = w := by
  obtain ⟨h1, h2, h3, h4, h5⟩ := afterB_iff.1 h
  have t1 : timeB now = true := timeB_iff.2 ⟨h1, h2⟩
  have t2 : timeB (now + ticks) = true := timeB_iff.2 ⟨by omega, h5⟩
  have c := isTime_any
  go_enter Tryd.func8, Tryd.ntmps8
  go_wp2_with (go_at_call 12; refine (c _ _).mono ?_; rintro e w1 ⟨rfl, rfl⟩)
  go_ret2
  exact ⟨rfl, rfl⟩

set_option maxRecDepth 100000 in
theorem after_no (now ticks : Int) (w : World) (h : afterB now ticks = false) :
    Calls Tryd.prog 8 #[.int .i64 now, .int .i64 ticks] w fun e w' => e = .returned (.tuple #[.int .i64 0, noV 12]) ∧ w' = w := by
  have c := isTime_any
  have h' : ¬ (0 ≤ now ∧ now ≤ 1099511627776 ∧ 0 ≤ ticks ∧ ticks ≤ 1073741824 ∧ now + ticks ≤ 1099511627776) := fun k => by rw [afterB_iff.2 k] at h; cases h
  unfold noV
  by_cases h1 : 0 ≤ now ∧ now ≤ 1099511627776
  · have t1 : timeB now = true := timeB_iff.2 h1
    obtain ⟨a1, a2⟩ := h1
    by_cases h2 : ticks < 0
    · clear h h'
      go_enter Tryd.func8, Tryd.ntmps8
      go_wp2_with (go_at_call 12; refine (c _ _).mono ?_; rintro e w1 ⟨rfl, rfl⟩)
      go_ret2
      exact ⟨rfl, rfl⟩
    · by_cases h3 : 1073741824 < ticks
      · clear h h'
        go_enter Tryd.func8, Tryd.ntmps8
        go_wp2_with (go_at_call 12; refine (c _ _).mono ?_; rintro e w1 ⟨rfl, rfl⟩)
        go_ret2
        exact ⟨rfl, rfl⟩
      · have t2 : timeB (now + ticks) = false := timeB_not.2 (by omega)
        clear h h'
        go_enter Tryd.func8, Tryd.ntmps8
        go_wp2_with (go_at_call 12; refine (c _ _).mono ?_; rintro e w1 ⟨rfl, rfl⟩)
        go_ret2
        exact ⟨rfl, rfl⟩
  · have t1 : timeB now = false := timeB_not.2 h1
    clear h h'
    go_enter Tryd.func8, Tryd.ntmps8
    go_wp2_with (go_at_call 12; refine (c _ _).mono ?_; rintro e w1 ⟨rfl, rfl⟩)
    go_ret2
    exact ⟨rfl, rfl⟩

set_option maxRecDepth 100000 in
theorem rafter_yes (now ticks : Int) (w : World) (h : afterB now ticks = true) :
    Calls Tryd.prog 28 #[.int .i64 now, .int .i64 ticks] w fun e w' => e = .returned (.tuple #[.int .i64 (now + ticks), .int .i64 0]) ∧ w' = w := by
  obtain ⟨h1, h2, h3, h4, h5⟩ := afterB_iff.1 h
  have t1 : timeB now = true := timeB_iff.2 ⟨h1, h2⟩
  have c := time_any
  go_enter Tryd.func28, Tryd.ntmps28
  go_wp2_with (go_at_call 37; refine (c _ _).mono ?_; rintro e w1 ⟨rfl, rfl⟩)
  go_ret2
  exact ⟨rfl, rfl⟩

set_option maxRecDepth 100000 in
theorem rafter_no (now ticks : Int) (w : World) (h : afterB now ticks = false) :
    Calls Tryd.prog 28 #[.int .i64 now, .int .i64 ticks] w fun e w' => e = .returned (.tuple #[.int .i64 0, .int .i64 12]) ∧ w' = w := by
  have c := time_any
  have h' : ¬ (0 ≤ now ∧ now ≤ 1099511627776 ∧ 0 ≤ ticks ∧ ticks ≤ 1073741824 ∧ now + ticks ≤ 1099511627776) := fun k => by rw [afterB_iff.2 k] at h; cases h
  by_cases h1 : 0 ≤ now ∧ now ≤ 1099511627776
  · have t1 : timeB now = true := timeB_iff.2 h1
    obtain ⟨a1, a2⟩ := h1
    by_cases h2 : ticks < 0
    · clear h h'
      go_enter Tryd.func28, Tryd.ntmps28
      go_wp2_with (go_at_call 37; refine (c _ _).mono ?_; rintro e w1 ⟨rfl, rfl⟩)
      go_ret2
      exact ⟨rfl, rfl⟩
    · by_cases h3 : 1073741824 < ticks
      · clear h h'
        go_enter Tryd.func28, Tryd.ntmps28
        go_wp2_with (go_at_call 37; refine (c _ _).mono ?_; rintro e w1 ⟨rfl, rfl⟩)
        go_ret2
        exact ⟨rfl, rfl⟩
      · have t2 : 1099511627776 < now + ticks := by omega
        clear h h'
        go_enter Tryd.func28, Tryd.ntmps28
        go_wp2_with (go_at_call 37; refine (c _ _).mono ?_; rintro e w1 ⟨rfl, rfl⟩)
        go_ret2
        exact ⟨rfl, rfl⟩
  · have t1 : timeB now = false := timeB_not.2 h1
    clear h h'
    go_enter Tryd.func28, Tryd.ntmps28
    go_wp2_with (go_at_call 37; refine (c _ _).mono ?_; rintro e w1 ⟨rfl, rfl⟩)
    go_ret2
    exact ⟨rfl, rfl⟩

/-- How many ticks are left. -/
def leftI (now at_ : Int) : Int := if at_ ≤ now then 0 else min (at_ - now) 1099511627776

theorem u64_diff {a b : Int} (ha : -9223372036854775808 ≤ a ∧ a ≤ 9223372036854775807) (hb : -9223372036854775808 ≤ b ∧ b ≤ 9223372036854775807) (h : b < a) : IntKind.u64.wrap (IntKind.u64.wrap a - IntKind.u64.wrap b) = a - b := by
  simp only [IntKind.wrap_u64]; omega

end Ck
end Go.Proofs.YtfibcbnhjajdlabDoor
