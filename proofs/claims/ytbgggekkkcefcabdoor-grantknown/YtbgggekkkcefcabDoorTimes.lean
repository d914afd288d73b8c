/- Times: After, Until and Left, of the program and of the document's answer. -/
import Derived.Test.YtbgggekkkcefcabDoorIs
import Derived.WalkKit
import Derived.WalkSpells
import Derived.WalkLawsBesides
import Derived.BigQuiet
namespace Go.Proofs.YtbgggekkkcefcabDoor
open Go.RowKit Er
namespace Ck
set_option linter.unusedSimpArgs false
set_option linter.unusedVariables false

theorem ret_bool {b c : Bool} (h : b = c) : Ending.returned (.bool b) = .returned (.bool c) := by rw [h]

theorem ret_int {k : IntKind} {a b : Int} (h : a = b) : Ending.returned (.int k a) = .returned (.int k b) := by rw [h]

/-- May the clock show it? -/
def timeB (n : Int) : Bool := decide (0 ≤ n) && decide (n ≤ 1099511627776)

theorem timeB_iff {n : Int} : timeB n = true ↔ 0 ≤ n ∧ n ≤ 1099511627776 := by unfold timeB; simp

theorem timeB_not {n : Int} : timeB n = false ↔ ¬ (0 ≤ n ∧ n ≤ 1099511627776) := by rw [← timeB_iff]; simp

set_option maxRecDepth 100000 in
theorem isTime_any (n : Int) (w : World) :
    Calls Tryd.prog 67 #[.int .i64 n] w fun e w' => e = .returned (.bool (timeB n)) ∧ w' = w := by
  by_cases h0 : 0 ≤ n
  · by_cases h1 : n ≤ 1099511627776
    all_goals
      go_enter Tryd.func67, Tryd.ntmps67
      go_wp2
      go_ret
      exact ⟨ret_bool (by simp [timeB, h0, h1]), rfl⟩
  · go_enter Tryd.func67, Tryd.ntmps67
    go_wp2
    go_ret
    exact ⟨ret_bool (by simp [timeB]; omega), rfl⟩

set_option maxRecDepth 100000 in
theorem time_any (n : Int) (w : World) :
    Calls Tryd.prog 61 #[.int .i64 n] w fun e w' => e = .returned (.bool (timeB n)) ∧ w' = w := by
  by_cases h0 : 0 ≤ n
  · by_cases h1 : n ≤ 1099511627776
    all_goals
      go_enter Tryd.func61, Tryd.ntmps61
      go_wp2
      go_ret
      exact ⟨ret_bool (by simp [timeB, h0, h1]), rfl⟩
  · go_enter Tryd.func61, Tryd.ntmps61
    go_wp2
    go_ret
    exact ⟨ret_bool (by simp [timeB]; omega), rfl⟩

/-- May After answer? -/
def afterB (now ticks : Int) : Bool := timeB now && decide (0 ≤ ticks) && decide (ticks ≤ 1073741824) && decide (now + ticks ≤ 1099511627776)

theorem afterB_iff {now ticks : Int} : afterB now ticks = true ↔ 0 ≤ now ∧ now ≤ 1099511627776 ∧ 0 ≤ ticks ∧ ticks ≤ 1073741824 ∧ now + ticks ≤ 1099511627776 := by
  unfold afterB; simp [timeB_iff, and_assoc]

/-- How many ticks are left. -/
def leftI (now at_ : Int) : Int := if at_ ≤ now then 0 else min (at_ - now) 1099511627776

theorem u64_diff {a b : Int} (ha : -9223372036854775808 ≤ a ∧ a ≤ 9223372036854775807) (hb : -9223372036854775808 ≤ b ∧ b ≤ 9223372036854775807) (h : b < a) : IntKind.u64.wrap (IntKind.u64.wrap a - IntKind.u64.wrap b) = a - b := by
  simp only [IntKind.wrap_u64]; omega

end Ck
end Go.Proofs.YtbgggekkkcefcabDoor
