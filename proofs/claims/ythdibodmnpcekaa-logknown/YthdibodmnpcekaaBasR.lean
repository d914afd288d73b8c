/- What the texts on records need of rows and errors. -/
import Derived.Test.YthdibodmnpcekaaRowB
namespace Go.Proofs.Ythdibodmnpcekaa
set_option linter.ambiguousOpen false
open Go.RowKit
namespace Rc
open Sm
set_option linter.unusedVariables false

theorem own_mono {w : World} {b c : Nat} {e : TypeId} {size : Nat} {v : Value} {n : Nat} {xs : List Value} (h : w.ownsRow b e size v n xs) (hc : c ≤ b) : w.ownsRow c e size v n xs := by
  refine ⟨h.1, ?_⟩
  rcases h.2 with h0 | ⟨g, cap, cur, rfl, hbg, rest⟩
  · exact .inl h0
  · exact .inr ⟨g, cap, cur, rfl, Nat.le_trans hc hbg, rest⟩

/-- An error without a place, and none. -/
@[reducible] def noE (n : Int) : Value := .iface 49 (.int .i64 n)

def errE : Nat → Value
  | 0 => .nilIface
  | n + 1 => noE ((n + 1 : Nat) : Int)

end Rc
end Go.Proofs.Ythdibodmnpcekaa
