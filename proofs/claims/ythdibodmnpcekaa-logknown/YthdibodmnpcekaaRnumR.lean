/- The document's numbers as bytes. -/
import Derived.Test.YthdibodmnpcekaaRecP
import Derived.Test.YthdibodmnpcekaaRowB
import Derived.Test.YthdibodmnpcekaaOwn
namespace Go.Proofs.Ythdibodmnpcekaa
set_option linter.ambiguousOpen false
open Go.RowKit
namespace Rc
open Sm
set_option linter.unusedSimpArgs false
set_option linter.unusedVariables false

theorem lo_snoc (v n : Nat) : lo v (n + 1) = lo v n ++ [UInt8.ofNat (v / 256 ^ n % 256)] := by
  induction n generalizing v with
  | zero => simp [lo]
  | succ n ih =>
    rw [lo, ih, lo, List.cons_append, Nat.div_div_eq_div_mul]
    congr 5
    rw [Nat.pow_succ, Nat.mul_comm]

end Rc
end Go.Proofs.Ythdibodmnpcekaa
