/- The document's numbers and texts as bytes: Sevens, Text. -/
import Derived.Test.YtlgjnefieflmbaaDoorSev
import Derived.Test.YtlgjnefieflmbaaDoorRowB
import Derived.Test.YtlgjnefieflmbaaDoorOwn
import Derived.Laws.BitsAllLaws
import Derived.Laws.Bits64b
namespace Go.Proofs.YtlgjnefieflmbaaDoor
set_option linter.ambiguousOpen false
open Go.RowKit
namespace Pk
open Sm
set_option linter.unusedSimpArgs false
set_option linter.unusedVariables false

theorem and127 (n : Nat) (h : n < 18446744073709551616) : bits .and .u64 (n : Int) 127 = ((n % 128 : Nat) : Int) := by
  have e := bits_and_u64_nat n 127 h (by omega)
  rw [show (127 : Nat) = 2 ^ 7 - 1 from rfl, Nat.and_two_pow_sub_one_eq_mod] at e
  exact e

theorem or128 (n : Nat) (h : n < 128) : bits .or .u8 (n : Int) 128 = ((n + 128 : Nat) : Int) := by
  have e := u8_or_nat n 128 (by omega) (by omega)
  rw [show n ||| 128 = n + 128 from by
    have := Nat.two_pow_add_eq_or_of_lt (i := 7) (b := n) (by omega) 1
    rw [Nat.or_comm]
    simp at this
    omega] at e
  exact e

end Pk
end Go.Proofs.YtlgjnefieflmbaaDoor
