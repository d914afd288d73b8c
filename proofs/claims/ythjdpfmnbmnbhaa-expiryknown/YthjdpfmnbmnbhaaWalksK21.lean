/- ExpiryKnown over the program's own calls. -/
import Derived.Test.YthjdpfmnbmnbhaaExpL
import Derived.Test.YthjdpfmnbmnbhaaExpZ
namespace Go.Proofs.Ythjdpfmnbmnbhaa
set_option linter.ambiguousOpen false
open Go.RowKit
namespace Ex
open Hh Ft
set_option linter.unusedVariables false

theorem expiryKnown_walk (w : World) : Calls Try.prog 4 #[] w fun e w' => e = .returned (.bool true) ∧ Below w.heap.size w w' :=
  expiryKnown_yes expiryC_of w
end Ex
end Go.Proofs.Ythjdpfmnbmnbhaa
