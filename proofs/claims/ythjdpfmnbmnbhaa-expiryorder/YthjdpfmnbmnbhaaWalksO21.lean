/- ExpiryOrder over the program's own calls. -/
import Derived.Test.YthjdpfmnbmnbhaaExpL
import Derived.Test.YthjdpfmnbmnbhaaExpX
namespace Go.Proofs.Ythjdpfmnbmnbhaa
set_option linter.ambiguousOpen false
open Go.RowKit
namespace Ex
open Hh Ft
set_option linter.unusedVariables false

theorem expiryOrder_walk (v : Value) (l : List Int) (now : Int) (w : World) (hR : RdU w v l) (hl : ∀ x ∈ l, I64e x) (hnow : I64e now) :
    Calls Try.prog 3 #[v, nu now] w fun e w' => e = .returned (.bool true) ∧ Below w.heap.size w w' :=
  expiryOrder_yes expiryC_of v l now w hR hl hnow
end Ex
end Go.Proofs.Ythjdpfmnbmnbhaa
