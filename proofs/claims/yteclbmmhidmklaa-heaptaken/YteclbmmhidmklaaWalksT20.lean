/- HeapTaken over the program's own calls. -/
import Derived.Test.YteclbmmhidmklaaHqA
import Derived.Test.YteclbmmhidmklaaHepN
namespace Go.Proofs.Yteclbmmhidmklaa
set_option linter.ambiguousOpen false
open Go.RowKit
namespace Hh
open Ft
set_option linter.unusedVariables false

theorem heapTaken_walk (v : Value) (l : List It) (w : World) (hR : RdQ w v l) (hl : ∀ x ∈ l, I64 x.i) :
    Calls Try.prog 3 #[v] w fun e w' => e = .returned (.bool true) ∧ Below w.heap.size w w' :=
  heapTaken_yes Hq.heapC_of v l w hR hl
end Hh
end Go.Proofs.Yteclbmmhidmklaa
