/- HeapOrder over the program's own calls. -/
import Derived.Test.YteclbmmhidmklaaHqA
import Derived.Test.YteclbmmhidmklaaHepU
namespace Go.Proofs.Yteclbmmhidmklaa
set_option linter.ambiguousOpen false
open Go.RowKit
namespace Hh
open Ft
set_option linter.unusedVariables false

theorem heapOrder_walk (v : Value) (l : List It) (bi bk : Int) (w : World) (hR : RdQ w v l) (hl : ∀ x ∈ l, I64 x.i) (hbi : I64 bi) (hbk : I64 bk) :
    Calls Try.prog 5 #[v, .agg #[nu bi, nu bk]] w fun e w' => e = .returned (.bool true) ∧ Below w.heap.size w w' :=
  heapOrder_yes Hq.heapC_of v l bi bk w hR hl hbi
end Hh
end Go.Proofs.Yteclbmmhidmklaa
