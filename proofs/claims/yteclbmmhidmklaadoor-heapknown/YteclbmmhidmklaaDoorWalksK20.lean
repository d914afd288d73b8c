import Derived.Test.YteclbmmhidmklaaDoorHqA
import Derived.Test.YteclbmmhidmklaaDoorKnM
/- HeapKnown over the program's own calls. -/
namespace Go.Proofs.YteclbmmhidmklaaDoor
set_option linter.ambiguousOpen false
open Go.RowKit
namespace Hh
open Ft
set_option linter.unusedVariables false

theorem heapKnown_walk (w : World) (hE : Er.Handle w) :
    Calls Tryd.prog 4 #[] w fun e w' => e = .returned (.bool true) ∧ Below w.heap.size w w' :=
  heapKnown_yes Hq.heapC_of w hE
end Hh
end Go.Proofs.YteclbmmhidmklaaDoor
