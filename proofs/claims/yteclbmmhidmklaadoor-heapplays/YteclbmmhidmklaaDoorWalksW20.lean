/- HeapPlays over the program's own calls. -/
import Derived.Test.YteclbmmhidmklaaDoorHqA
import Derived.Test.YteclbmmhidmklaaDoorHepK
namespace Go.Proofs.YteclbmmhidmklaaDoor
set_option linter.ambiguousOpen false
open Go.RowKit
namespace Hh
open Ft
set_option linter.unusedVariables false

theorem heapPlays_walk (n : Int) (sv : Value) (L : List Hact) (w : World) (hn : I64 n) (hR : RdA w sv L) (hF : ∀ x ∈ L, x.fits) (hE : Er.Handle w) :
    Calls Tryd.prog 3 #[nu n, sv] w fun e w' => e = .returned (.bool true) ∧ Below w.heap.size w w' :=
  heapPlays_yes Hq.heapC_of n sv L w hR hF hE
end Hh
end Go.Proofs.YteclbmmhidmklaaDoor
