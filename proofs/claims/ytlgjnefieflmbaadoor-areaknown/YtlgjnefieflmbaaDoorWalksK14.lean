import Derived.Test.YtlgjnefieflmbaaDoorAreKn
import Derived.Test.YtlgjnefieflmbaaDoorWalksW14
/- AreaKnown over the program's own calls. -/
namespace Go.Proofs.YtlgjnefieflmbaaDoor
set_option linter.ambiguousOpen false
open Go.RowKit
namespace Ae
open Sm Ft Dk Pk
set_option linter.unusedVariables false

theorem areaKnown_walk (w : World) (hE : Er.Handle w) :
    Calls Tryd.prog 6 #[] w fun e w' => e = .returned (.bool true) ∧ Below w.heap.size w w' :=
  areaKnown_yes Dk.Pd.says writes_p save_p load_p w hE
end Ae
end Go.Proofs.YtlgjnefieflmbaaDoor
