/- The walk of BitsKnown as its row asks it. -/
import Derived.Test.YtffaogkinhkgdaaDoorLaidT
import Derived.Test.YtffaogkinhkgdaaDoorKnownB
namespace Go.Proofs.YtffaogkinhkgdaaDoor
open Go.ChangeShapes Go.WideShapes Go.RowKit
namespace Kt
set_option linter.unusedVariables false

theorem bitsKnown_walk (w : World) (hE : Er.Handle w) (hT : Bt.Tab w ∧ 0 < w.heap.size) :
    Calls Tryd.prog 4 #[] w fun e w' => e = .returned (.bool true) ∧ Below w.heap.size w w' :=
  Bt.known_any w hE hT.1 hT.2
end Kt
end Go.Proofs.YtffaogkinhkgdaaDoor
