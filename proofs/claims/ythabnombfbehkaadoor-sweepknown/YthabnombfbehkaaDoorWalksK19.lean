import Derived.Test.YthabnombfbehkaaDoorSgV
import Derived.Test.YthabnombfbehkaaDoorKnM
/- SweepKnown over the program's own calls. -/
namespace Go.Proofs.YthabnombfbehkaaDoor
set_option linter.ambiguousOpen false
open Go.RowKit
namespace Sw
open An Rg Ft Lv Sp
set_option linter.unusedVariables false

theorem sweepKnown_walk (w : World) (hE : Er.Handle w) :
    Calls Tryd.prog 3 #[] w fun e w' => e = .returned (.bool true) ∧ Below w.heap.size w w' :=
  sweepKnown_yes new_any onceP w hE
end Sw
end Go.Proofs.YthabnombfbehkaaDoor
