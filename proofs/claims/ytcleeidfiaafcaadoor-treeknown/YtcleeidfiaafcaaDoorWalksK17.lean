import Derived.Test.YtcleeidfiaafcaaDoorTreFd
import Derived.Test.YtcleeidfiaafcaaDoorTreKn
import Derived.Test.YtcleeidfiaafcaaDoorArH
/- TreeKnown over the program's own calls. -/
namespace Go.Proofs.YtcleeidfiaafcaaDoor
set_option linter.ambiguousOpen false
open Go.RowKit
namespace Tr
open An Rg Ft Lv
set_option linter.unusedVariables false

theorem treeKnown_walk (w : World) (hE : Er.Handle w) :
    Calls Tryd.prog 3 #[] w fun e w' => e = .returned (.bool true) ∧ Below w.heap.size w w' :=
  treeKnown_yes keepP new_any put_any treeP w hE
end Tr
end Go.Proofs.YtcleeidfiaafcaaDoor
