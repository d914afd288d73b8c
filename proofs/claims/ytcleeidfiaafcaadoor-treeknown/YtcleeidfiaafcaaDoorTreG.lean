import Derived.Test.YtcleeidfiaafcaaDoorArnA
import Derived.Test.YtcleeidfiaafcaaDoorLoopM
/- The laws' own 'gone': an iterator hands out a list, twice, and its first one, if it is left. -/
namespace Go.Proofs.YtcleeidfiaafcaaDoor
set_option linter.ambiguousOpen false
open Go.RowKit
namespace Tr
open An Ft Lv
set_option linter.unusedSimpArgs false
set_option linter.unusedVariables false
attribute [local go_sem] Oper.semAt_some

set_option maxRecDepth 100000 in
theorem func_nil (gf : Nat) (lb : Array Value) (w : World) : (binOp .eql 56 (.func (.func gf) #[] lb) .nilFunc).run Tryd.prog w = .ok (.bool false) w := by kernel_rfl

end Tr
end Go.Proofs.YtcleeidfiaafcaaDoor
