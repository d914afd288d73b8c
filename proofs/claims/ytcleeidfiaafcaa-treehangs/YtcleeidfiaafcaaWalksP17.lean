import Derived.Test.YtcleeidfiaafcaaTreFd
import Derived.Test.YtcleeidfiaafcaaTreN
import Derived.Test.YtcleeidfiaafcaaArH
/- TreeHangs over the program's own calls. -/
namespace Go.Proofs.Ytcleeidfiaafcaa
set_option linter.ambiguousOpen false
open Go.RowKit
namespace Tr
open An Rg Ft Lv
set_option linter.unusedVariables false

theorem treeHangs_walk (v : Value) (l : List Int) (which : Int) (w : World) (hR : RdJ w v l) (hl : ∀ x ∈ l, I64 x) (hw : I64 which) :
    Calls Try.prog 3 #[v, nu which] w fun e w' => e = .returned (.bool true) ∧ Below w.heap.size w w' :=
  treeHangs_yes keepP new_any put_any treeP v l which w hR hl hw
end Tr
end Go.Proofs.Ytcleeidfiaafcaa
