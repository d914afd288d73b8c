/- WalkAbove over the program's own calls. -/
import Derived.Test.YtbkcpjgaoncioaaWlkX
import Derived.Test.YtbkcpjgaoncioaaArnJ
import Derived.Test.YtbkcpjgaoncioaaWlkK
namespace Go.Proofs.Ytbkcpjgaoncioaa
set_option linter.ambiguousOpen false
open Go.RowKit
namespace Wk
open An Ft Lv
set_option linter.unusedVariables false

theorem walkAbove_walk (v : Value) (l : List Int) (a k : Int) (w : World) (hR : RdW w v l) (hl : ∀ x ∈ l, I64 x) (ha : I64 a) (hk : I64 k) :
    Calls Try.prog 4 #[v, lkU a k] w fun e w' => e = .returned (.bool true) ∧ Below w.heap.size w w' :=
  walkAbove_yes keepP new_any put_any get_any walkP v l a k w hR hl ha hk
end Wk
end Go.Proofs.Ytbkcpjgaoncioaa
