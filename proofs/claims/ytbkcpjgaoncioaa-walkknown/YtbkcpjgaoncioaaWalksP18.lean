/- WalkPath over the program's own calls. -/
import Derived.Test.YtbkcpjgaoncioaaWlkX
import Derived.Test.YtbkcpjgaoncioaaArnJ
import Derived.Test.YtbkcpjgaoncioaaWlkT
namespace Go.Proofs.Ytbkcpjgaoncioaa
set_option linter.ambiguousOpen false
open Go.RowKit
namespace Wk
open An Ft Lv
set_option linter.unusedVariables false

theorem walkPath_walk (v : Value) (L : List Slt) (us ub : Int) (w : World) (hR : RdSl w v L) (hb : ∀ x ∈ L, I64 x.s.birth) (hus : I64 us) (hub : I64 ub) :
    Calls Try.prog 5 #[v, lkU us ub] w fun e w' => e = .returned (.bool true) ∧ Below w.heap.size w w' :=
  walkPath_yes keepP new_any put_any get_any walkP v L us ub w hR hus hub hb
end Wk
end Go.Proofs.Ytbkcpjgaoncioaa
