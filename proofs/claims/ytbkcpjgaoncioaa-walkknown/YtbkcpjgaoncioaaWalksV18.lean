/- WalkLives over the program's own calls. -/
import Derived.Test.YtbkcpjgaoncioaaWlkX
import Derived.Test.YtbkcpjgaoncioaaArnJ
import Derived.Test.YtbkcpjgaoncioaaWlkM
namespace Go.Proofs.Ytbkcpjgaoncioaa
set_option linter.ambiguousOpen false
open Go.RowKit
namespace Wk
open An Ft Lv
set_option linter.unusedVariables false

theorem walkLives_walk (v : Value) (L : List Slt) (u : Value) (K : List (Int × Int)) (w : World) (hR : RdSl w v L) (hb : ∀ x ∈ L, I64 x.s.birth) (hK : RdK w u K) (hI : ∀ x ∈ K, I64 x.1 ∧ I64 x.2) :
    Calls Try.prog 3 #[v, u] w fun e w' => e = .returned (.bool true) ∧ Below w.heap.size w w' :=
  walkLives_yes keepP new_any put_any writes_any walkP v L u K w hR hK hI
end Wk
end Go.Proofs.Ytbkcpjgaoncioaa
