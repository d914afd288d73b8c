/- The walks of a plain seat's laws, as the frames want them. -/
import Derived.Test.YtcglehekiibgeaaFirstK
import Derived.Test.YtcglehekiibgeaaTrailK
import Derived.Test.YtcglehekiibgeaaKnownK
import Derived.Test.YtcglehekiibgeaaMore9
namespace Go.Proofs.Ytcglehekiibgeaa
set_option linter.ambiguousOpen false
open Go.RowKit
namespace Dk
open Sm Ft
set_option linter.unusedVariables false

theorem diskFirst_walk (v : Value) (l : List Raw) (n : Int) (w : World) (hR : RdR w v l) (hf : ∀ r ∈ l, (-9223372036854775808 ≤ r.1 ∧ r.1 ≤ 9223372036854775807) ∧ r.2.length ≤ 140737488351232) (hn : -9223372036854775808 ≤ n ∧ n ≤ 9223372036854775807) :
    Calls Try.prog 3 #[v, nu n] w fun e w' => e = .returned (.bool true) ∧ Below w.heap.size w w' := diskFirst_says Pd.says v l n w hR hf hn

theorem diskTrail_walk (v : Value) (l : List Raw) (w : World) (hR : RdR w v l) (hf : ∀ r ∈ l, (-9223372036854775808 ≤ r.1 ∧ r.1 ≤ 9223372036854775807) ∧ r.2.length ≤ 140737488351232) :
    Calls Try.prog 4 #[v] w fun e w' => e = .returned (.bool true) ∧ Below w.heap.size w w' := diskTrail_says Pd.says v l w hR hf

theorem diskKnown_walk (w : World) :
    Calls Try.prog 5 #[] w fun e w' => e = .returned (.bool true) ∧ Below w.heap.size w w' := diskKnown_says Pd.says w
end Dk
end Go.Proofs.Ytcglehekiibgeaa
