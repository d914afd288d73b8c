import Derived.Test.YthabnombfbehkaaSgV
import Derived.Test.YthabnombfbehkaaSwpZ
/- SweepOnce over the program's own calls. -/
namespace Go.Proofs.Ythabnombfbehkaa
set_option linter.ambiguousOpen false
open Go.RowKit
namespace Sw
open An Rg Ft Lv Sp
set_option linter.unusedVariables false

theorem sweepOnce_walk (v : Value) (l : List Int) (v2 : Value) (cs : List Int) (w : World) (hR : RdU w v l) (hI : ∀ x ∈ l, I64 x) (hR2 : RdU w v2 cs) (hI2 : ∀ x ∈ cs, I64 x) :
    Calls Try.prog 3 #[v, v2] w fun e w' => e = .returned (.bool true) ∧ Below w.heap.size w w' :=
  sweepOnce_yes new_any onceP v l v2 cs w hR hI hR2 hI2
end Sw
end Go.Proofs.Ythabnombfbehkaa
