/- RingPlays over the program's own calls. -/
import Derived.Test.YtckgecmcjnhceaaDoorRngU
import Derived.Test.YtckgecmcjnhceaaDoorRngK
import Derived.Test.YtckgecmcjnhceaaDoorArnH
namespace Go.Proofs.YtckgecmcjnhceaaDoor
set_option linter.ambiguousOpen false
open Go.RowKit
namespace Rg
open An Ft Lv
set_option linter.unusedVariables false

theorem ringPlays_walk (sv : Value) (L : List Rct) (w : World) (hR : RdC w sv L) (hF : ∀ x ∈ L, x.fits) (hE : Er.Handle w) :
    Calls Tryd.prog 3 #[sv] w fun e w' => e = .returned (.bool true) ∧ Below w.heap.size w w' :=
  ringPlays_yes keepP new_any get_any put_any frees_any writes_any pushP dropP spliceP allP sv L w hR hF hE
end Rg
end Go.Proofs.YtckgecmcjnhceaaDoor
