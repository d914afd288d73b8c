/- AreaPlays over the program's own calls. -/
import Derived.Test.YtlgjnefieflmbaaDoorAreK
import Derived.Test.YtlgjnefieflmbaaDoorWalksW14
namespace Go.Proofs.YtlgjnefieflmbaaDoor
set_option linter.ambiguousOpen false
open Go.RowKit
namespace Ae
open Sm Ft Dk Pk
set_option linter.unusedVariables false

theorem areaPlays_walk (n : Int) (sv : Value) (L : List Actn) (w : World) (hn : -9223372036854775808 ≤ n ∧ n ≤ 9223372036854775807) (hR : RdN w sv L) (hF : ∀ x ∈ L, x.fits) (hE : Er.Handle w) :
    Calls Tryd.prog 3 #[nu n, sv] w fun e w' => e = .returned (.bool true) ∧ Below w.heap.size w w' := by
  by_cases h : 1 ≤ n ∧ n ≤ 4096
  · exact areaPlays_yes Dk.Pd.says writes_p save_p load_p n sv L w h.1 h.2 hR hF hE
  · exact areaPlays_no Dk.Pd.says n sv w h hE
end Ae
end Go.Proofs.YtlgjnefieflmbaaDoor
