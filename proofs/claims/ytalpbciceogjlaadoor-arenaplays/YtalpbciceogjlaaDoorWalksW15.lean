/- ArenaPlays over the program's own calls. -/
import Derived.Test.YtalpbciceogjlaaDoorArnK
import Derived.Test.YtalpbciceogjlaaDoorArnJ
namespace Go.Proofs.YtalpbciceogjlaaDoor
set_option linter.ambiguousOpen false
open Go.RowKit
namespace An
open Ft Lv
set_option linter.unusedVariables false

theorem arenaPlays_walk (t : Int) (sv : Value) (L : List Actn) (w : World) (ht : -9223372036854775808 ≤ t ∧ t ≤ 9223372036854775807) (hR : RdT w sv L) (hF : ∀ x ∈ L, x.fits) (hE : Er.Handle w) :
    Calls Tryd.prog 3 #[nu t, sv] w fun e w' => e = .returned (.bool true) ∧ Below w.heap.size w w' :=
  arenaPlays_yes keepP new_any get_any put_any take_any place_any free_any frees_any writes_any t sv L w ht hR hF hE
end An
end Go.Proofs.YtalpbciceogjlaaDoor
