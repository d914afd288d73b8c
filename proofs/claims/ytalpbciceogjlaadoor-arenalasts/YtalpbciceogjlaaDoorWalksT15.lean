/- ArenaLasts over the program's own calls. -/
import Derived.Test.YtalpbciceogjlaaDoorArnL
import Derived.Test.YtalpbciceogjlaaDoorArnJ
namespace Go.Proofs.YtalpbciceogjlaaDoor
set_option linter.ambiguousOpen false
open Go.RowKit
namespace An
open Ft Lv
set_option linter.unusedVariables false

theorem arenaLasts_walk (sv : Value) (L : List Actn) (tv : Value) (M : List Actn) (w : World) (hR : RdT w sv L) (hF : ∀ x ∈ L, x.fits) (hR2 : RdT w tv M) (hF2 : ∀ x ∈ M, x.fits) (hE : Er.Handle w) :
    Calls Tryd.prog 4 #[sv, tv] w fun e w' => e = .returned (.bool true) ∧ Below w.heap.size w w' :=
  arenaLasts_yes keepP new_any get_any put_any take_any place_any free_any frees_any writes_any sv tv L M w hR hF hR2 hF2 hE
end An
end Go.Proofs.YtalpbciceogjlaaDoor
