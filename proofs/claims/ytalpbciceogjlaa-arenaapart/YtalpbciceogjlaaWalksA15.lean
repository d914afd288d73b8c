/- ArenaApart over the program's own calls. -/
import Derived.Test.YtalpbciceogjlaaArnM
import Derived.Test.YtalpbciceogjlaaArnJ
namespace Go.Proofs.Ytalpbciceogjlaa
set_option linter.ambiguousOpen false
open Go.RowKit
namespace An
open Ft Lv
set_option linter.unusedVariables false

theorem arenaApart_walk (sv : Value) (L : List Actn) (w : World) (hR : RdT w sv L) (hF : ∀ x ∈ L, x.fits) :
    Calls Try.prog 3 #[sv] w fun e w' => e = .returned (.bool true) ∧ Below w.heap.size w w' :=
  arenaApart_yes keepP new_any put_any take_any place_any free_any frees_any sv L w hR hF
end An
end Go.Proofs.Ytalpbciceogjlaa
