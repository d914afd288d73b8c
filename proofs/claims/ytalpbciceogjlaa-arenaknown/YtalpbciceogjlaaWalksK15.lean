/- ArenaKnown over the program's own calls. -/
import Derived.Test.YtalpbciceogjlaaArnO
import Derived.Test.YtalpbciceogjlaaArnJ
namespace Go.Proofs.Ytalpbciceogjlaa
set_option linter.ambiguousOpen false
open Go.RowKit
namespace An
open Ft Lv
set_option linter.unusedVariables false

theorem arenaKnown_walk (w : World) :
    Calls Try.prog 5 #[] w fun e w' => e = .returned (.bool true) ∧ Below w.heap.size w w' :=
  arenaKnown_yes keepP new_any get_any put_any take_any place_any free_any frees_any writes_any w
end An
end Go.Proofs.Ytalpbciceogjlaa
