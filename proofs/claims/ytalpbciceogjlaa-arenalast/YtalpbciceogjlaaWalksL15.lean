/- ArenaLast over the program's own calls. -/
import Derived.Test.YtalpbciceogjlaaArnN
import Derived.Test.YtalpbciceogjlaaArnJ
namespace Go.Proofs.Ytalpbciceogjlaa
set_option linter.ambiguousOpen false
open Go.RowKit
namespace An
open Ft Lv
set_option linter.unusedVariables false

theorem arenaLast_walk (v : Value) (l : List Int) (s : Slt) (w : World) (hR : RdZ w v l) (hl : ∀ x ∈ l, -9223372036854775808 ≤ x ∧ x ≤ 9223372036854775807) :
    Calls Try.prog 4 #[v, s.v] w fun e w' => e = .returned (.bool true) ∧ Below w.heap.size w w' :=
  arenaLast_yes keepP new_any get_any put_any take_any free_any frees_any writes_any v l s w hR hl
end An
end Go.Proofs.Ytalpbciceogjlaa
