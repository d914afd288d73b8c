import Derived.Test.YthdibodmnpcekaaGreatDoorPlayK
import Derived.Test.YthdibodmnpcekaaGreatDoorMore13
/- The law's walk of the door, over the program's own calls: LogPlays. -/
namespace Go.Proofs.YthdibodmnpcekaaGreatDoor
set_option linter.ambiguousOpen false
open Go.RowKit
namespace Lo
open Sm
set_option linter.unusedVariables false

theorem logPlays_walk (bl a n : Int) (ep : Nat) (sv : Value) (L : List Actn) (w : World) (hbl : -9223372036854775808 ≤ bl ∧ bl ≤ 9223372036854775807) (ha : -9223372036854775808 ≤ a ∧ a ≤ 9223372036854775807) (hn : -9223372036854775808 ≤ n ∧ n ≤ 9223372036854775807) (hep : ep < 4294967296) (hR : RdN w sv L) (hF : ∀ x ∈ L, x.fits) (hE : Er.Handle w) :
    Calls Tryz.prog 3 #[nu bl, nu a, nu n, .int .u32 (ep : Int), sv] w fun e w' => e = .returned (.bool true) ∧ Below w.heap.size w w' :=
  plays_walk Dk.Pd.says frame_w Rc.Pr.scan_p bl a n ep sv L w hbl ha hn hep hR hF hE
end Lo
end Go.Proofs.YthdibodmnpcekaaGreatDoor
