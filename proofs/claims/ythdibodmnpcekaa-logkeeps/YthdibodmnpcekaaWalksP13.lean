import Derived.Test.YthdibodmnpcekaaKeepM
import Derived.Test.YthdibodmnpcekaaMore13
/- The laws' walks of the plain seat, over the program's own calls: LogKeeps. -/
namespace Go.Proofs.Ythdibodmnpcekaa
set_option linter.ambiguousOpen false
open Go.RowKit
namespace Lo
open Sm
set_option linter.unusedVariables false

theorem logKeeps_walk (v1 : Value) (old : List (List UInt8)) (v2 : Value) (L : List (List UInt8)) (cut : Int) (w : World) (h1 : Rc.RdL w v1 old) (h2 : Rc.RdL w v2 L) (hc : -9223372036854775808 ≤ cut ∧ cut ≤ 9223372036854775807) :
    Calls Try.prog 3 #[v1, v2, nu cut] w fun e w' => e = .returned (.bool true) ∧ Below w.heap.size w w' :=
  keeps_walk Dk.Pd.says frame_w Rc.Pr.scan_p v1 v2 old L cut w h1 h2 hc
end Lo
end Go.Proofs.Ythdibodmnpcekaa
