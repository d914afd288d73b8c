import Derived.Test.YthdibodmnpcekaaKnoM
import Derived.Test.YthdibodmnpcekaaMore13
/- The laws' walks of the plain seat, over the program's own calls: LogKnown. -/
namespace Go.Proofs.Ythdibodmnpcekaa
set_option linter.ambiguousOpen false
open Go.RowKit
namespace Lo
open Sm Dk
set_option linter.unusedVariables false

theorem logKnown_walk (w : World) : Calls Try.prog 4 #[] w fun e w' => e = .returned (.bool true) ∧ Below w.heap.size w w' :=
  known_walk Pd.says (fun w p F d ⟨bg, bc, tv, fv, pw, h, e⟩ => (Pd.writes_any w p bg bc tv fv pw d h).mono fun _ _ ⟨a, b⟩ => ⟨a, Pd.below_self b⟩) frame_w Rc.Pr.scan_p w
end Lo
end Go.Proofs.Ythdibodmnpcekaa
