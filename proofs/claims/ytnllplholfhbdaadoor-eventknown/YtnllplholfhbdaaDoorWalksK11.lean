/- The walk of EventKnown, as its frame wants it. -/
import Derived.Test.YtnllplholfhbdaaDoorKnownE
import Derived.Test.YtnllplholfhbdaaDoorEvent11
namespace Go.Proofs.YtnllplholfhbdaaDoor
set_option linter.ambiguousOpen false
open Go.RowKit
namespace Ev
set_option linter.unusedVariables false

theorem eventKnown_walk (w : World) (hg : Er.Handle w) : Calls Tryd.prog 6 #[] w fun x w' => x = .returned (.bool true) ∧ Below w.heap.size w w' := known_yes Pe.says w hg
end Ev
end Go.Proofs.YtnllplholfhbdaaDoor
