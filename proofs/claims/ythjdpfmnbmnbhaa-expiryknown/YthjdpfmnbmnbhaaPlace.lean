/- The questions Place, Plain and At of the statements. -/
import Derived.Test.YthjdpfmnbmnbhaaAsTop
import Derived.Deep.RegionHeld3
namespace Go.Proofs.Ythjdpfmnbmnbhaa
open Go.RowKit
namespace Er
set_option linter.unusedSimpArgs false
set_option linter.unusedVariables false

theorem below_then {w a b : World} (h : Below w.heap.size w a) (k : Below a.heap.size a b) : Below w.heap.size w b := h.trans (k.mono h.size)

end Er
end Go.Proofs.Ythjdpfmnbmnbhaa
