/- errors.As whole, and the questions Place, Plain, At of the statements. -/
import Derived.Test.YthjdpfmnbmnbhaaAs
namespace Go.Proofs.Ythjdpfmnbmnbhaa
open Go.RowKit Go.Extern.Stop Go.Stop Go.Extern
namespace Er
set_option linter.unusedSimpArgs false
set_option linter.unusedVariables false

end Er
end Go.Proofs.Ythjdpfmnbmnbhaa
