/- The document's rings: Push, Drop, Splice. -/
import Derived.Test.YtckgecmcjnhceaaRngR
namespace Go.Proofs.Ytckgecmcjnhceaa
set_option linter.ambiguousOpen false
open Go.RowKit
namespace Rg
open An Ft Lv
set_option linter.unusedSimpArgs false
set_option linter.unusedVariables false

end Rg
end Go.Proofs.Ytckgecmcjnhceaa
