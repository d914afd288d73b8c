/- The number of an error, as the statements take it. -/
import Derived.Test.YtbkcpjgaoncioaaIs
namespace Go.Proofs.Ytbkcpjgaoncioaa
open Go.RowKit
namespace Er
set_option linter.unusedSimpArgs false
set_option linter.unusedVariables false

end Er
end Go.Proofs.Ytbkcpjgaoncioaa
