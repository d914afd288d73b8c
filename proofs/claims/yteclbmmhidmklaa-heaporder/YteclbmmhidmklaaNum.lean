/- The number of an error, as the statements take it. -/
import Derived.Test.YteclbmmhidmklaaIs
namespace Go.Proofs.Yteclbmmhidmklaa
open Go.RowKit
namespace Er
set_option linter.unusedSimpArgs false
set_option linter.unusedVariables false

end Er
end Go.Proofs.Yteclbmmhidmklaa
