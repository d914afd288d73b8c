import Derived.Test.YtcleeidfiaafcaaIs
/- The number of an error, as the statements take it. -/
namespace Go.Proofs.Ytcleeidfiaafcaa
open Go.RowKit
namespace Er
set_option linter.unusedSimpArgs false
set_option linter.unusedVariables false

end Er
end Go.Proofs.Ytcleeidfiaafcaa
