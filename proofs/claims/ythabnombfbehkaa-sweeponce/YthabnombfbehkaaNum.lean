import Derived.Test.YthabnombfbehkaaIs
/- The number of an error, as the statements take it. -/
namespace Go.Proofs.Ythabnombfbehkaa
open Go.RowKit
namespace Er
set_option linter.unusedSimpArgs false
set_option linter.unusedVariables false

end Er
end Go.Proofs.Ythabnombfbehkaa
