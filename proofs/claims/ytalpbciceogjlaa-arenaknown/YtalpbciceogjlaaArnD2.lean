/- One act: Place, Free. -/
import Derived.Test.YtalpbciceogjlaaArnD
namespace Go.Proofs.Ytalpbciceogjlaa
set_option linter.ambiguousOpen false
open Go.RowKit
namespace An
open Ft Lv
set_option linter.unusedSimpArgs false
set_option linter.unusedVariables false

end An
end Go.Proofs.Ytalpbciceogjlaa
