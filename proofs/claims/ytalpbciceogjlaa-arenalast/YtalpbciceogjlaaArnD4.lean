/- One act, whichever it is. -/
import Derived.Test.YtalpbciceogjlaaArnD1
import Derived.Test.YtalpbciceogjlaaArnD2
import Derived.Test.YtalpbciceogjlaaArnD3
namespace Go.Proofs.Ytalpbciceogjlaa
set_option linter.ambiguousOpen false
open Go.RowKit
namespace An
open Ft Lv
set_option linter.unusedVariables false

end An
end Go.Proofs.Ytalpbciceogjlaa
