/- What the frames of a plain seat ask of its types. -/
import Derived.Test.YtalpbciceogjlaaLawsX
namespace Go.Proofs.Ytalpbciceogjlaa
open Go.ChangeShapes Go.WideShapes Go.ChangeAt Go.RowKit
set_option maxRecDepth 100000

theorem Try.laidOutX : laidOutB Try.prog = true := by kernel_rfl
end Go.Proofs.Ytalpbciceogjlaa
