/- What the frames of a plain seat ask of its types. -/
import Derived.Test.YtalpbciceogjlaaDoorLawsX
namespace Go.Proofs.YtalpbciceogjlaaDoor
open Go.ChangeShapes Go.WideShapes Go.ChangeAt Go.RowKit
set_option maxRecDepth 100000

theorem Tryd.laidOutX : laidOutB Tryd.prog = true := by kernel_rfl
end Go.Proofs.YtalpbciceogjlaaDoor
