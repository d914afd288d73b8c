/- What the frames of a plain seat ask of its types. -/
import Derived.Test.YtckgecmcjnhceaaLawsY
namespace Go.Proofs.Ytckgecmcjnhceaa
open Go.ChangeShapes Go.WideShapes Go.ChangeAt Go.RowKit
set_option maxRecDepth 100000

theorem Try.laidOutX : laidOutB Try.prog = true := by kernel_rfl

theorem wf_i64 {a : Int} (h : (Lit.int .i64 a).wf = true) : Rg.I64 a := Rg.wf64 h
end Go.Proofs.Ytckgecmcjnhceaa
