/- What the frame of GrantLogins calls. -/
import Derived.Test.YtbgggekkkcefcaaDoorGrYl
import Derived.Test.YtbgggekkkcefcaaDoorGrL
namespace Go.Proofs.YtbgggekkkcefcaaDoor
set_option linter.ambiguousOpen false
open Go.RowKit
namespace Gr
set_option linter.unusedVariables false

theorem grantLogins_walk (r : Rq) (now births : Int) (full : Bool) (w : World) (hr : r.fit) (hn : i64 now) (hb : i64 births) (hE : Er.Handle w) :
    Calls Tryd.prog 3 #[r.v, .agg #[nu now, nu births, .bool full]] w fun e w' => e = .returned (.bool true) ∧ Below w.heap.size w w' := logins_yes r now births full w hr hE
end Gr
end Go.Proofs.YtbgggekkkcefcaaDoor
