/- What the frame of GrantChildren calls. -/
import Derived.Test.YtbgggekkkcefcaaDoorGrY
import Derived.Test.YtbgggekkkcefcaaDoorGrL
namespace Go.Proofs.YtbgggekkkcefcaaDoor
set_option linter.ambiguousOpen false
open Go.RowKit
namespace Gr
set_option linter.unusedVariables false

theorem grantChildren_walk (p : Sn) (r : Rq) (now births : Int) (full : Bool) (w : World) (hp : p.fit) (hr : r.fit) (hn : i64 now) (hb : i64 births) (hE : Er.Handle w) :
    Calls Tryd.prog 4 #[p.v, r.v, .agg #[nu now, nu births, .bool full]] w fun e w' => e = .returned (.bool true) ∧ Below w.heap.size w w' := children_yes p r now births full w hp hr hE
end Gr
end Go.Proofs.YtbgggekkkcefcaaDoor
