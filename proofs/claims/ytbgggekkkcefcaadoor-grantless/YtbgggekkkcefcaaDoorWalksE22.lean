/- What the frame of GrantLess calls. -/
import Derived.Test.YtbgggekkkcefcaaDoorGrZa
namespace Go.Proofs.YtbgggekkkcefcaaDoor
set_option linter.ambiguousOpen false
open Go.RowKit
namespace Gr
set_option linter.unusedVariables false

theorem grantLess_walk (p : Sn) (r : Rq) (now births : Int) (full : Bool) (w : World) (hp : p.fit) (hr : r.fit) (hn : i64 now) (hb : i64 births) (hS : Lv.StepsG w) :
    Calls Tryd.prog 8 #[p.v, r.v, .agg #[nu now, nu births, .bool full]] w fun e w' => e = .returned (.bool true) ∧ Below w.heap.size w w' := less_yes p r now births full w hp hr hS
end Gr
end Go.Proofs.YtbgggekkkcefcaaDoor
