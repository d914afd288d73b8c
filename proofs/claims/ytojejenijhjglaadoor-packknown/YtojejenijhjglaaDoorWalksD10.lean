/- The walks of a door's laws, as the frames want them. -/
import Derived.Test.YtojejenijhjglaaDoorReadsK
import Derived.Test.YtojejenijhjglaaDoorKnownP
import Derived.Test.YtojejenijhjglaaDoorPack10
namespace Go.Proofs.YtojejenijhjglaaDoor
set_option linter.ambiguousOpen false
open Go.RowKit
namespace Pk
open Sm Ft
set_option linter.unusedVariables false

theorem packReads_walk (v : Value) (b : List UInt8) (qv : Value) (asks : List Ask) (w : World) (hR : RdB w v b) (hl : b.length ≤ 140737488351232) (hQ : RdQ w qv asks) (hq : ∀ r ∈ asks, -9223372036854775808 ≤ r.2 ∧ r.2 ≤ 9223372036854775807) (hE : Er.Handle w) :
    Calls Tryd.prog 3 #[v, qv] w fun e w' => e = .returned (.bool true) ∧ Below w.heap.size w w' := reads_yes Pp.says v qv b asks w hR hQ hl hq hE

theorem packKnown_walk (w : World) (hE : Er.Handle w) :
    Calls Tryd.prog 4 #[] w fun e w' => e = .returned (.bool true) ∧ Below w.heap.size w w' := known_yes Pp.says w hE
end Pk
end Go.Proofs.YtojejenijhjglaaDoor
