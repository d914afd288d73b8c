/- The walks of a plain seat's laws, as the frames want them. -/
import Derived.Test.YtojejenijhjglaaThereK
import Derived.Test.YtojejenijhjglaaBackK
import Derived.Test.YtojejenijhjglaaWritesK
import Derived.Test.YtojejenijhjglaaPack10
namespace Go.Proofs.Ytojejenijhjglaa
set_option linter.ambiguousOpen false
open Go.RowKit
namespace Pk
open Sm Ft
set_option linter.unusedVariables false

theorem packWrites_walk (v : Value) (l : List Itm) (w : World) (hR : RdI w v l) (hf : ∀ r ∈ l, r.v < 18446744073709551616) (hl : (allB l).length ≤ 100000000) :
    Calls Try.prog 3 #[v] w fun e w' => e = .returned (.bool true) ∧ Below w.heap.size w w' := writes_yes Pp.says v l w hR hf hl

theorem packThere_walk (v : Value) (l : List Itm) (w : World) (hR : RdI w v l) (hf : ∀ r ∈ l, r.v < 18446744073709551616) (hl : (allB l).length ≤ 100000000) :
    Calls Try.prog 4 #[v] w fun e w' => e = .returned (.bool true) ∧ Below w.heap.size w w' := there_yes Pp.says v l w hR hf (by omega)

theorem packBack_walk (v : Value) (b : List UInt8) (qv : Value) (asks : List Ask) (w : World) (hR : RdB w v b) (hl : b.length ≤ 1048576) (hQ : RdQ w qv asks) (hq : ∀ r ∈ asks, -9223372036854775808 ≤ r.2 ∧ r.2 ≤ 9223372036854775807) :
    Calls Try.prog 5 #[v, qv] w fun e w' => e = .returned (.bool true) ∧ Below w.heap.size w w' := back_yes Pp.says v qv b asks w hR hQ (by omega) hq
end Pk
end Go.Proofs.Ytojejenijhjglaa
