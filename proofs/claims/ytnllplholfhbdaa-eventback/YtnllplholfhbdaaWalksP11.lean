/- The walks of a plain seat's laws, as the frames want them. -/
import Derived.Test.YtnllplholfhbdaaEbackK
import Derived.Test.YtnllplholfhbdaaEvent11
namespace Go.Proofs.Ytnllplholfhbdaa
set_option linter.ambiguousOpen false
open Go.RowKit
namespace Ev
open Sm
set_option linter.unusedVariables false

theorem eventBack_walk (e : Evt) (v : Value) (b : List UInt8) (w : World) (hr : e.rng) (hs : 0 ≤ e.s.scopes ∧ e.s.scopes < 18446744073709551616) (hu : e.s.user.length ≤ 9223372036854775807) (hl : e.s.label.length ≤ 9223372036854775807) (hR : RdB w v b) (hb : b.length ≤ 140737488351232) :
    Calls Try.prog 3 #[.agg e.arr, v] w fun x w' => x = .returned (.bool true) ∧ Below w.heap.size w w' := back_yes Pe.says e v b w hr hs hu hl hR (by omega)
end Ev
end Go.Proofs.Ytnllplholfhbdaa
