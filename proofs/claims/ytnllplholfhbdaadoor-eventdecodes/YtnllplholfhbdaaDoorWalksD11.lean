import Derived.Test.YtnllplholfhbdaaDoorDecodesK
import Derived.Test.YtnllplholfhbdaaDoorEncodesK
import Derived.Test.YtnllplholfhbdaaDoorEcutK
import Derived.Test.YtnllplholfhbdaaDoorEvent11
/- The walks of the door's laws, as the frames want them. -/
namespace Go.Proofs.YtnllplholfhbdaaDoor
set_option linter.ambiguousOpen false
open Go.RowKit
namespace Ev
open Sm
set_option linter.unusedVariables false

theorem eventEncodes_walk (e : Evt) (w : World) (hr : e.rng) (hs : 0 ≤ e.s.scopes ∧ e.s.scopes < 18446744073709551616) (hu : e.s.user.length ≤ 9223372036854775807) (hl : e.s.label.length ≤ 9223372036854775807) (hg : Er.Handle w) :
    Calls Tryd.prog 3 #[.agg e.arr] w fun x w' => x = .returned (.bool true) ∧ Below w.heap.size w w' := encodes_yes Pe.says e w hr hs hu hl hg

theorem eventDecodes_walk (v : Value) (b : List UInt8) (w : World) (hR : RdB w v b) (hl : b.length ≤ 140737488351232) (hg : Er.Handle w) :
    Calls Tryd.prog 4 #[v] w fun x w' => x = .returned (.bool true) ∧ Below w.heap.size w w' := decodes_yes Pe.says v b w hR hg

theorem eventCut_walk (e : Evt) (a : Int) (x : UInt8) (w : World) (hr : e.rng) (hs : 0 ≤ e.s.scopes ∧ e.s.scopes < 18446744073709551616) (hu : e.s.user.length ≤ 9223372036854775807) (hl : e.s.label.length ≤ 9223372036854775807) (ha : -9223372036854775808 ≤ a ∧ a ≤ 9223372036854775807) (hg : Er.Handle w) :
    Calls Tryd.prog 5 #[.agg e.arr, .int .i64 a, .int .u8 (x.toNat : Int)] w fun x w' => x = .returned (.bool true) ∧ Below w.heap.size w w' := ecut_yes Pe.says e a x w hr hs hu hl ha hg
end Ev
end Go.Proofs.YtnllplholfhbdaaDoor
