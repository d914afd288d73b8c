/- The walks of layer 8's statements at the door, as the frames want them. -/
import Derived.Test.YtkkpcngdpnoidaaDoorKnownV8
import Derived.Test.YtkkpcngdpnoidaaDoorTok8
namespace Go.Proofs.YtkkpcngdpnoidaaDoor
set_option linter.ambiguousOpen false
open Go.RowKit
namespace Tk
open Sm

theorem tokenPrints_walk (s b : Int) (t : Nat) (w : World) (hs : -9223372036854775808 ≤ s ∧ s ≤ 9223372036854775807) (hb : -9223372036854775808 ≤ b ∧ b ≤ 9223372036854775807) (ht : t < 18446744073709551616) (hE : Er.Handle w) :
    Calls Tryd.prog 3 #[tok s b t] w fun e w' => e = .returned (.bool true) ∧ Below w.heap.size w w' := tokenPrints_says says s b t w hs hb ht hE

theorem tokenParses_walk (l : List UInt8) (w : World) (hl : l.length ≤ maxLen) (hE : Er.Handle w) :
    Calls Tryd.prog 4 #[.string (tx l)] w fun e w' => e = .returned (.bool true) ∧ Below w.heap.size w w' := tokenParses_says says l w hl hE

theorem tokenKnown_walk (w : World) (hE : Er.Handle w) : Calls Tryd.prog 5 #[] w fun e w' => e = .returned (.bool true) ∧ Below w.heap.size w w' := tokenKnown_says says w hE
end Tk
end Go.Proofs.YtkkpcngdpnoidaaDoor
