/- The walks of layer 8's statements at the plain seat, as the frames want them. -/
import Derived.Test.YtkkpcngdpnoidaaLaws8
import Derived.Test.YtkkpcngdpnoidaaTok8
namespace Go.Proofs.Ytkkpcngdpnoidaa
set_option linter.ambiguousOpen false
open Go.RowKit
namespace Tk
open Sm

theorem tokenThere_walk (s b : Int) (t : Nat) (w : World) (hs : -9223372036854775808 ≤ s ∧ s ≤ 9223372036854775807) (hb : -9223372036854775808 ≤ b ∧ b ≤ 9223372036854775807) (ht : t < 18446744073709551616) :
    Calls Try.prog 3 #[tok s b t] w fun e w' => e = .returned (.bool true) ∧ Below w.heap.size w w' := tokenThere_says says s b t w hs hb ht

theorem tokenBack_walk (l : List UInt8) (w : World) (hl : l.length ≤ maxLen) :
    Calls Try.prog 4 #[.string (tx l)] w fun e w' => e = .returned (.bool true) ∧ Below w.heap.size w w' := tokenBack_says says l w hl

theorem tokenApart_walk (s b : Int) (t : Nat) (s' b' : Int) (t' : Nat) (w : World) (hs : -9223372036854775808 ≤ s ∧ s ≤ 9223372036854775807) (hb : -9223372036854775808 ≤ b ∧ b ≤ 9223372036854775807) (ht : t < 18446744073709551616) (hs' : -9223372036854775808 ≤ s' ∧ s' ≤ 9223372036854775807) (hb' : -9223372036854775808 ≤ b' ∧ b' ≤ 9223372036854775807) (ht' : t' < 18446744073709551616) :
    Calls Try.prog 5 #[tok s b t, tok s' b' t'] w fun e w' => e = .returned (.bool true) ∧ Below w.heap.size w w' := tokenApart_says says s b t s' b' t' w hs hb ht hs' hb' ht'
end Tk
end Go.Proofs.Ytkkpcngdpnoidaa
