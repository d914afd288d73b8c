/- The laws' walks of the plain seat, over the program's own calls. -/
import Derived.Test.YtjnodkjeiogloaaPrgW
import Derived.Test.YtjnodkjeiogloaaWholeK
import Derived.Test.YtjnodkjeiogloaaAgainK
import Derived.Test.YtjnodkjeiogloaaTornK
namespace Go.Proofs.Ytjnodkjeiogloaa
set_option linter.ambiguousOpen false
open Go.RowKit
namespace Rc
open Sm Pk
set_option linter.unusedVariables false

theorem recordWhole_walk (ep : Nat) (lv : Value) (L : List (List UInt8)) (bh : Value) (B : List (List UInt8)) (w : World) (hep : ep < 4294967296) (hR : RdL w lv L) (hN : L.length ≤ 1048576) (hB : Nm.Rd w bh B) (hzB : Nz bh) (hBn : B.length ≤ 1048576) (hBt : ∀ t ∈ B, t.length ≤ 1048576) :
    Calls Try.prog 4 #[.int .u32 (ep : Int), lv, bh] w fun e w' => e = .returned (.bool true) ∧ Below w.heap.size w w' :=
  whole_yes Pr.frame_p Pr.scan_p ep lv bh L B w hep hR (by omega) hB hzB (by omega) (fun t ht => by have := hBt t ht; omega)

theorem recordTorn_walk (ep : Nat) (lv : Value) (L : List (List UInt8)) (pv bf : Value) (th : Int) (q : List UInt8) (B : List (List UInt8)) (w : World) (hep : ep < 4294967296) (hR : RdL w lv L) (hN : L.length ≤ 1048576) (hp : RdB w pv q) (hzp : Nz pv) (hth : -9223372036854775808 ≤ th ∧ th ≤ 9223372036854775807) (hB : Nm.Rd w bf B) (hBt : ∀ t ∈ B, t.length ≤ 1048576) :
    Calls Try.prog 5 #[.int .u32 (ep : Int), lv, .agg #[pv, .int .i64 th, bf]] w fun e w' => e = .returned (.bool true) ∧ Below w.heap.size w w' :=
  torn_yes Pr.frame_p Pr.scan_p ep lv pv bf th L B q w hep hR (by omega) hp hzp hth hB (fun t ht => by have := hBt t ht; omega)

theorem recordAgain_walk (ep : Nat) (lv : Value) (ls : List (List UInt8)) (w : World) (hep : ep < 4294967296) (hR : Nm.Rd w lv ls) (hz : Nz lv) (hN : ls.length ≤ 1048576) (hT : ∀ t ∈ ls, t.length ≤ 1048576) :
    Calls Try.prog 6 #[.int .u32 (ep : Int), lv] w fun e w' => e = .returned (.bool true) ∧ Below w.heap.size w w' :=
  again_yes Pr.frame_p Pr.scan_p ep lv ls w hep hR (by omega) (fun t ht => by have := hT t ht; omega)
end Rc
end Go.Proofs.Ytjnodkjeiogloaa
