/- The law RecordScans, over the program's own calls. -/
import Derived.Test.YtjnodkjeiogloaaScansK
namespace Go.Proofs.Ytjnodkjeiogloaa
set_option linter.ambiguousOpen false
open Go.RowKit
namespace Rc
open Sm Pk
set_option linter.unusedVariables false

theorem recordScans_walk (ep : Nat) (lv : Value) (ls : List (List UInt8)) (most : Int) (w : World) (hep : ep < 4294967296) (hR : Nm.Rd w lv ls) (hz : Nz lv) (hN : ls.length ≤ 1048576) (hT : ∀ t ∈ ls, t.length ≤ 1048576) (hm : -9223372036854775808 ≤ most ∧ most ≤ 9223372036854775807) :
    Calls Try.prog 3 #[.int .u32 (ep : Int), lv, .int .i64 most] w fun e w' => e = .returned (.bool true) ∧ Below w.heap.size w w' :=
  scans_yes ep lv ls most w hep hR hN hT hm
end Rc
end Go.Proofs.Ytjnodkjeiogloaa
