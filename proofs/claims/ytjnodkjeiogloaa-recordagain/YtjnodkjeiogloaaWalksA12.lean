/- The law RecordAgain, over the program's own calls and every list of texts that fits. -/
import Derived.Test.YtjnodkjeiogloaaPrgT
import Derived.Test.YtjnodkjeiogloaaAgainW
namespace Go.Proofs.Ytjnodkjeiogloaa
set_option linter.ambiguousOpen false
open Go.RowKit
namespace Rc
open Sm Pk
set_option linter.unusedVariables false

theorem recordAgain_walk (ep : Nat) (lv : Value) (ls : List (List UInt8)) (w : World) (hep : ep < 4294967296) (hR : Nm.Rd w lv ls) (hT : ∀ t ∈ ls, t.length ≤ maxLen) (hN : ls.length * 16 ≤ 140737488351232) :
    Calls Try.prog 6 #[.int .u32 (ep : Int), lv] w fun e w' => e = .returned (.bool true) ∧ Below w.heap.size w w' :=
  again_wide Pr.frame_p Pr.scan_p Pr.scan_w ep lv ls w hep hR (by omega) (fun t ht => by have := hT t ht; unfold maxLen at this; omega)
end Rc
end Go.Proofs.Ytjnodkjeiogloaa
