/- The law RecordFrames, over the program's own calls. -/
import Derived.Test.YtjnodkjeiogloaaDoorPrgT
import Derived.Test.YtjnodkjeiogloaaDoorFramesK
namespace Go.Proofs.YtjnodkjeiogloaaDoor
set_option linter.ambiguousOpen false
open Go.RowKit
namespace Rc
open Sm Pk
set_option linter.unusedVariables false

theorem recordFrames_walk (ep : Nat) (v : Value) (p : List UInt8) (w : World) (hep : ep < 4294967296) (hR : RdB w v p) (hl : p.length ≤ 140737488351232) (hz : Nz v) (hg : Er.Handle w) :
    Calls Tryd.prog 3 #[.int .u32 (ep : Int), v] w fun e w' => e = .returned (.bool true) ∧ Below w.heap.size w w' :=
  frames_yes Pr.frame_p ep v p w hep hR hz hl hg
end Rc
end Go.Proofs.YtjnodkjeiogloaaDoor
