/- AreaOne over the program's own calls. -/
import Derived.Test.YtlgjnefieflmbaaDoorAreO
import Derived.Test.YtlgjnefieflmbaaDoorAreJ
namespace Go.Proofs.YtlgjnefieflmbaaDoor
set_option linter.ambiguousOpen false
open Go.RowKit
namespace Ae
open Sm Ft Dk Pk
set_option linter.unusedVariables false

theorem areaOne_walk (a n : Int) (ep : Nat) (v : Value) (x : List UInt8) (v2 : Value) (y : List UInt8) (c : Int) (w : World) (ha : -9223372036854775808 ≤ a ∧ a ≤ 9223372036854775807) (hn : -9223372036854775808 ≤ n ∧ n ≤ 9223372036854775807) (hep : ep < 4294967296) (hv : RdB w v x) (hz : Nz v) (hv2 : RdB w v2 y) (hz2 : Nz v2) (hc : -9223372036854775808 ≤ c ∧ c ≤ 9223372036854775807) (hE : Er.Handle w) :
    Calls Tryd.prog 5 #[.agg (plC a n ep v), v2, nu c] w fun e w' => e = .returned (.bool true) ∧ Below w.heap.size w w' :=
  areaOne_yes Dk.Pd.says save_p load_p w a n c ep v v2 x y hv hz hv2 hz2 ha hn hc hep hE
end Ae
end Go.Proofs.YtlgjnefieflmbaaDoor
