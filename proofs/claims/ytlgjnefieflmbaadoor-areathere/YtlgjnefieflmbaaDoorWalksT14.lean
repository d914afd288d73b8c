/- AreaThere over the program's own calls. -/
import Derived.Test.YtlgjnefieflmbaaDoorAreT
import Derived.Test.YtlgjnefieflmbaaDoorAreJ
namespace Go.Proofs.YtlgjnefieflmbaaDoor
set_option linter.ambiguousOpen false
open Go.RowKit
namespace Ae
open Sm Ft Dk Pk
set_option linter.unusedVariables false

theorem areaThere_walk (a n : Int) (ep : Nat) (v : Value) (x : List UInt8) (sv : Value) (L : List Actn) (w : World) (ha : -9223372036854775808 ≤ a ∧ a ≤ 9223372036854775807) (hn : -9223372036854775808 ≤ n ∧ n ≤ 9223372036854775807) (hep : ep < 4294967296) (hv : RdB w v x) (hz : Nz v) (hR : RdN w sv L) (hF : ∀ x ∈ L, x.fits) (hE : Er.Handle w) :
    Calls Tryd.prog 4 #[.agg (plC a n ep v), sv] w fun e w' => e = .returned (.bool true) ∧ Below w.heap.size w w' :=
  areaThere_yes Dk.Pd.says save_p load_p w a n ep v sv x L hv hz hR hF ha hn hep hE
end Ae
end Go.Proofs.YtlgjnefieflmbaaDoor
