/- ExpiryPlays over the program's own calls. -/
import Derived.Test.YthjdpfmnbmnbhaaDoorExpL
import Derived.Test.YthjdpfmnbmnbhaaDoorExpQ
namespace Go.Proofs.YthjdpfmnbmnbhaaDoor
set_option linter.ambiguousOpen false
open Go.RowKit
namespace Ex
open Hh Ft
set_option linter.unusedVariables false

theorem expiryPlays_walk (sv : Value) (L : List Xact) (w : World) (hR : RdX w sv L) (hF : ∀ x ∈ L, x.fits) (hE : Er.Handle w) :
    Calls Tryd.prog 3 #[sv] w fun e w' => e = .returned (.bool true) ∧ Below w.heap.size w w' :=
  expiryPlays_yes expiryC_of sv L w hR hF hE
end Ex
end Go.Proofs.YthjdpfmnbmnbhaaDoor
