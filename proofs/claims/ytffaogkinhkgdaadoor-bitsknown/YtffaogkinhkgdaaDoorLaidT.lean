/- The library's table out of whatever list of variables; the walks as the rows ask them. -/
import Derived.Test.YtffaogkinhkgdaaDoorLaid
import Derived.Test.YtffaogkinhkgdaaDoorLaidG
import Derived.Test.YtffaogkinhkgdaaDoorAll
namespace Go.Proofs.YtffaogkinhkgdaaDoor
open Go.ChangeShapes Go.WideShapes Go.RowKit
namespace Kt
set_option linter.unusedVariables false

theorem tab_of {L : List (String × DataW Unit)} {W : World} (h : laidMetH Tryd.prog L W) (e : (L.filter fun x => x.1 == "math/bits.deBruijn64tab") = Bt.tabLaid) : Bt.Tab W ∧ 0 < W.heap.size := by
  have h2 := h.filter fun x => x.1 == "math/bits.deBruijn64tab"
  rw [e] at h2
  exact Bt.tab_of_laid h2

theorem bitsAll_walk (s : Nat) (most : Int) (w : World) (hs : s < 18446744073709551616) (hmost : -9223372036854775808 ≤ most ∧ most ≤ 9223372036854775807) (hT : Bt.Tab w ∧ 0 < w.heap.size) :
    Calls Tryd.prog 3 #[.int .u64 s, .int .i64 most] w fun e w' => e = .returned (.bool true) ∧ Below w.heap.size w w' :=
  Bt.bitsAll_walk s most w hs hmost hT.1 hT.2
end Kt
end Go.Proofs.YtffaogkinhkgdaaDoor
