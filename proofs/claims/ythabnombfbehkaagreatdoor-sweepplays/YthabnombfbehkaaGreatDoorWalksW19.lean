import Derived.Test.YthabnombfbehkaaGreatDoorSgU
import Derived.Test.YthabnombfbehkaaGreatDoorSwpK
import Derived.Test.YthabnombfbehkaaGreatDoorArH
/- SweepPlays over the program's own calls. -/
namespace Go.Proofs.YthabnombfbehkaaGreatDoor
set_option linter.ambiguousOpen false
open Go.RowKit
namespace Sw
open An Rg Ft Lv Sp
set_option linter.unusedVariables false

theorem sweepPlays_walk (tk : Int) (sv : Value) (L : List Gact) (w : World) (htk : I64 tk) (hR : RdG w sv L) (hF : ∀ x ∈ L, x.fits) (hE : Er.Handle w) :
    Calls Tryz.prog 3 #[nu tk, sv] w fun e w' => e = .returned (.bool true) ∧ Below w.heap.size w w' :=
  sweepPlays_yes keepP new_any sweepP tk sv L w htk hR hF hE
end Sw
end Go.Proofs.YthabnombfbehkaaGreatDoor
