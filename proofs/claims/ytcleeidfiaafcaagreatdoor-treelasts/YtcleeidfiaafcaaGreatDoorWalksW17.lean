import Derived.Test.YtcleeidfiaafcaaGreatDoorTreFd
import Derived.Test.YtcleeidfiaafcaaGreatDoorTreL
import Derived.Test.YtcleeidfiaafcaaGreatDoorArH
/- TreePlays, TreeLasts over the program's own calls. -/
namespace Go.Proofs.YtcleeidfiaafcaaGreatDoor
set_option linter.ambiguousOpen false
open Go.RowKit
namespace Tr
open An Rg Ft Lv
set_option linter.unusedVariables false

theorem treePlays_walk (sv : Value) (L : List Tact) (w : World) (hR : RdE w sv L) (hF : ∀ x ∈ L, x.fits) (hE : Er.Handle w) :
    Calls Tryz.prog 3 #[sv] w fun e w' => e = .returned (.bool true) ∧ Below w.heap.size w w' :=
  treePlays_yes new_any treeWP sv L w hR hF hE

theorem treeLasts_walk (sv : Value) (L : List Tact) (tv : Value) (M : List Tact) (ix : Int) (w : World) (hR : RdE w sv L) (hF : ∀ x ∈ L, x.fits) (hR2 : RdE w tv M) (hF2 : ∀ x ∈ M, x.fits) (hix : I64 ix) (hE : Er.Handle w) :
    Calls Tryz.prog 4 #[sv, tv, nu ix] w fun e w' => e = .returned (.bool true) ∧ Below w.heap.size w w' :=
  treeLasts_yes new_any treeWP sv tv L M ix w hR hF hR2 hF2 hix hE
end Tr
end Go.Proofs.YtcleeidfiaafcaaGreatDoor
