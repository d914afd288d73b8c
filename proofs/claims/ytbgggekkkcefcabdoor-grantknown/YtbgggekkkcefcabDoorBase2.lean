/- The calls Meet and Within of package bits. -/
import Derived.Test.YtbgggekkkcefcabDoorBase
namespace Go.Proofs.YtbgggekkkcefcabDoor
open Go.RowKit
namespace Bt
set_option linter.unusedSimpArgs false
set_option linter.unusedVariables false

theorem within_any (a b : Nat) (w : World) (ha : a < 18446744073709551616) (hb : b < 18446744073709551616) :
    Calls Tryd.prog 60 #[st a, st b] w fun e w' => e = .returned (.bool (less a b == 0)) ∧ w' = w := by
  have c := less_any a b w ha hb
  go_enter Tryd.func60, Tryd.ntmps60
  go_wp2_with fail
  refine c.mono ?_
  rintro e w1 ⟨rfl, rfl⟩
  go_wp2
  go_ret
  exact ⟨ret_bool (by rw [Bool.eq_iff_iff]; simp), rfl⟩

end Bt
end Go.Proofs.YtbgggekkkcefcabDoor
