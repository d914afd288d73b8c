/- The calls Meet and Within of package bits. -/
import Derived.Test.YtffaogkinhkgdaaDoorBase
namespace Go.Proofs.YtffaogkinhkgdaaDoor
open Go.RowKit
namespace Bt
set_option linter.unusedSimpArgs false
set_option linter.unusedVariables false

theorem meet_any (a b : Nat) (w : World) (ha : a < 18446744073709551616) (hb : b < 18446744073709551616) :
    Calls Tryd.prog 40 #[st a, st b] w fun e w' => e = .returned (st (a &&& b)) ∧ w' = w := by
  have k := u64_and_nat a b ha hb
  go_enter Tryd.func40, Tryd.ntmps40
  go_wp2_with (simp only [k])
  go_ret
  exact ⟨rfl, rfl⟩

theorem within_any (a b : Nat) (w : World) (ha : a < 18446744073709551616) (hb : b < 18446744073709551616) :
    Calls Tryd.prog 44 #[st a, st b] w fun e w' => e = .returned (.bool (less a b == 0)) ∧ w' = w := by
  have c := less_any a b w ha hb
  go_enter Tryd.func44, Tryd.ntmps44
  go_wp2_with fail
  refine c.mono ?_
  rintro e w1 ⟨rfl, rfl⟩
  go_wp2
  go_ret
  exact ⟨ret_bool (by rw [Bool.eq_iff_iff]; simp), rfl⟩

end Bt
end Go.Proofs.YtffaogkinhkgdaaDoor
