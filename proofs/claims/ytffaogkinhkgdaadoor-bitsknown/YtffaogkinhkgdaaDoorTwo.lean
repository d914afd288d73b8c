/- BitsTwo answers true for all sets. -/
import Derived.Test.YtffaogkinhkgdaaDoorRef
namespace Go.Proofs.YtffaogkinhkgdaaDoor
open Go.RowKit
namespace Bt
set_option linter.unusedSimpArgs false
set_option linter.unusedVariables false

set_option maxRecDepth 1000000 in
set_option maxHeartbeats 4000000 in
theorem bitsTwo_walk (a b : Nat) (w : World) (ha : a < 18446744073709551616) (hb : b < 18446744073709551616) :
    Calls Tryd.prog 25 #[st a, st b] w fun e w' => e = .returned (.bool true) ∧ Below w.heap.size w w' := by
  have m := meet_any a b w ha hb
  have m' := rmeet_any a b w ha hb
  have j := join_any a b w ha hb
  have j' := rjoin_any a b w ha hb
  have l := less_any a b w ha hb
  have l' := rless_any a b w ha hb
  have i := within_any a b w ha hb
  have i' := rwithin_any a b w ha hb
  have c := count_any a w ha
  have c' := rcount_any a w ha
  generalize a &&& b = x1 at *
  generalize a ||| b = x2 at *
  generalize hq : (less a b == 0) = q at *
  clear hq
  generalize less a b = x3 at *
  go_enter Tryd.func25, Tryd.ntmps25
  go_wp2_with fail
  refine m.mono ?_
  rintro e w1 ⟨rfl, rfl⟩
  go_wp2_with fail
  refine m'.mono ?_
  rintro e w1 ⟨rfl, rfl⟩
  go_wp2_with fail
  refine j.mono ?_
  rintro e w1 ⟨rfl, rfl⟩
  go_wp2_with fail
  refine j'.mono ?_
  rintro e w1 ⟨rfl, rfl⟩
  go_wp2_with fail
  refine l.mono ?_
  rintro e w1 ⟨rfl, rfl⟩
  go_wp2_with fail
  refine l'.mono ?_
  rintro e w1 ⟨rfl, rfl⟩
  go_wp2_with fail
  refine i.mono ?_
  rintro e w1 ⟨rfl, rfl⟩
  go_wp2_with fail
  refine i'.mono ?_
  rintro e w1 ⟨rfl, rfl⟩
  go_wp2_with fail
  refine c.mono ?_
  rintro e w1 ⟨rfl, rfl⟩
  go_wp2_with fail
  refine c'.mono ?_
  rintro e w1 ⟨rfl, q1⟩
  go_wp2
  go_ret
  exact ⟨rfl, q1⟩
end Bt
end Go.Proofs.YtffaogkinhkgdaaDoor
