/- What the statements ask first (works) is true; and plain facts on the order of texts. -/
import Derived.Test.YtlfoipddhcdmmaaUnder
namespace Go.Proofs.Ytlfoipddhcdmmaa
open Go.RowKit
namespace Nm

theorem k1 : dottedB [109, 97, 105, 108, 46, 114, 101, 97, 100] = true := by decide
theorem k2 : underB [109, 97, 105, 108, 46, 114, 101, 97, 100] [109, 97, 105, 108] = true := by decide
theorem k3 : underB [109, 97, 105, 108] [109, 97, 105, 108, 46, 114, 101, 97, 100] = false := by decide
theorem k4 : cmpT [97] [97, 46, 98] = -1 := by decide
theorem k5 : cmpT [98] [97] = 1 := by decide

theorem c1 (w : World) : Calls Try.prog 13 #[.string ⟨#[109, 97, 105, 108, 46, 114, 101, 97, 100]⟩] w fun e w' => e = .returned (.bool true) ∧ Below w.heap.size w w' := by
  have h := dotted_l [109, 97, 105, 108, 46, 114, 101, 97, 100] w (by decide)
  rw [k1] at h; exact h
theorem c2 (w : World) : Calls Try.prog 17 #[.string ⟨#[109, 97, 105, 108, 46, 114, 101, 97, 100]⟩, .string ⟨#[109, 97, 105, 108]⟩] w fun e w' => e = .returned (.bool true) ∧ Below w.heap.size w w' := by
  have h := under_l [109, 97, 105, 108, 46, 114, 101, 97, 100] [109, 97, 105, 108] w (by decide) (by decide)
  rw [k2] at h; exact h
theorem c3 (w : World) : Calls Try.prog 17 #[.string ⟨#[109, 97, 105, 108]⟩, .string ⟨#[109, 97, 105, 108, 46, 114, 101, 97, 100]⟩] w fun e w' => e = .returned (.bool false) ∧ Below w.heap.size w w' := by
  have h := under_l [109, 97, 105, 108] [109, 97, 105, 108, 46, 114, 101, 97, 100] w (by decide) (by decide)
  rw [k3] at h; exact h
theorem c4 (w : World) : Calls Try.prog 19 #[.string ⟨#[97]⟩, .string ⟨#[97, 46, 98]⟩] w fun e w' => e = .returned (.int .i64 (-1)) ∧ Below w.heap.size w w' := by
  have h := cmp_l [97] [97, 46, 98] w (by decide) (by decide)
  rw [k4] at h; exact h
theorem c5 (w : World) : Calls Try.prog 19 #[.string ⟨#[98]⟩, .string ⟨#[97]⟩] w fun e w' => e = .returned (.int .i64 1) ∧ Below w.heap.size w w' := by
  have h := cmp_l [98] [97] w (by decide) (by decide)
  rw [k5] at h; exact h

set_option maxRecDepth 1000000 in
set_option maxHeartbeats 1000000 in
theorem works_l (w : World) : Calls Try.prog 21 #[] w fun e w' => e = .returned (.bool true) ∧ Below w.heap.size w w' := by
  go_enter Try.func21, Try.ntmps21
  go_wp2_with fail
  refine (c1 _).mono ?_
  rintro e w1 ⟨rfl, h1⟩
  go_wp2_with fail
  refine (c2 _).mono ?_
  rintro e w2 ⟨rfl, h2⟩
  go_wp2_with fail
  refine (c3 _).mono ?_
  rintro e w3 ⟨rfl, h3⟩
  go_wp2_with fail
  refine (c4 _).mono ?_
  rintro e w4 ⟨rfl, h4⟩
  go_wp2_with fail
  refine (c5 _).mono ?_
  rintro e w5 ⟨rfl, h5⟩
  go_wp2
  go_ret
  exact ⟨rfl, below_then (below_then (below_then (below_then h1 h2) h3) h4) h5⟩
end Nm
end Go.Proofs.Ytlfoipddhcdmmaa
