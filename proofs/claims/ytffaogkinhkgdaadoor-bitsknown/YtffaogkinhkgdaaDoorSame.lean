/- BitsSame answers true for all sets. -/
import Derived.Test.YtffaogkinhkgdaaDoorOf
import Derived.Test.YtffaogkinhkgdaaDoorSets
import Derived.Test.YtffaogkinhkgdaaDoorBase2
namespace Go.Proofs.YtffaogkinhkgdaaDoor
open Go.RowKit
namespace Bt
set_option linter.unusedSimpArgs false
set_option linter.unusedVariables false

set_option maxRecDepth 1000000 in
set_option maxHeartbeats 4000000 in
theorem bitsSame_walk (a b : Nat) (w : World) (ha : a < 18446744073709551616) (hb : b < 18446744073709551616) :
    Calls Tryd.prog 27 #[st a, st b] w fun e w' => e = .returned (.bool true) ∧ Below w.heap.size w w' := by
  obtain ⟨m, hm⟩ : ∃ m, m = a &&& b := ⟨_, rfl⟩
  obtain ⟨j, hj⟩ : ∃ j, j = a ||| b := ⟨_, rfl⟩
  obtain ⟨l, hl⟩ : ∃ l, l = less a b := ⟨_, rfl⟩
  have lm : m < 18446744073709551616 := hm ▸ and_lt ha
  have lj : j < 18446744073709551616 := hj ▸ or_lt2 ha hb
  have ll : l < 18446744073709551616 := hl ▸ less_lt ha
  have M1 : Hid (∀ w, Calls Tryd.prog 40 #[st a, st b] w fun e w' => e = .returned (st m) ∧ w' = w) := fun w => by rw [hm]; exact meet_any a b w ha hb
  have J1 : Hid (∀ w, Calls Tryd.prog 30 #[st a, st b] w fun e w' => e = .returned (st j) ∧ w' = w) := fun w => by rw [hj]; exact join_any a b w ha hb
  have L1 : Hid (∀ w, Calls Tryd.prog 31 #[st a, st b] w fun e w' => e = .returned (st l) ∧ w' = w) := fun w => by rw [hl]; exact less_any a b w ha hb
  have M2 : Hid (∀ w, Calls Tryd.prog 40 #[st b, st a] w fun e w' => e = .returned (st m) ∧ w' = w) := fun w => by rw [hm, Nat.and_comm]; exact meet_any b a w hb ha
  have J2 : Hid (∀ w, Calls Tryd.prog 30 #[st b, st a] w fun e w' => e = .returned (st j) ∧ w' = w) := fun w => by rw [hj, Nat.or_comm]; exact join_any b a w hb ha
  have W1 : Hid (∀ w, Calls Tryd.prog 44 #[st a, st b] w fun e w' => e = .returned (.bool (l == 0)) ∧ w' = w) := fun w => by rw [hl]; exact within_any a b w ha hb
  have W2 : Hid (∀ w, Calls Tryd.prog 44 #[st m, st a] w fun e w' => e = .returned (.bool true) ∧ w' = w) := fun w => by
    have c := within_any m a w lm ha
    rw [hm, less_meet_self ha] at c
    rw [hm]; exact c
  have W3 : Hid (∀ w, Calls Tryd.prog 44 #[st a, st j] w fun e w' => e = .returned (.bool true) ∧ w' = w) := fun w => by
    have c := within_any a j w ha lj
    rw [hj, less_self_join ha hb] at c
    rw [hj]; exact c
  have M3 : Hid (∀ w, Calls Tryd.prog 40 #[st l, st m] w fun e w' => e = .returned (st 0) ∧ w' = w) := fun w => by
    have c := meet_any l m w ll lm
    rw [hl, hm, less_meet ha hb] at c
    rw [hl, hm]; exact c
  have J3 : Hid (∀ w, Calls Tryd.prog 30 #[st l, st m] w fun e w' => e = .returned (st a) ∧ w' = w) := fun w => by
    have c := join_any l m w ll lm
    rw [hl, hm, less_join ha hb] at c
    rw [hl, hm]; exact c
  have hn := ones_both a b
  rw [← hj, ← hm] at hn
  have na := ones_le a
  have nb := ones_le b
  have nm := ones_le m
  have nj := ones_le j
  have Ca : Hid (∀ w, Calls Tryd.prog 32 #[st a] w fun e w' => e = .returned (nu (ones a 64 : Nat)) ∧ w' = w) := fun w => count_any a w ha
  have Cb : Hid (∀ w, Calls Tryd.prog 32 #[st b] w fun e w' => e = .returned (nu (ones b 64 : Nat)) ∧ w' = w) := fun w => count_any b w hb
  have Cm : Hid (∀ w, Calls Tryd.prog 32 #[st m] w fun e w' => e = .returned (nu (ones m 64 : Nat)) ∧ w' = w) := fun w => count_any m w lm
  have Cj : Hid (∀ w, Calls Tryd.prog 32 #[st j] w fun e w' => e = .returned (nu (ones j 64 : Nat)) ∧ w' = w) := fun w => count_any j w lj
  have z1 : ((m : Int) == (a : Int)) = (l == 0) := by
    rw [Bool.eq_iff_iff]
    simp only [beq_iff_eq]
    rw [hl, less_zero ha hb, ← sub_and, ← hm]
    omega
  have z2 : ((j : Int) == (b : Int)) = (l == 0) := by
    rw [Bool.eq_iff_iff]
    simp only [beq_iff_eq]
    rw [hl, less_zero ha hb, ← sub_or, ← hj]
    omega
  have z3 : ((l : Int) == 0) = (l == 0) := by
    rw [Bool.eq_iff_iff]
    simp only [beq_iff_eq]
    omega
  have HN : Hid (((ones j 64 : Nat) : Int) + ((ones m 64 : Nat) : Int) = ((ones a 64 : Nat) : Int) + ((ones b 64 : Nat) : Int)) := by
    show _ = _
    omega
  have cw : Hid (∀ w, Calls Tryd.prog 21 #[] w fun e w' => e = .returned (.bool true) ∧ Below w.heap.size w w') := fun w => works_any w
  clear hm hj hl hn
  generalize hq : (l == 0) = q at *
  clear hq
  generalize ones j 64 = oj at *
  generalize ones m 64 = om at *
  go_enter Tryd.func27, Tryd.ntmps27
  go_wp2_with fail
  refine (M1.out _).mono ?_
  rintro e w1 ⟨rfl, rfl⟩
  go_wp2_with fail
  refine (J1.out _).mono ?_
  rintro e w1 ⟨rfl, rfl⟩
  go_wp2_with fail
  refine (L1.out _).mono ?_
  rintro e w1 ⟨rfl, rfl⟩
  go_wp2_with fail
  refine (cw.out _).mono ?_
  rintro e w2 ⟨rfl, q2⟩
  go_wp2_with fail
  refine (M2.out _).mono ?_
  rintro e w3 ⟨rfl, rfl⟩
  go_wp2_with fail
  refine (J2.out _).mono ?_
  rintro e w3 ⟨rfl, rfl⟩
  go_wp2_with fail
  refine (W1.out _).mono ?_
  rintro e w3 ⟨rfl, rfl⟩
  go_wp2_with fail
  refine (W2.out _).mono ?_
  rintro e w3 ⟨rfl, rfl⟩
  go_wp2_with fail
  refine (W3.out _).mono ?_
  rintro e w3 ⟨rfl, rfl⟩
  go_wp2_with fail
  refine (M3.out _).mono ?_
  rintro e w3 ⟨rfl, rfl⟩
  go_wp2_with fail
  refine (J3.out _).mono ?_
  rintro e w3 ⟨rfl, rfl⟩
  go_wp2_with fail
  refine (Cj.out _).mono ?_
  rintro e w3 ⟨rfl, rfl⟩
  go_wp2_with fail
  refine (Cm.out _).mono ?_
  rintro e w3 ⟨rfl, rfl⟩
  go_wp2_with fail
  refine (Ca.out _).mono ?_
  rintro e w3 ⟨rfl, rfl⟩
  go_wp2_with fail
  refine (Cb.out _).mono ?_
  rintro e w3 ⟨rfl, rfl⟩
  go_wp2
  go_ret
  exact ⟨ret_bool (by have := HN.out; simpa using this), q2⟩
end Bt
end Go.Proofs.YtffaogkinhkgdaaDoor
