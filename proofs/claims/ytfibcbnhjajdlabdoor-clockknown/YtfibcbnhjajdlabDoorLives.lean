/- The walks of ClockLives and ClockLeft. -/
import Derived.Test.YtfibcbnhjajdlabDoorThere
namespace Go.Proofs.YtfibcbnhjajdlabDoor
set_option linter.ambiguousOpen false
open Go.RowKit Er Nm
namespace Ck
set_option linter.unusedSimpArgs false
set_option linter.unusedVariables false

theorem until_facts {now life most : Int} (h : untilB now life most = true) : now < untilI now life most ∧ untilI now life most ≤ most ∧ untilI now life most - now ≤ life := by
  obtain ⟨h1, h2, h3, h4, h5, h6, h7⟩ := untilB_iff.1 h
  unfold untilI
  omega

set_option maxRecDepth 100000 in
set_option maxHeartbeats 1000000 in
theorem clockLives_walk (now life most : Int) (w : World) (ha : -9223372036854775808 ≤ now ∧ now ≤ 9223372036854775807) (hb : -9223372036854775808 ≤ life ∧ life ≤ 9223372036854775807) (hc : -9223372036854775808 ≤ most ∧ most ≤ 9223372036854775807) (hU : Units w) (hP : Pow w) :
    Calls Tryd.prog 3 #[.int .i64 now, .int .i64 life, .int .i64 most] w fun e w' => e = .returned (.bool true) ∧ Below w.heap.size w w' := by
  have cW := works_c w hU hP
  clear hU hP
  cases h : untilB now life most with
  | false =>
    have c1 := until_no now life most w h
    unfold noV at c1
    clear h
    go_enter Tryd.func3, Tryd.ntmps3
    go_wp2_with fail
    refine c1.mono ?_
    rintro e w1 ⟨rfl, hq⟩
    subst w1
    go_wp2_with fail
    refine cW.mono ?_
    rintro e w2 ⟨rfl, hB⟩
    go_wp2
    go_ret
    exact ⟨rfl, hB⟩
  | true =>
    have c1 := until_yes now life most w h
    obtain ⟨f1, f2, f3⟩ := until_facts h
    obtain ⟨h1, h2, h3, h4, h5, h6, h7⟩ := untilB_iff.1 h
    have HD : Hid (untilI now life most = min most (now + life)) := rfl
    clear h
    obtain ⟨d, hd⟩ : ∃ d, untilI now life most = d := ⟨_, rfl⟩
    rw [hd] at c1 f1 f2 f3 HD
    clear hd
    by_cases hm : life = 1073741824
    · subst hm
      go_enter Tryd.func3, Tryd.ntmps3
      go_wp2_with fail
      refine c1.mono ?_
      rintro e w1 ⟨rfl, hq⟩
      subst w1
      go_wp2_with fail
      refine cW.mono ?_
      rintro e w2 ⟨rfl, hB⟩
      go_wp2
      go_ret
      exact ⟨rfl, hB⟩
    · have hmb : (life == 1073741824) = false := by rw [beq_eq_false_iff_ne]; exact hm
      have hl1 : life + 1 ≤ 1073741824 := by omega
      have hu : untilB now (life + 1) most = true := untilB_iff.2 ⟨h1, h2, h3, h4, by omega, hl1, h7⟩
      have c2 : Hid (∀ w1, Calls Tryd.prog 6 #[.int .i64 now, .int .i64 (life + 1), .int .i64 most] w1 fun e w' => e = .returned (.tuple #[.int .i64 (untilI now (life + 1) most), .nilIface]) ∧ w' = w1) := fun w1 => until_yes now (life + 1) most w1 hu
      have g1 : d ≤ untilI now (life + 1) most := by rw [HD.out]; unfold untilI; omega
      have g2 : untilI now (life + 1) most ≤ d + 1 := by rw [HD.out]; unfold untilI; omega
      clear hu hm
      obtain ⟨c, hcd⟩ : ∃ c, untilI now (life + 1) most = c := ⟨_, rfl⟩
      rw [hcd] at c2 g1 g2
      clear hcd
      go_enter Tryd.func3, Tryd.ntmps3
      go_wp2_with fail
      refine c1.mono ?_
      rintro e w1 ⟨rfl, hq⟩
      subst w1
      go_wp2_with fail
      refine cW.mono ?_
      rintro e w2 ⟨rfl, hB⟩
      go_wp2_with fail
      refine (c2.out _).mono ?_
      rintro e w3 ⟨rfl, hq⟩
      subst w3
      go_wp2
      go_ret
      exact ⟨ret_bool (by simp [g1, g2]), hB⟩

set_option maxRecDepth 100000 in
set_option maxHeartbeats 1000000 in
theorem clockLeft_walk (now ticks : Int) (w : World) (ha : -9223372036854775808 ≤ now ∧ now ≤ 9223372036854775807) (hb : -9223372036854775808 ≤ ticks ∧ ticks ≤ 9223372036854775807) (hU : Units w) (hP : Pow w) :
    Calls Tryd.prog 4 #[.int .i64 now, .int .i64 ticks] w fun e w' => e = .returned (.bool true) ∧ Below w.heap.size w w' := by
  have cW : Hid (∀ w1, Below w.heap.size w w1 → Calls Tryd.prog 7 #[] w1 fun e w' => e = .returned (.bool true) ∧ Below w1.heap.size w1 w') := fun w1 h => works_c w1 (hU.below h) (hP.below h)
  clear hU hP
  cases h : afterB now ticks with
  | false =>
    have c1 := after_no now ticks w h
    unfold noV at c1
    clear h
    go_enter Tryd.func4, Tryd.ntmps4
    go_wp2_with fail
    refine c1.mono ?_
    rintro e w1 ⟨rfl, hq⟩
    subst w1
    go_wp2_with fail
    refine (cW.out _ (Below.refl _ _)).mono ?_
    rintro e w2 ⟨rfl, hB2⟩
    go_wp2_with fail
    refine (cW.out _ hB2).mono ?_
    rintro e w3 ⟨rfl, hB⟩
    have hB3 := hB2.trans (hB.mono hB2.size)
    go_wp2
    go_ret
    exact ⟨rfl, hB3⟩
  | true =>
    have c1 := after_yes now ticks w h
    obtain ⟨h1, h2, h3, h4, h5⟩ := afterB_iff.1 h
    clear h
    obtain ⟨t, ht⟩ : ∃ t, now + ticks = t := ⟨_, rfl⟩
    have c2 : Hid (∀ w1, Calls Tryd.prog 9 #[.int .i64 now, .int .i64 t] w1 fun e w' => e = .returned (.int .i64 ticks) ∧ w' = w1) := fun w1 => by
      have := left_any now t w1 (by omega) (by omega)
      have e : leftI now t = ticks := by unfold leftI; split <;> omega
      rw [e] at this
      exact this
    have c3 : Hid (∀ w1, Calls Tryd.prog 9 #[.int .i64 t, .int .i64 now] w1 fun e w' => e = .returned (.int .i64 0) ∧ w' = w1) := fun w1 => by
      have := left_any t now w1 (by omega) (by omega)
      have e : leftI t now = 0 := by unfold leftI; rw [if_pos (by omega)]
      rw [e] at this
      exact this
    rw [ht] at c1 h5
    have h6 : now ≤ t := by omega
    clear ht
    go_enter Tryd.func4, Tryd.ntmps4
    go_wp2_with fail
    refine c1.mono ?_
    rintro e w1 ⟨rfl, hq⟩
    subst w1
    go_wp2_with fail
    refine (cW.out _ (Below.refl _ _)).mono ?_
    rintro e w2 ⟨rfl, hB2⟩
    go_wp2_with fail
    refine (c2.out _).mono ?_
    rintro e w3 ⟨rfl, hq⟩
    subst w3
    go_wp2_with fail
    refine (c3.out _).mono ?_
    rintro e w4 ⟨rfl, hq⟩
    subst w4
    go_wp2
    go_ret
    exact ⟨ret_bool (by simp), hB2⟩
end Ck
end Go.Proofs.YtfibcbnhjajdlabDoor
