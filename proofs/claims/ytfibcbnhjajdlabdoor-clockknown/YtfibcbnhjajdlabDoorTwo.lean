/- The walks of ClockAfter and ClockUntil. -/
import Derived.Test.YtfibcbnhjajdlabDoorUntil
import Derived.Test.YtfibcbnhjajdlabDoorPlace
namespace Go.Proofs.YtfibcbnhjajdlabDoor
open Go.RowKit Er
namespace Ck
set_option linter.unusedSimpArgs false
set_option linter.unusedVariables false

theorem plain_same (n : Nat) (m : Int) (hm : (n : Int) = m) (h1 : 1 ≤ n) (h2 : n ≤ 24) (w : World) (hg : Handle w) :
    Calls Tryd.prog 19 #[noV m, .int .i64 m] w fun e w' => e = .returned (.bool true) ∧ Below w.heap.size w w' := by
  subst hm
  have := plain_no n n h1 h2 w hg
  rw [decide_eq_true rfl] at this
  exact this

theorem plain_ok (w : World) :
    Calls Tryd.prog 19 #[.nilIface, .int .i64 0] w fun e w' => e = .returned (.bool true) ∧ Below w.heap.size w w' := by
  have := plain_nil 0 w
  rw [decide_eq_true rfl] at this
  exact this

set_option maxRecDepth 100000 in
theorem clockAfter_walk (now ticks : Int) (w : World) (ha : -9223372036854775808 ≤ now ∧ now ≤ 9223372036854775807) (hb : -9223372036854775808 ≤ ticks ∧ ticks ≤ 9223372036854775807) (hE : Handle w) :
    Calls Tryd.prog 16 #[.int .i64 now, .int .i64 ticks] w fun e w' => e = .returned (.bool true) ∧ Below w.heap.size w w' := by
  have cl : Hid (∀ w1, Calls Tryd.prog 9 #[.int .i64 now, .int .i64 ticks] w1 fun e w' => e = .returned (.int .i64 (leftI now ticks)) ∧ w' = w1) := fun w1 => left_any now ticks w1 ha hb
  have cr : Hid (∀ w1, Calls Tryd.prog 29 #[.int .i64 now, .int .i64 ticks] w1 fun e w' => e = .returned (.int .i64 (leftI now ticks)) ∧ w' = w1) := fun w1 => rleft_any now ticks w1 ha hb
  cases h : afterB now ticks with
  | true =>
    have c1 := after_yes now ticks w h
    have c2 := rafter_yes now ticks w h
    have c3 := plain_ok w
    obtain ⟨h1, h2, h3, h4, h5⟩ := afterB_iff.1 h
    clear h
    go_enter Tryd.func16, Tryd.ntmps16
    go_wp2_with (first | (go_at_call 8; refine c1.mono ?_; rintro e w1 ⟨rfl, rfl⟩) | (go_at_call 28; refine c2.mono ?_; rintro e w1 ⟨rfl, rfl⟩) | (go_at_call 19; refine c3.mono ?_; rintro e w1 ⟨rfl, hB⟩) | (go_at_call 9; refine (cl.out _).mono ?_; rintro e w2 ⟨rfl, rfl⟩) | (go_at_call 29; refine (cr.out _).mono ?_; rintro e w2 ⟨rfl, rfl⟩))
    go_ret
    exact ⟨ret_bool (by simp), hB⟩
  | false =>
    have c1 := after_no now ticks w h
    have c2 := rafter_no now ticks w h
    have c3 := plain_same 12 12 rfl (by omega) (by omega) w hE
    unfold noV at c1 c3
    clear h
    go_enter Tryd.func16, Tryd.ntmps16
    go_wp2_with (first | (go_at_call 8; refine c1.mono ?_; rintro e w1 ⟨rfl, rfl⟩) | (go_at_call 28; refine c2.mono ?_; rintro e w1 ⟨rfl, rfl⟩) | (go_at_call 19; refine c3.mono ?_; rintro e w1 ⟨rfl, hB⟩) | (go_at_call 9; refine (cl.out _).mono ?_; rintro e w2 ⟨rfl, rfl⟩) | (go_at_call 29; refine (cr.out _).mono ?_; rintro e w2 ⟨rfl, rfl⟩))
    go_ret
    exact ⟨ret_bool (by simp), hB⟩

set_option maxRecDepth 100000 in
theorem clockUntil_walk (now life most : Int) (w : World) (ha : -9223372036854775808 ≤ now ∧ now ≤ 9223372036854775807) (hb : -9223372036854775808 ≤ life ∧ life ≤ 9223372036854775807) (hc : -9223372036854775808 ≤ most ∧ most ≤ 9223372036854775807) (hE : Handle w) :
    Calls Tryd.prog 17 #[.int .i64 now, .int .i64 life, .int .i64 most] w fun e w' => e = .returned (.bool true) ∧ Below w.heap.size w w' := by
  cases h : untilB now life most with
  | true =>
    have c1 := until_yes now life most w h
    have c2 := runtil_yes now life most w h
    have c3 := plain_ok w
    clear h
    go_enter Tryd.func17, Tryd.ntmps17
    go_wp2_with (first | (go_at_call 6; refine c1.mono ?_; rintro e w1 ⟨rfl, rfl⟩) | (go_at_call 30; refine c2.mono ?_; rintro e w1 ⟨rfl, rfl⟩) | (go_at_call 19; refine c3.mono ?_; rintro e w1 ⟨rfl, hB⟩))
    go_ret
    exact ⟨ret_bool (by simp), hB⟩
  | false =>
    have c1 := until_no now life most w h
    have c2 := runtil_no now life most w h
    have c3 := plain_same 12 12 rfl (by omega) (by omega) w hE
    unfold noV at c1 c3
    clear h
    go_enter Tryd.func17, Tryd.ntmps17
    go_wp2_with (first | (go_at_call 6; refine c1.mono ?_; rintro e w1 ⟨rfl, rfl⟩) | (go_at_call 30; refine c2.mono ?_; rintro e w1 ⟨rfl, rfl⟩) | (go_at_call 19; refine c3.mono ?_; rintro e w1 ⟨rfl, hB⟩))
    go_ret
    exact ⟨ret_bool (by simp), hB⟩
end Ck
end Go.Proofs.YtfibcbnhjajdlabDoor
