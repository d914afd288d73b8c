/- Until and Left, of the program and of the document's answer. -/
import Derived.Test.YtbgggekkkcefcabDoorTimes
namespace Go.Proofs.YtbgggekkkcefcabDoor
open Go.RowKit Er
namespace Ck
set_option linter.unusedSimpArgs false
set_option linter.unusedVariables false

/-- May Until answer? -/
def untilB (now life most : Int) : Bool := timeB now && timeB most && decide (1 ≤ life) && decide (life ≤ 1073741824) && decide (now < most)

theorem untilB_iff {now life most : Int} : untilB now life most = true ↔ 0 ≤ now ∧ now ≤ 1099511627776 ∧ 0 ≤ most ∧ most ≤ 1099511627776 ∧ 1 ≤ life ∧ life ≤ 1073741824 ∧ now < most := by
  unfold untilB; simp [timeB_iff, and_assoc]

def untilI (now life most : Int) : Int := min most (now + life)

set_option maxRecDepth 100000 in
theorem until_yes (now life most : Int) (w : World) (h : untilB now life most = true) :
    Calls Tryd.prog 55 #[.int .i64 now, .int .i64 life, .int .i64 most] w fun e w' => e = .returned (.tuple #[.int .i64 (untilI now life most), .nilIface]) ∧ w' = w := by
  obtain ⟨h1, h2, h3, h4, h5, h6, h7⟩ := untilB_iff.1 h
  have t1 : timeB now = true := timeB_iff.2 ⟨h1, h2⟩
  have t2 : timeB most = true := timeB_iff.2 ⟨h3, h4⟩
  have c := isTime_any
  clear h
  unfold untilI
  by_cases hm : most ≤ now + life
  · rw [Int.min_eq_left hm]
    go_enter Tryd.func55, Tryd.ntmps55
    go_wp2_with (go_at_call 67; refine (c _ _).mono ?_; rintro e w1 ⟨rfl, rfl⟩)
    go_ret2
    exact ⟨rfl, rfl⟩
  · rw [Int.min_eq_right (by omega)]
    go_enter Tryd.func55, Tryd.ntmps55
    go_wp2_with (go_at_call 67; refine (c _ _).mono ?_; rintro e w1 ⟨rfl, rfl⟩)
    go_ret2
    exact ⟨rfl, rfl⟩

set_option maxRecDepth 100000 in
theorem until_no (now life most : Int) (w : World) (h : untilB now life most = false) :
    Calls Tryd.prog 55 #[.int .i64 now, .int .i64 life, .int .i64 most] w fun e w' => e = .returned (.tuple #[.int .i64 0, noV 12]) ∧ w' = w := by
  have c := isTime_any
  have h' : ¬ (0 ≤ now ∧ now ≤ 1099511627776 ∧ 0 ≤ most ∧ most ≤ 1099511627776 ∧ 1 ≤ life ∧ life ≤ 1073741824 ∧ now < most) := fun k => by rw [untilB_iff.2 k] at h; cases h
  unfold noV
  clear h
  by_cases h1 : 0 ≤ now ∧ now ≤ 1099511627776
  · have t1 : timeB now = true := timeB_iff.2 h1
    obtain ⟨a1, a2⟩ := h1
    by_cases h2 : 0 ≤ most ∧ most ≤ 1099511627776
    · have t2 : timeB most = true := timeB_iff.2 h2
      obtain ⟨a3, a4⟩ := h2
      by_cases h3 : life < 1
      · clear h'
        go_enter Tryd.func55, Tryd.ntmps55
        go_wp2_with (go_at_call 67; refine (c _ _).mono ?_; rintro e w1 ⟨rfl, rfl⟩)
        go_ret2
        exact ⟨rfl, rfl⟩
      · by_cases h4 : 1073741824 < life
        · clear h'
          go_enter Tryd.func55, Tryd.ntmps55
          go_wp2_with (go_at_call 67; refine (c _ _).mono ?_; rintro e w1 ⟨rfl, rfl⟩)
          go_ret2
          exact ⟨rfl, rfl⟩
        · have h5 : most ≤ now := by omega
          have h6 : most ≤ now + life := by omega
          clear h'
          go_enter Tryd.func55, Tryd.ntmps55
          go_wp2_with (go_at_call 67; refine (c _ _).mono ?_; rintro e w1 ⟨rfl, rfl⟩)
          go_ret2
          exact ⟨rfl, rfl⟩
    · have t2 : timeB most = false := timeB_not.2 h2
      clear h'
      go_enter Tryd.func55, Tryd.ntmps55
      go_wp2_with (go_at_call 67; refine (c _ _).mono ?_; rintro e w1 ⟨rfl, rfl⟩)
      go_ret2
      exact ⟨rfl, rfl⟩
  · have t1 : timeB now = false := timeB_not.2 h1
    clear h'
    go_enter Tryd.func55, Tryd.ntmps55
    go_wp2_with (go_at_call 67; refine (c _ _).mono ?_; rintro e w1 ⟨rfl, rfl⟩)
    go_ret2
    exact ⟨rfl, rfl⟩

set_option maxRecDepth 100000 in
theorem runtil_yes (now life most : Int) (w : World) (h : untilB now life most = true) :
    Calls Tryd.prog 44 #[.int .i64 now, .int .i64 life, .int .i64 most] w fun e w' => e = .returned (.tuple #[.int .i64 (untilI now life most), .int .i64 0]) ∧ w' = w := by
  obtain ⟨h1, h2, h3, h4, h5, h6, h7⟩ := untilB_iff.1 h
  have t1 : timeB now = true := timeB_iff.2 ⟨h1, h2⟩
  have t2 : timeB most = true := timeB_iff.2 ⟨h3, h4⟩
  have c := time_any
  clear h
  unfold untilI
  by_cases hm : now + life ≤ most
  · rw [Int.min_eq_right hm]
    go_enter Tryd.func44, Tryd.ntmps44
    go_wp2_with (go_at_call 61; refine (c _ _).mono ?_; rintro e w1 ⟨rfl, rfl⟩)
    go_ret2
    exact ⟨rfl, rfl⟩
  · rw [Int.min_eq_left (by omega)]
    go_enter Tryd.func44, Tryd.ntmps44
    go_wp2_with (go_at_call 61; refine (c _ _).mono ?_; rintro e w1 ⟨rfl, rfl⟩)
    go_ret2
    exact ⟨rfl, rfl⟩

set_option maxRecDepth 100000 in
theorem runtil_no (now life most : Int) (w : World) (h : untilB now life most = false) :
    Calls Tryd.prog 44 #[.int .i64 now, .int .i64 life, .int .i64 most] w fun e w' => e = .returned (.tuple #[.int .i64 0, .int .i64 12]) ∧ w' = w := by
  have c := time_any
  have h' : ¬ (0 ≤ now ∧ now ≤ 1099511627776 ∧ 0 ≤ most ∧ most ≤ 1099511627776 ∧ 1 ≤ life ∧ life ≤ 1073741824 ∧ now < most) := fun k => by rw [untilB_iff.2 k] at h; cases h
  clear h
  by_cases h1 : 0 ≤ now ∧ now ≤ 1099511627776
  · have t1 : timeB now = true := timeB_iff.2 h1
    obtain ⟨a1, a2⟩ := h1
    by_cases h2 : 0 ≤ most ∧ most ≤ 1099511627776
    · have t2 : timeB most = true := timeB_iff.2 h2
      obtain ⟨a3, a4⟩ := h2
      by_cases h3 : life < 1
      · clear h'
        go_enter Tryd.func44, Tryd.ntmps44
        go_wp2_with (go_at_call 61; refine (c _ _).mono ?_; rintro e w1 ⟨rfl, rfl⟩)
        go_ret2
        exact ⟨rfl, rfl⟩
      · by_cases h4 : 1073741824 < life
        · clear h'
          go_enter Tryd.func44, Tryd.ntmps44
          go_wp2_with (go_at_call 61; refine (c _ _).mono ?_; rintro e w1 ⟨rfl, rfl⟩)
          go_ret2
          exact ⟨rfl, rfl⟩
        · have h5 : most ≤ now := by omega
          have h6 : ¬ now + life ≤ most := by omega
          clear h'
          go_enter Tryd.func44, Tryd.ntmps44
          go_wp2_with (go_at_call 61; refine (c _ _).mono ?_; rintro e w1 ⟨rfl, rfl⟩)
          go_ret2
          exact ⟨rfl, rfl⟩
    · have t2 : timeB most = false := timeB_not.2 h2
      clear h'
      go_enter Tryd.func44, Tryd.ntmps44
      go_wp2_with (go_at_call 61; refine (c _ _).mono ?_; rintro e w1 ⟨rfl, rfl⟩)
      go_ret2
      exact ⟨rfl, rfl⟩
  · have t1 : timeB now = false := timeB_not.2 h1
    clear h'
    go_enter Tryd.func44, Tryd.ntmps44
    go_wp2_with (go_at_call 61; refine (c _ _).mono ?_; rintro e w1 ⟨rfl, rfl⟩)
    go_ret2
    exact ⟨rfl, rfl⟩

end Ck
end Go.Proofs.YtbgggekkkcefcabDoor
