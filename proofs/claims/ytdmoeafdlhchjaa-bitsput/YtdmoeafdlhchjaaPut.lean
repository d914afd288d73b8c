/- BitsPut answers true: a number that is put in is there, one that is put out isn't, others stay. -/
import Derived.Test.YtdmoeafdlhchjaaPick
import Derived.Test.YtdmoeafdlhchjaaOf
import Derived.Test.YtdmoeafdlhchjaaSets
namespace Go.Proofs.Ytdmoeafdlhchjaa
open Go.RowKit
namespace Bt
set_option linter.unusedSimpArgs false
set_option linter.unusedVariables false

theorem put_bit (s i j : Nat) (on : Bool) (hs : s < 18446744073709551616) (hi : i < 64) :
    (if on then s ||| pw i else less s (pw i)).testBit j = (if i = j then on else s.testBit j) := by
  cases on with
  | true =>
    simp only [if_true]
    rw [Nat.testBit_or]; unfold pw; rw [Nat.testBit_two_pow]
    by_cases h : i = j
    · simp [h]
    · simp [h]
  | false =>
    simp only [Bool.false_eq_true, if_false]
    rw [less_bit j hs (pow_lt i hi)]; unfold pw; rw [Nat.testBit_two_pow]
    by_cases h : i = j
    · simp [h]
    · simp [h]
theorem put_lt (s i : Nat) (on : Bool) (hs : s < 18446744073709551616) (hi : i < 64) : (if on then s ||| pw i else less s (pw i)) < 18446744073709551616 := by
  cases on
  · exact less_lt hs
  · exact or_lt s i hs hi

set_option maxRecDepth 1000000 in
set_option maxHeartbeats 4000000 in
theorem bitsPut_walk (s : Nat) (i k : Int) (on : Bool) (w : World) (hs : s < 18446744073709551616) (hi : -9223372036854775808 ≤ i ∧ i ≤ 9223372036854775807) (hk : -9223372036854775808 ≤ k ∧ k ≤ 9223372036854775807) :
    Calls Try.prog 5 #[st s, nu i, .agg #[nu k, .bool on]] w fun e w' => e = .returned (.bool true) ∧ Below w.heap.size w w' := by
  have p1 : Hid (∀ w, Calls Try.prog 17 #[nu i, nu 64] w fun e w' => e = .returned (nu (i % 64)) ∧ w' = w) := fun w => pick_any i 64 w (by omega) (by omega) hi
  have p2 : Hid (∀ w, Calls Try.prog 17 #[nu k, nu 64] w fun e w' => e = .returned (nu (k % 64)) ∧ w' = w) := fun w => pick_any k 64 w (by omega) (by omega) hk
  obtain ⟨n, hn⟩ : ∃ n : Nat, i % 64 = n := ⟨(i % 64).toNat, by omega⟩
  obtain ⟨m, hm⟩ : ∃ m : Nat, k % 64 = m := ⟨(k % 64).toNat, by omega⟩
  have hn2 : n < 64 := by omega
  have hm2 : m < 64 := by omega
  rw [hn] at p1
  rw [hm] at p2
  clear hn hm
  obtain ⟨t, ht⟩ : ∃ t, t = (if on then s ||| pw n else less s (pw n)) := ⟨_, rfl⟩
  have lt : t < 18446744073709551616 := ht ▸ put_lt s n on hs hn2
  have cp : Hid (∀ w, Calls Try.prog 18 #[st s, nu n, .bool on] w fun e w' => e = .returned (.tuple #[st t, .nilIface]) ∧ w' = w) := fun w => by
    have c := put_any s n on w hs
    rw [if_pos (by omega)] at c
    rw [ht]; exact c
  have cw : Hid (∀ w, Calls Try.prog 16 #[] w fun e w' => e = .returned (.bool true) ∧ Below w.heap.size w w') := fun w => works_any w
  have h1 : Hid (∀ w, Calls Try.prog 19 #[st t, nu n] w fun e w' => e = .returned (.bool on) ∧ w' = w) := fun w => by
    have c := has_any t n w lt
    rw [show hasB t (n : Int) = t.testBit n by simp [hasB]; omega, ht, put_bit s n n on hs hn2, if_pos rfl] at c
    rw [ht]; exact c
  have h2 : Hid (∀ w, Calls Try.prog 19 #[st s, nu m] w fun e w' => e = .returned (.bool (s.testBit m)) ∧ w' = w) := fun w => by
    have c := has_any s m w hs
    rw [show hasB s (m : Int) = s.testBit m by simp [hasB]; omega] at c
    exact c
  have h3 : Hid (n ≠ m → ∀ w, Calls Try.prog 19 #[st t, nu m] w fun e w' => e = .returned (.bool (s.testBit m)) ∧ w' = w) := fun hne w => by
    have c := has_any t m w lt
    rw [show hasB t (m : Int) = t.testBit m by simp [hasB]; omega, ht, put_bit s n m on hs hn2, if_neg hne] at c
    rw [ht]; exact c
  clear ht
  generalize s.testBit m = q at *
  go_enter Try.func5, Try.ntmps5
  go_wp2_with fail
  refine (p1.out _).mono ?_
  rintro e w1 ⟨rfl, rfl⟩
  go_wp2_with fail
  refine (p2.out _).mono ?_
  rintro e w1 ⟨rfl, rfl⟩
  go_wp2_with fail
  refine (cp.out _).mono ?_
  rintro e w1 ⟨rfl, rfl⟩
  have hc : (w.alloc (.cells #[nu k, .bool on] 29)).cell? ⟨w.heap.size, 1, none⟩ = some (.bool on) := by simp
  have CW : Hid (Calls Try.prog 16 #[] (w.alloc (.cells #[nu k, .bool on] 29)).drew fun e w' => e = .returned (.bool true) ∧ w'.cell? ⟨w.heap.size, 1, none⟩ = some (.bool on) ∧ Below w.heap.size w w') := by
    refine (cw.out _).mono ?_
    rintro e w2 ⟨rfl, q2⟩
    refine ⟨rfl, (q2.cell (p := ⟨w.heap.size, 1, none⟩) (by simp)).trans hc, ?_⟩
    exact (((Below.refl w.heap.size w).alloc (Nat.le_refl _) _).drew).trans (q2.mono (by simp))
  go_upto_region 4 with fail
  go_cut [37] from 24 (fun r wr => r = .bool false ∧ Below w.heap.size w wr)
  case first =>
   clear p1 p2 cp cw h2 h3 hc
   go_wp2_with fail
   go_region_held3 (fun w' => w'.cell? ⟨w.heap.size, 1, none⟩ = some (.bool on)) (first | assumption | go_keep) (first | (go_at_call 16; refine CW.out.mono ?_; rintro e w2 ⟨rfl, q2, q3⟩) | (go_at_call 19; refine (h1.out _).mono ?_; rintro e w3 ⟨rfl, rfl⟩))
   all_goals (go_wp2_with fail; go_meet; exact ⟨rfl, q3⟩)
  case rest =>
   obtain ⟨rfl, hb⟩ := hcut
   by_cases hnm : n = m
   · subst hnm
     go_wp2
     go_ret
     exact ⟨rfl, hb⟩
   · have hd : ((m : Int) == (n : Int)) = false := by rw [beq_eq_false_iff_ne]; omega
     go_wp2_with fail
     refine (h3.out hnm _).mono ?_
     rintro e w3 ⟨rfl, rfl⟩
     go_wp2_with fail
     refine (h2.out _).mono ?_
     rintro e w3 ⟨rfl, rfl⟩
     go_wp2
     go_ret
     exact ⟨rfl, hb⟩
end Bt
end Go.Proofs.Ytdmoeafdlhchjaa
