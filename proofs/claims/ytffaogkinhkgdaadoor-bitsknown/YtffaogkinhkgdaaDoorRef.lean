/- The document's answer for sets: Meet, Join, Less, Within, Count, number by number. -/
import Derived.Test.YtffaogkinhkgdaaDoorRefA
import Derived.Test.YtffaogkinhkgdaaDoorBase2
namespace Go.Proofs.YtffaogkinhkgdaaDoor
open Go.RowKit
namespace Bt
set_option linter.unusedSimpArgs false
set_option linter.unusedVariables false

/-- What 'of' asks of a number. -/
def ask (f1 f2 f3 x y : Bool) : Bool := f1 && x && y || f2 && (x || y) || f3 && x && !y

set_option maxHeartbeats 2000000 in
theorem rof_any (a b r : Nat) (f1 f2 f3 : Bool) (w : World) (ha : a < 18446744073709551616) (hb : b < 18446744073709551616) (hr : r < 18446744073709551616)
    (hq : ∀ j, j < 64 → r.testBit j = ask f1 f2 f3 (a.testBit j) (b.testBit j)) :
    Calls Tryd.prog 55 #[st a, st b, .bool f1, .bool f2, .bool f3] w fun e w' => e = .returned (st r) ∧ w' = w := by
  have HQ : Hid (∀ j, j < 64 → r.testBit j = ask f1 f2 f3 (a.testBit j) (b.testBit j)) := hq
  clear hq
  go_enter Tryd.func55, Tryd.ntmps55
  go_wp2
  go_loopw [11, 12] (fun sv i wr => ∃ s k : Nat, k ≤ 64 ∧ i = nu k ∧ sv = st s ∧ s < 18446744073709551616 ∧ Hid (wr = w) ∧ Hid (∀ j, s.testBit j = (decide (j < k) && r.testBit j))) (fun _ i _ => 64 - (intOf i).toNat)
  case atStart => exact ⟨0, 0, by omega, rfl, rfl, by decide, rfl, fun j => by simp⟩
  case round =>
    obtain ⟨s, k, hk, rfl, rfl, hs, hwr, hok⟩ := hrel
    by_cases hp : k < 64
    · have c1 := rhas_any a k wr ha
      have c2 := rhas_any b k wr hb
      rw [has_nat a k hp] at c1
      rw [has_nat b k hp] at c2
      have hqk := HQ.out k hp
      have kp := pow_wrap k hp
      have ko := u64_or_nat s (pw k) hs (pow_lt k hp)
      have hs2 := or_lt s k hs hp
      have yes : r.testBit k = true → Hid (∀ j, (s ||| pw k).testBit j = (decide (j < k + 1) && r.testBit j)) := fun e j => by
        rw [or_bit, hok.out j]
        by_cases h : k = j
        · subst h; simp [e]
        · have : (decide (j < k + 1)) = decide (j < k) := by rw [Bool.eq_iff_iff]; simp; omega
          rw [this]; simp [h]
      have no : r.testBit k = false → Hid (∀ j, s.testBit j = (decide (j < k + 1) && r.testBit j)) := fun e j => by
        rw [hok.out j]
        by_cases h : k = j
        · subst h; simp [e]
        · have : (decide (j < k + 1)) = decide (j < k) := by rw [Bool.eq_iff_iff]; simp; omega
          rw [this]
      clear hok HQ
      generalize a.testBit k = x at *
      generalize b.testBit k = y at *
      cases f1 <;> cases f2 <;> cases f3 <;> cases x <;> cases y <;>
        first
        | (have e : r.testBit k = true := hqk
           have hn := yes e
           clear yes no hqk e
           go_wp2_with fail
           refine c1.mono ?_
           rintro e w1 ⟨rfl, rfl⟩
           go_wp2_with fail
           refine c2.mono ?_
           rintro e w1 ⟨rfl, rfl⟩
           go_wp2_with (simp only [kp, ko])
           go_roundw
           case rel => exact ⟨s ||| pw k, k + 1, by omega, by go_num, rfl, hs2, hwr, hn⟩
           case measure => simp [intOf]; omega)
        | (have e : r.testBit k = false := hqk
           have hn := no e
           clear yes no hqk e
           go_wp2_with fail
           refine c1.mono ?_
           rintro e w1 ⟨rfl, rfl⟩
           go_wp2_with fail
           refine c2.mono ?_
           rintro e w1 ⟨rfl, rfl⟩
           go_wp2
           go_roundw
           case rel => exact ⟨s, k + 1, by omega, by go_num, rfl, hs, hwr, hn⟩
           case measure => simp [intOf]; omega)
    · have : s = r := Nat.eq_of_testBit_eq fun j => by
        rw [hok.out j]
        by_cases h : j < k
        · simp [h]
        · rw [bit_high hr (by omega)]; simp
      subst this
      clear hok HQ
      go_wp2
      go_ret
      exact ⟨rfl, hwr.out⟩

theorem rmeet_any (a b : Nat) (w : World) (ha : a < 18446744073709551616) (hb : b < 18446744073709551616) :
    Calls Tryd.prog 41 #[st a, st b] w fun e w' => e = .returned (st (a &&& b)) ∧ w' = w := by
  have c := rof_any a b (a &&& b) true false false w ha hb (and_lt ha) (fun j _ => by rw [Nat.testBit_and]; simp [ask])
  go_enter Tryd.func41, Tryd.ntmps41
  go_wp2_with fail
  refine c.mono ?_
  rintro e w1 ⟨rfl, rfl⟩
  go_wp2
  go_ret
  exact ⟨rfl, rfl⟩
theorem rjoin_any (a b : Nat) (w : World) (ha : a < 18446744073709551616) (hb : b < 18446744073709551616) :
    Calls Tryd.prog 42 #[st a, st b] w fun e w' => e = .returned (st (a ||| b)) ∧ w' = w := by
  have c := rof_any a b (a ||| b) false true false w ha hb (or_lt2 ha hb) (fun j _ => by rw [Nat.testBit_or]; simp [ask])
  go_enter Tryd.func42, Tryd.ntmps42
  go_wp2_with fail
  refine c.mono ?_
  rintro e w1 ⟨rfl, rfl⟩
  go_wp2
  go_ret
  exact ⟨rfl, rfl⟩
theorem rless_any (a b : Nat) (w : World) (ha : a < 18446744073709551616) (hb : b < 18446744073709551616) :
    Calls Tryd.prog 43 #[st a, st b] w fun e w' => e = .returned (st (less a b)) ∧ w' = w := by
  have c := rof_any a b (less a b) false false true w ha hb (less_lt ha) (fun j _ => by rw [less_bit j ha hb]; simp [ask])
  go_enter Tryd.func43, Tryd.ntmps43
  go_wp2_with fail
  refine c.mono ?_
  rintro e w1 ⟨rfl, rfl⟩
  go_wp2
  go_ret
  exact ⟨rfl, rfl⟩

theorem rwithin_any (a b : Nat) (w : World) (ha : a < 18446744073709551616) (hb : b < 18446744073709551616) :
    Calls Tryd.prog 45 #[st a, st b] w fun e w' => e = .returned (.bool (less a b == 0)) ∧ w' = w := by
  have yes : Hid ((∀ j, j < 64 → a.testBit j = true → b.testBit j = true) → (less a b == 0) = true) := fun h => by
    rw [beq_iff_eq, less_zero ha hb]
    intro j hj
    by_cases h64 : j < 64
    · exact h j h64 hj
    · rw [bit_high ha (by omega)] at hj; cases hj
  have no : Hid (∀ j, a.testBit j = true → b.testBit j = false → (less a b == 0) = false) := fun j h1 h2 => by
    rw [beq_eq_false_iff_ne, ne_eq, less_zero ha hb]
    intro h
    rw [h j h1] at h2; cases h2
  go_enter Tryd.func45, Tryd.ntmps45
  go_wp2
  go_loopw [5] (fun i wr => ∃ k : Nat, k ≤ 64 ∧ i = nu k ∧ Hid (wr = w) ∧ Hid (∀ j, j < k → a.testBit j = true → b.testBit j = true)) (fun i _ => 64 - (intOf i).toNat)
  case atStart => exact ⟨0, by omega, rfl, rfl, fun j h => by omega⟩
  case round =>
    obtain ⟨k, hk, rfl, hwr, hok⟩ := hrel
    by_cases hp : k < 64
    · have c1 := rhas_any a k wr ha
      have c2 := rhas_any b k wr hb
      rw [has_nat a k hp] at c1
      rw [has_nat b k hp] at c2
      cases hx : a.testBit k with
      | false =>
        rw [hx] at c1
        have hn : Hid (∀ j, j < k + 1 → a.testBit j = true → b.testBit j = true) := fun j h1 h2 => by
          rcases Nat.lt_or_ge j k with h' | h'
          · exact hok.out j h' h2
          · have : j = k := by omega
            subst this; rw [hx] at h2; cases h2
        clear hok hx
        go_wp2_with fail
        refine c1.mono ?_
        rintro e w1 ⟨rfl, rfl⟩
        go_wp2
        go_roundw
        case rel => exact ⟨k + 1, by omega, by go_num, hwr, hn⟩
        case measure => simp [intOf]; omega
      | true =>
        rw [hx] at c1
        cases hy : b.testBit k with
        | true =>
          rw [hy] at c2
          have hn : Hid (∀ j, j < k + 1 → a.testBit j = true → b.testBit j = true) := fun j h1 h2 => by
            rcases Nat.lt_or_ge j k with h' | h'
            · exact hok.out j h' h2
            · have : j = k := by omega
              subst this; exact hy
          clear hok hx hy
          go_wp2_with fail
          refine c1.mono ?_
          rintro e w1 ⟨rfl, rfl⟩
          go_wp2_with fail
          refine c2.mono ?_
          rintro e w1 ⟨rfl, rfl⟩
          go_wp2
          go_roundw
          case rel => exact ⟨k + 1, by omega, by go_num, hwr, hn⟩
          case measure => simp [intOf]; omega
        | false =>
          rw [hy] at c2
          have hn : Hid ((less a b == 0) = false) := no.out k hx hy
          clear hok hx hy
          go_wp2_with fail
          refine c1.mono ?_
          rintro e w1 ⟨rfl, rfl⟩
          go_wp2_with fail
          refine c2.mono ?_
          rintro e w1 ⟨rfl, rfl⟩
          go_wp2
          go_ret
          exact ⟨ret_bool hn.out.symm, hwr.out⟩
    · have hn : Hid ((less a b == 0) = true) := yes.out (fun j h => hok.out j (by omega))
      clear hok
      go_wp2
      go_ret
      exact ⟨ret_bool hn.out.symm, hwr.out⟩
theorem rcount_any (s : Nat) (w : World) (hs : s < 18446744073709551616) :
    Calls Tryd.prog 46 #[st s] w fun e w' => e = .returned (nu (ones s 64 : Nat)) ∧ Below w.heap.size w w' := by
  have c := rall_any s w hs
  go_enter Tryd.func46, Tryd.ntmps46
  go_wp2_with fail
  refine c.mono ?_
  rintro e w1 ⟨v, rfl, hown, hb⟩
  obtain ⟨a, cap, rfl, hcap, hmax, _⟩ := ownI_slice hown
  unfold maxLen at hmax
  rw [numsTo_len] at hcap ⊢
  go_wp2
  go_ret
  exact ⟨rfl, hb⟩
end Bt
end Go.Proofs.YtffaogkinhkgdaaDoor
