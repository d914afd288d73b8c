/- Plain facts on sets of numbers as numbers of 64 bits. No program is named here. -/
import Derived.Test.YtbgggekkkcefcabDoorBase
namespace Go.Proofs.YtbgggekkkcefcabDoor
namespace Bt

theorem bit_high {a i : Nat} (ha : a < 18446744073709551616) (hi : 64 ≤ i) : a.testBit i = false :=
  Nat.testBit_lt_two_pow (Nat.lt_of_lt_of_le ha (Nat.pow_le_pow_right (by decide : 0 < 2) hi))

theorem less_bit {a b : Nat} (i : Nat) (ha : a < 18446744073709551616) (hb : b < 18446744073709551616) : (less a b).testBit i = (a.testBit i && !b.testBit i) := by
  unfold less
  rw [Nat.testBit_and, show 18446744073709551615 - b = 2 ^ 64 - (b + 1) by omega, Nat.testBit_two_pow_sub_succ (by omega)]
  by_cases h : i < 64
  · simp [h]
  · rw [bit_high ha (by omega)]; simp

theorem less_lt {a b : Nat} (ha : a < 18446744073709551616) : less a b < 18446744073709551616 := Nat.lt_of_le_of_lt Nat.and_le_left ha

theorem and_lt {a b : Nat} (ha : a < 18446744073709551616) : a &&& b < 18446744073709551616 := Nat.lt_of_le_of_lt Nat.and_le_left ha

theorem or_lt2 {a b : Nat} (ha : a < 18446744073709551616) (hb : b < 18446744073709551616) : a ||| b < 18446744073709551616 := Nat.or_lt_two_pow (n := 64) ha hb

theorem less_zero {a b : Nat} (ha : a < 18446744073709551616) (hb : b < 18446744073709551616) : less a b = 0 ↔ ∀ i, a.testBit i = true → b.testBit i = true := by
  constructor
  · intro h i hi
    have := less_bit i ha hb
    rw [h, hi] at this
    simpa using this.symm
  · intro h
    refine Nat.eq_of_testBit_eq fun i => ?_
    rw [less_bit i ha hb]
    have := h i
    cases h1 : a.testBit i <;> cases h2 : b.testBit i <;> simp_all

theorem sub_and {a b : Nat} : a &&& b = a ↔ ∀ i, a.testBit i = true → b.testBit i = true := by
  constructor
  · intro h i hi
    rw [← h, Nat.testBit_and] at hi
    simp at hi; exact hi.2
  · intro h
    refine Nat.eq_of_testBit_eq fun i => ?_
    rw [Nat.testBit_and]
    have := h i
    cases h1 : a.testBit i <;> simp_all

theorem sub_or {a b : Nat} : a ||| b = b ↔ ∀ i, a.testBit i = true → b.testBit i = true := by
  constructor
  · intro h i hi
    rw [← h, Nat.testBit_or, hi]; rfl
  · intro h
    refine Nat.eq_of_testBit_eq fun i => ?_
    rw [Nat.testBit_or]
    have := h i
    cases h1 : a.testBit i <;> simp_all

theorem less_meet {a b : Nat} (ha : a < 18446744073709551616) (hb : b < 18446744073709551616) : less a b &&& (a &&& b) = 0 := by
  refine Nat.eq_of_testBit_eq fun i => ?_
  rw [Nat.testBit_and, less_bit i ha hb, Nat.testBit_and]
  cases a.testBit i <;> cases b.testBit i <;> simp

theorem less_join {a b : Nat} (ha : a < 18446744073709551616) (hb : b < 18446744073709551616) : less a b ||| (a &&& b) = a := by
  refine Nat.eq_of_testBit_eq fun i => ?_
  rw [Nat.testBit_or, less_bit i ha hb, Nat.testBit_and]
  cases a.testBit i <;> cases b.testBit i <;> simp

theorem less_meet_self {a b : Nat} (ha : a < 18446744073709551616) : less (a &&& b) a = 0 :=
  (less_zero (and_lt ha) ha).2 fun i h => by rw [Nat.testBit_and] at h; simp at h; exact h.1

theorem less_self_join {a b : Nat} (ha : a < 18446744073709551616) (hb : b < 18446744073709551616) : less a (a ||| b) = 0 :=
  (less_zero ha (or_lt2 ha hb)).2 fun i h => by rw [Nat.testBit_or, h]; rfl

theorem ones_two (a b : Nat) : ∀ l : List Nat, l.countP (fun i => (a ||| b).testBit i) + l.countP (fun i => (a &&& b).testBit i) = l.countP (fun i => a.testBit i) + l.countP (fun i => b.testBit i)
  | [] => rfl
  | i :: l => by
    have ih := ones_two a b l
    simp only [List.countP_cons, Nat.testBit_or, Nat.testBit_and] at ih ⊢
    cases a.testBit i <;> cases b.testBit i <;> simp <;> omega

theorem ones_both (a b : Nat) : ones (a ||| b) 64 + ones (a &&& b) 64 = ones a 64 + ones b 64 := ones_two a b _

theorem ones_le (a : Nat) : ones a 64 ≤ 64 := by
  have := List.countP_le_length (p := fun i => a.testBit i) (l := List.range 64)
  simpa [ones] using this
end Bt
end Go.Proofs.YtbgggekkkcefcabDoor
