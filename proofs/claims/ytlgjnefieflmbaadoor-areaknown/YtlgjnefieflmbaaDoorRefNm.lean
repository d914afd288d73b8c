/- The document's number at the beginning of some bytes. -/
import Derived.Test.YtlgjnefieflmbaaDoorAppS
namespace Go.Proofs.YtlgjnefieflmbaaDoor
set_option linter.ambiguousOpen false
open Go.RowKit
namespace Pk
open Sm
set_option linter.unusedSimpArgs false
set_option linter.unusedVariables false

theorem and127b (n : Nat) (h : n < 256) : bits .and .u8 (n : Int) 127 = ((n % 128 : Nat) : Int) := by
  have e := u8_and_nat n 127 h (by omega)
  rw [show (127 : Nat) = 2 ^ 7 - 1 from rfl, Nat.and_two_pow_sub_one_eq_mod] at e
  exact e

theorem pow27 (k : Nat) : (2 : Nat) ^ (7 * k) = 128 ^ k := by rw [Nat.pow_mul]

/-- Seven bits more. -/
theorem or_more (u y k : Nat) (hu : u < 128 ^ k) (hy : y < 128) (h64 : u + y * 128 ^ k < 18446744073709551616) : bits .or .u64 (u : Int) (IntKind.u64.wrap ((y : Int) * 2 ^ (7 * k))) = ((u + y * 128 ^ k : Nat) : Int) := by
  have h1 : y * 128 ^ k < 18446744073709551616 := by omega
  have e : (y : Int) * 2 ^ (7 * k) = ((y * 128 ^ k : Nat) : Int) := by
    rw [← pow27]
    push_cast
    rfl
  rw [e, IntKind.wrap_u64, Int.emod_eq_of_lt (by omega) (by omega), u64_or_nat u (y * 128 ^ k) (by omega) h1]
  congr 1
  rw [← pow27] at hu ⊢
  have := Nat.two_pow_add_eq_or_of_lt hu y
  rw [Nat.or_comm, Nat.mul_comm y, ← this]
  omega

theorem numG_nil (f i u : Nat) (h : 0 < f) : numG f i u [] = (0, 0, 2) := by
  cases f with
  | zero => omega
  | succ f => rfl

theorem numG_cons (f i u : Nat) (x : UInt8) (xs : List UInt8) (h : 0 < f) : numG f i u (x :: xs) = if (i = 9 ∧ 1 < x.toNat) ∨ (0 < i ∧ x.toNat = 0) then (0, 0, 4) else if x.toNat < 128 then (u + x.toNat * 128 ^ i, i + 1, 0) else numG (f - 1) (i + 1) (u + (x.toNat - 128) * 128 ^ i) xs := by
  cases f with
  | zero => omega
  | succ f => rfl

/-- What is told by seven bits a byte is below 2 ^ 64. -/
theorem seven_lt (u y k : Nat) (hu : u < 128 ^ k) (hy : y < 128) (hk : k ≤ 9) (h9 : k = 9 → y ≤ 1) : u + y * 128 ^ k < 128 ^ (k + 1) ∧ u + y * 128 ^ k < 18446744073709551616 := by
  have h1 : u + y * 128 ^ k < 128 ^ (k + 1) := by
    rw [pow7]
    have : y * 128 ^ k ≤ 127 * 128 ^ k := Nat.mul_le_mul_right _ (by omega)
    omega
  refine ⟨h1, ?_⟩
  rcases Nat.lt_or_ge k 9 with h | h
  · have : 128 ^ (k + 1) ≤ 128 ^ 9 := Nat.pow_le_pow_right (by decide) (by omega)
    have e : (128 : Nat) ^ 9 = 9223372036854775808 := by decide
    omega
  · obtain rfl : k = 9 := by omega
    have := h9 rfl
    have e : (128 : Nat) ^ 9 = 9223372036854775808 := by decide
    rw [e] at hu ⊢
    omega

end Pk
end Go.Proofs.YtlgjnefieflmbaaDoor
