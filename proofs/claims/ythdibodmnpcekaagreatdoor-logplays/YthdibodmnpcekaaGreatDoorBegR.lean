import Derived.Test.YthdibodmnpcekaaGreatDoorBlkM
import Derived.Laws.BitsAllLaws
import Derived.BigQuiet
/- Small calls of the laws on records: a payload cut, and whether a block is a first one. -/
namespace Go.Proofs.YthdibodmnpcekaaGreatDoor
set_option linter.ambiguousOpen false
open Go.RowKit
namespace Rc
open Sm Pk
set_option linter.unusedSimpArgs false
set_option linter.unusedVariables false

instance (ep : Nat) (b : List UInt8) : Decidable (begins ep b) := inferInstanceAs (Decidable (_ = _))

theorem begins_short (ep : Nat) (b : List UInt8) (h : b.length < 5) : ¬ begins ep b := by
  intro hb
  have := congrArg List.length hb
  rw [List.length_take, List.length_cons, lo_len] at this
  omega

theorem or_part (a b k : Nat) (h : a < 2 ^ k) : a ||| (b * 2 ^ k) = a + b * 2 ^ k := by
  rw [Nat.or_comm, Nat.mul_comm b, Nat.add_comm, Nat.two_pow_add_eq_or_of_lt h]

theorem begins_num (ep : Nat) (b0 b1 b2 b3 b4 : UInt8) (r : List UInt8) (hep : ep < 4294967296) : begins ep (b0 :: b1 :: b2 :: b3 :: b4 :: r) ↔ b0 = 104 ∧ b1.toNat + b2.toNat * 256 + b3.toNat * 65536 + b4.toNat * 16777216 = ep := by
  have h1 : lo ep 4 = [UInt8.ofNat (ep % 256), UInt8.ofNat (ep / 256 % 256), UInt8.ofNat (ep / 256 / 256 % 256), UInt8.ofNat (ep / 256 / 256 / 256 % 256)] := by simp [lo]
  have l1 := b1.toNat_lt
  have l2 := b2.toNat_lt
  have l3 := b3.toNat_lt
  have l4 := b4.toNat_lt
  unfold begins
  rw [h1]
  simp only [List.take_succ_cons, List.take_zero, List.cons.injEq, and_true]
  have e : ∀ (x : UInt8) (n : Nat), n < 256 → (x = UInt8.ofNat n ↔ x.toNat = n) := fun x n hn => by
    constructor
    · intro h
      rw [h]
      exact UInt8.toNat_ofNat_of_lt' hn
    · intro h
      rw [← h]
      simp
  rw [e b1 _ (by omega), e b2 _ (by omega), e b3 _ (by omega), e b4 _ (by omega)]
  constructor
  · rintro ⟨h0, h1, h2, h3, h4⟩
    exact ⟨h0, by omega⟩
  · rintro ⟨h0, h⟩
    exact ⟨h0, by omega, by omega, by omega, by omega⟩

theorem or_four (c1 c2 c3 c4 : Nat) (l1 : c1 < 256) (l2 : c2 < 256) (l3 : c3 < 256) (l4 : c4 < 256) :
    bits .or .u32 (bits .or .u32 (bits .or .u32 (c1 : Int) ((c2 : Int) * 256)) ((c3 : Int) * 65536)) ((c4 : Int) * 16777216) = ((c1 + c2 * 256 + c3 * 65536 + c4 * 16777216 : Nat) : Int) := by
  have e1 := u32_or_nat c1 (c2 * 256) (by omega) (by omega)
  rw [show c2 * 256 = c2 * 2 ^ 8 from rfl, or_part c1 c2 8 (by omega)] at e1
  have e2 := u32_or_nat (c1 + c2 * 2 ^ 8) (c3 * 65536) (by omega) (by omega)
  rw [show c3 * 65536 = c3 * 2 ^ 16 from rfl, or_part (c1 + c2 * 2 ^ 8) c3 16 (by omega)] at e2
  have e3 := u32_or_nat (c1 + c2 * 2 ^ 8 + c3 * 2 ^ 16) (c4 * 16777216) (by omega) (by omega)
  rw [show c4 * 16777216 = c4 * 2 ^ 24 from rfl, or_part (c1 + c2 * 2 ^ 8 + c3 * 2 ^ 16) c4 24 (by omega)] at e3
  have f1 : ((c2 : Int) * 256) = ((c2 * 2 ^ 8 : Nat) : Int) := by rw [show (2 : Nat) ^ 8 = 256 from rfl]; omega
  have f2 : ((c3 : Int) * 65536) = ((c3 * 2 ^ 16 : Nat) : Int) := by rw [show (2 : Nat) ^ 16 = 65536 from rfl]; omega
  have f3 : ((c4 : Int) * 16777216) = ((c4 * 2 ^ 24 : Nat) : Int) := by rw [show (2 : Nat) ^ 24 = 16777216 from rfl]; omega
  rw [f1, e1, f2, e2, f3, e3]

end Rc
end Go.Proofs.YthdibodmnpcekaaGreatDoor
