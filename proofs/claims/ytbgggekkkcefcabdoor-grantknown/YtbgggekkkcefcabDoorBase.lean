/- The calls of package bits on one or two sets, each as a plain function of numbers. -/
import Derived.Test.YtbgggekkkcefcabDoorRows
import Derived.Test.YtbgggekkkcefcabDoorPop
import Derived.WalkKit
import Derived.WalkSpells
import Derived.WalkLawsBesides
import Derived.BigQuiet
import Derived.Deep.CutBlock
import Derived.Deep.CutRange
import Derived.Deep.DeepCutAuto
import Derived.Deep.RegionWith
import Derived.Deep.RegionHeld3
import Derived.Laws.Bits128
namespace Go.Proofs.YtbgggekkkcefcabDoor
open Go.RowKit
namespace Bt
set_option linter.unusedSimpArgs false
set_option linter.unusedVariables false

/-- A set as the program holds it. -/
@[reducible] def st (x : Nat) : Value := .int .u64 (x : Int)

/-- A number as the program holds it. -/
@[reducible] def nu (i : Int) : Value := .int .i64 i

theorem wf_u64 {a : Int} (h : (Lit.int .u64 a).wf = true) : ∃ x : Nat, a = x ∧ x < 18446744073709551616 := by
  simp [Lit.wf, IntKind.min, IntKind.max, IntKind.signed, IntKind.bits] at h
  exact ⟨a.toNat, by omega, by omega⟩

theorem wf_i64 {a : Int} (h : (Lit.int .i64 a).wf = true) : -9223372036854775808 ≤ a ∧ a ≤ 9223372036854775807 := by
  simp [Lit.wf, IntKind.min, IntKind.max, IntKind.signed, IntKind.bits] at h
  omega

theorem ret_bool {b c : Bool} (h : b = c) : Ending.returned (.bool b) = .returned (.bool c) := by rw [h]

theorem ret_st {a b : Int} (h : a = b) : Ending.returned (.int .u64 a) = .returned (.int .u64 b) := by rw [h]

theorem ret_nu {a b : Int} (h : a = b) : Ending.returned (.int .i64 a) = .returned (.int .i64 b) := by rw [h]

/-- The set of one number. -/
def pw (i : Nat) : Nat := 2 ^ i

theorem pow_lt (i : Nat) (h : i < 64) : pw i < 18446744073709551616 := Nat.pow_lt_pow_right (by decide) h

theorem pow_wrap (i : Nat) (h : i < 64) : IntKind.u64.wrap (2 ^ i) = ((pw i : Nat) : Int) := by
  have := pow_lt i h
  unfold pw at this ⊢
  rw [IntKind.wrap_u64, Int.natCast_pow]
  exact Int.emod_eq_of_lt (by have := Int.natCast_nonneg (2 ^ i); simpa using this) (by rw [show (18446744073709551616 : Int) = ((18446744073709551616 : Nat) : Int) from rfl]; exact_mod_cast this)

/-- What is in a and not in b. -/
def less (a b : Nat) : Nat := a &&& (18446744073709551615 - b)

theorem less_any (a b : Nat) (w : World) (ha : a < 18446744073709551616) (hb : b < 18446744073709551616) :
    Calls Tryd.prog 68 #[st a, st b] w fun e w' => e = .returned (st (less a b)) ∧ w' = w := by
  have k := u64_andNot_nat a b ha hb
  go_enter Tryd.func68, Tryd.ntmps68
  go_wp2_with (simp only [k])
  go_ret
  exact ⟨rfl, rfl⟩

/-- Is a number in a set? -/
def hasB (s : Nat) (i : Int) : Bool := decide (0 ≤ i) && decide (i < 64) && s.testBit i.toNat

theorem and_pow (s i : Nat) : s &&& 2 ^ i = if s.testBit i then 2 ^ i else 0 := by
  refine Nat.eq_of_testBit_eq fun j => ?_
  rw [Nat.testBit_and, Nat.testBit_two_pow]
  by_cases e : i = j
  · subst e
    cases h : s.testBit i <;> simp [Nat.testBit_two_pow]
  · cases h : s.testBit i <;> simp [e, Nat.testBit_two_pow]

theorem and_pow_zero (s i : Nat) : (((s &&& pw i : Nat) : Int) == 0) = !s.testBit i := by
  unfold pw
  rw [and_pow]
  cases s.testBit i
  · simp
  · have h2 : 2 ^ i ≠ 0 := Nat.pos_iff_ne_zero.1 (Nat.two_pow_pos i)
    have : ((2 ^ i : Nat) : Int) ≠ 0 := by omega
    simpa using this

end Bt
end Go.Proofs.YtbgggekkkcefcabDoor
