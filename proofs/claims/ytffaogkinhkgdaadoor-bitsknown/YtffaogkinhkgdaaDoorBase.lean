/- The calls of package bits on one or two sets, each as a plain function of numbers. -/
import Derived.Test.YtffaogkinhkgdaaDoorRows
import Derived.Test.YtffaogkinhkgdaaDoorPop
import Derived.WalkKit
import Derived.WalkSpells
import Derived.WalkLawsBesides
import Derived.BigQuiet
import Derived.Deep.CutBlock
import Derived.Deep.CutRange
import Derived.Deep.DeepCutAuto
import Derived.Deep.RegionWith
import Derived.Deep.RegionHeld3
import Derived.Laws.Bits128
namespace Go.Proofs.YtffaogkinhkgdaaDoor
open Go.RowKit
namespace Bt
set_option linter.unusedSimpArgs false
set_option linter.unusedVariables false

/-- A set as the program holds it. -/
@[reducible] def st (x : Nat) : Value := .int .u64 (x : Int)

/-- A number as the program holds it. -/
@[reducible] def nu (i : Int) : Value := .int .i64 i

theorem wf_u64 {a : Int} (h : (Lit.int .u64 a).wf = true) : ∃ x : Nat, a = x ∧ x < 18446744073709551616 := by
  simp [Lit.wf, IntKind.min, IntKind.max, IntKind.signed, IntKind.bits] at h
  exact ⟨a.toNat, by omega, by omega⟩

theorem wf_i64 {a : Int} (h : (Lit.int .i64 a).wf = true) : -9223372036854775808 ≤ a ∧ a ≤ 9223372036854775807 := by
  simp [Lit.wf, IntKind.min, IntKind.max, IntKind.signed, IntKind.bits] at h
  omega

theorem ret_bool {b c : Bool} (h : b = c) : Ending.returned (.bool b) = .returned (.bool c) := by rw [h]

theorem ret_st {a b : Int} (h : a = b) : Ending.returned (.int .u64 a) = .returned (.int .u64 b) := by rw [h]

theorem ret_nu {a b : Int} (h : a = b) : Ending.returned (.int .i64 a) = .returned (.int .i64 b) := by rw [h]

/-- The set of one number. -/
def pw (i : Nat) : Nat := 2 ^ i

theorem pow_lt (i : Nat) (h : i < 64) : pw i < 18446744073709551616 := Nat.pow_lt_pow_right (by decide) h

theorem pow_wrap (i : Nat) (h : i < 64) : IntKind.u64.wrap (2 ^ i) = ((pw i : Nat) : Int) := by
  have := pow_lt i h
  unfold pw at this ⊢
  rw [IntKind.wrap_u64, Int.natCast_pow]
  exact Int.emod_eq_of_lt (by have := Int.natCast_nonneg (2 ^ i); simpa using this) (by rw [show (18446744073709551616 : Int) = ((18446744073709551616 : Nat) : Int) from rfl]; exact_mod_cast this)

theorem join_any (a b : Nat) (w : World) (ha : a < 18446744073709551616) (hb : b < 18446744073709551616) :
    Calls Tryd.prog 30 #[st a, st b] w fun e w' => e = .returned (st (a ||| b)) ∧ w' = w := by
  have k := u64_or_nat a b ha hb
  go_enter Tryd.func30, Tryd.ntmps30
  go_wp2_with (simp only [k])
  go_ret
  exact ⟨rfl, rfl⟩

/-- What is in a and not in b. -/
def less (a b : Nat) : Nat := a &&& (18446744073709551615 - b)

theorem less_any (a b : Nat) (w : World) (ha : a < 18446744073709551616) (hb : b < 18446744073709551616) :
    Calls Tryd.prog 31 #[st a, st b] w fun e w' => e = .returned (st (less a b)) ∧ w' = w := by
  have k := u64_andNot_nat a b ha hb
  go_enter Tryd.func31, Tryd.ntmps31
  go_wp2_with (simp only [k])
  go_ret
  exact ⟨rfl, rfl⟩

theorem count_lib (x : Nat) (w : World) (h : x < 18446744073709551616) :
    Calls Tryd.prog 47 #[st x] w fun e w' => e = .returned (nu (ones x 64 : Nat)) ∧ w' = w := by
  obtain ⟨y, hy, ly, z, hz, lz, lz2, u, hu, lu, v, hv, lv, t, ht, lt, hs⟩ := sums x h
  have A : ∀ a m : Nat, a < 18446744073709551616 → m < 18446744073709551616 → bits .and .u64 (a : Int) (m : Int) = ((a &&& m : Nat) : Int) := fun a m h1 h2 => u64_and_nat a m h1 h2
  have E1 : IntKind.u64.wrap (bits .and .u64 ((x : Int) / 2) 6148914691236517205 + bits .and .u64 (x : Int) 6148914691236517205) = (y : Int) := by
    have a1 := A (x / 2) 6148914691236517205 (by omega) (by omega)
    have a2 := A x 6148914691236517205 h (by omega)
    rw [show ((x / 2 : Nat) : Int) = (x : Int) / 2 from by omega] at a1
    rw [show (6148914691236517205 : Int) = ((6148914691236517205 : Nat) : Int) from rfl, a1, a2, IntKind.wrap_u64]
    omega
  have E2 : IntKind.u64.wrap (bits .and .u64 ((y : Int) / 4) 3689348814741910323 + bits .and .u64 (y : Int) 3689348814741910323) = (z : Int) := by
    have a1 := A (y / 4) 3689348814741910323 (by omega) (by omega)
    have a2 := A y 3689348814741910323 (by omega) (by omega)
    rw [show ((y / 4 : Nat) : Int) = (y : Int) / 4 from by omega] at a1
    rw [show (3689348814741910323 : Int) = ((3689348814741910323 : Nat) : Int) from rfl, a1, a2, IntKind.wrap_u64]
    omega
  have E3 : bits .and .u64 (IntKind.u64.wrap ((z : Int) / 16 + (z : Int))) 1085102592571150095 = (u : Int) := by
    have a1 := A (z / 16 + z) 1085102592571150095 (by omega) (by omega)
    rw [IntKind.wrap_u64, show ((z : Int) / 16 + (z : Int)) % 18446744073709551616 = ((z / 16 + z : Nat) : Int) from by omega, show (1085102592571150095 : Int) = ((1085102592571150095 : Nat) : Int) from rfl, a1, hu]
  have E4 : IntKind.u64.wrap ((u : Int) + (u : Int) / 256) = (v : Int) := by rw [IntKind.wrap_u64]; omega
  have E5 : IntKind.u64.wrap ((v : Int) + (v : Int) / 65536) = (t : Int) := by rw [IntKind.wrap_u64]; omega
  obtain ⟨s, hs6⟩ : ∃ s : Nat, s = t + t / 4294967296 := ⟨_, rfl⟩
  have E6 : IntKind.u64.wrap ((t : Int) + (t : Int) / 4294967296) = (s : Int) := by rw [IntKind.wrap_u64]; omega
  have E7 : wrap64 (s : Int) = (s : Int) := by unfold wrap64; omega
  have E8 : bits .and .i64 (s : Int) 127 = ((ones x 64 : Nat) : Int) := by
    rw [i64_and127, ← hs, ← hs6]; exact (Int.natCast_emod s 128).symm
  clear hy hz hu hv ht A ly lz lz2 lu lv lt hs hs6
  go_enter Tryd.func47, Tryd.ntmps47
  go_wp2_with (simp only [E1, E2, E3, E4, E5, E6, E7, E8])
  go_ret
  exact ⟨rfl, rfl⟩

theorem fits_any (i : Int) (w : World) :
    Calls Tryd.prog 28 #[nu i] w fun e w' => e = .returned (.bool (decide (0 ≤ i) && decide (i < 64))) ∧ w' = w := by
  by_cases h0 : 0 ≤ i
  · by_cases h1 : i < 64
    · go_enter Tryd.func28, Tryd.ntmps28
      go_wp2
      go_ret
      exact ⟨ret_bool (by simp [h0, h1]), rfl⟩
    · go_enter Tryd.func28, Tryd.ntmps28
      go_wp2
      go_ret
      exact ⟨ret_bool (by simp [h1]), rfl⟩
  · go_enter Tryd.func28, Tryd.ntmps28
    go_wp2
    go_ret
    exact ⟨ret_bool (by simp; omega), rfl⟩

theorem single_any (i : Nat) (w : World) (h : i < 64) :
    Calls Tryd.prog 29 #[nu (i : Int)] w fun e w' => e = .returned (st (pw i)) ∧ w' = w := by
  have k := pow_wrap i h
  go_enter Tryd.func29, Tryd.ntmps29
  go_wp2_with (simp only [k])
  go_ret
  exact ⟨rfl, rfl⟩

theorem count_any (x : Nat) (w : World) (h : x < 18446744073709551616) :
    Calls Tryd.prog 32 #[st x] w fun e w' => e = .returned (nu (ones x 64 : Nat)) ∧ w' = w := by
  have c := count_lib x w h
  go_enter Tryd.func32, Tryd.ntmps32
  go_wp2_with fail
  refine c.mono ?_
  rintro e w1 ⟨rfl, rfl⟩
  go_wp2
  go_ret
  exact ⟨rfl, rfl⟩

/-- Is a number in a set? -/
def hasB (s : Nat) (i : Int) : Bool := decide (0 ≤ i) && decide (i < 64) && s.testBit i.toNat

theorem and_pow (s i : Nat) : s &&& 2 ^ i = if s.testBit i then 2 ^ i else 0 := by
  refine Nat.eq_of_testBit_eq fun j => ?_
  rw [Nat.testBit_and, Nat.testBit_two_pow]
  by_cases e : i = j
  · subst e
    cases h : s.testBit i <;> simp [Nat.testBit_two_pow]
  · cases h : s.testBit i <;> simp [e, Nat.testBit_two_pow]

theorem and_pow_zero (s i : Nat) : (((s &&& pw i : Nat) : Int) == 0) = !s.testBit i := by
  unfold pw
  rw [and_pow]
  cases s.testBit i
  · simp
  · have h2 : 2 ^ i ≠ 0 := Nat.pos_iff_ne_zero.1 (Nat.two_pow_pos i)
    have : ((2 ^ i : Nat) : Int) ≠ 0 := by omega
    simpa using this

theorem has_any (s : Nat) (i : Int) (w : World) (hs : s < 18446744073709551616) :
    Calls Tryd.prog 18 #[st s, nu i] w fun e w' => e = .returned (.bool (hasB s i)) ∧ w' = w := by
  have c := fits_any i w
  by_cases h : 0 ≤ i ∧ i < 64
  · obtain ⟨k, rfl⟩ := Int.eq_ofNat_of_zero_le h.1
    have hk : k < 64 := by omega
    have c2 := single_any k w hk
    have e0 : (decide (0 ≤ (k : Int)) && decide ((k : Int) < 64)) = true := by simp; omega
    rw [e0] at c
    have z := and_pow_zero s k
    have a := u64_and_nat s (pw k) hs (pow_lt k hk)
    have hh : hasB s (k : Int) = s.testBit k := by simp [hasB]; omega
    rw [hh]
    go_enter Tryd.func18, Tryd.ntmps18
    go_wp2_with fail
    refine c.mono ?_
    rintro e w1 ⟨rfl, rfl⟩
    go_wp2_with fail
    refine c2.mono ?_
    rintro e w1 ⟨rfl, rfl⟩
    go_wp2_with (simp only [a])
    go_ret
    exact ⟨ret_bool (by rw [bne, z, Bool.not_not]), rfl⟩
  · have e0 : (decide (0 ≤ i) && decide (i < 64)) = false := by simp; omega
    rw [e0] at c
    have hh : hasB s i = false := by simp only [hasB, e0, Bool.false_and]
    rw [hh]
    go_enter Tryd.func18, Tryd.ntmps18
    go_wp2_with fail
    refine c.mono ?_
    rintro e w1 ⟨rfl, rfl⟩
    go_wp2
    go_ret
    exact ⟨rfl, rfl⟩
end Bt
end Go.Proofs.YtffaogkinhkgdaaDoor
