/- The document's answer for tokens: rows of bits, letters. -/
import Derived.Test.YtkkpcngdpnoidaaRowB
import Derived.Test.YtkkpcngdpnoidaaBase32
import Derived.Laws.IdiomStrings
namespace Go.Proofs.Ytkkpcngdpnoidaa
set_option linter.ambiguousOpen false
open Go.RowKit
namespace Tk
open Sm
set_option linter.unusedSimpArgs false
set_option linter.unusedVariables false

@[reducible] def u8v (x : Int) : Value := .int .u64 x

theorem ret_u8v {a b : Int} (h : a = b) : Ending.returned (.int .u64 a) = .returned (.int .u64 b) := by rw [h]

theorem info_bool : (Try.prog.info? 4).map (fun i => (i.zero, i.size, i.bytes)) = some (some (.bool false), 1, 1) := by kernel_rfl

theorem bit_at (x i : Nat) (hx : x < 18446744073709551616) : (bits .and .u64 ((x : Int) / 2 ^ i) 1 == 1) = x.testBit i := by
  have a : bits .and .u64 ((x : Int) / 2 ^ i) 1 = ((x / 2 ^ i &&& 1 : Nat) : Int) := by
    have := u64_and_nat (x / 2 ^ i) 1 (Nat.lt_of_le_of_lt (Nat.div_le_self _ _) hx) (by omega)
    rw [← this]; simp
  rw [a, Nat.and_one_is_mod, Nat.testBit_eq_decide_div_mod_eq, Bool.eq_iff_iff]
  simp only [beq_iff_eq, decide_eq_true_eq]
  omega

theorem bl_snoc (x n k : Nat) (h : k < n) : (bl x n).take (k + 1) = (bl x n).take k ++ [x.testBit (n - 1 - k)] := by
  have hk : k < (bl x n).length := by rw [bl_len]; exact h
  rw [List.take_succ_eq_append_getElem hk]
  congr 2
  induction n generalizing k with
  | zero => omega
  | succ n ih =>
    cases k with
    | zero => simp [bl]
    | succ k =>
      simp only [bl, List.getElem_cons_succ]
      rw [ih k (by omega) (by rw [bl_len]; omega)]
      congr 1
      omega

/-- The letters. -/
def letT : List UInt8 := [97, 98, 99, 100, 101, 102, 103, 104, 105, 106, 107, 108, 109, 110, 111, 112, 113, 114, 115, 116, 117, 118, 119, 120, 121, 122, 50, 51, 52, 53, 54, 55]

def lt (d : Nat) : UInt8 := letT.getD d 0

theorem idx_k (k : IntKind) (d : Nat) (h : d < 32) (w : World) : (Instr.index 9 (.string ⟨#[97, 98, 99, 100, 101, 102, 103, 104, 105, 106, 107, 108, 109, 110, 111, 112, 113, 114, 115, 116, 117, 118, 119, 120, 121, 122, 50, 51, 52, 53, 54, 55]⟩) (.int k (d : Int))).run Try.prog w = .ok (by1 (lt d)) w := by
  have hs : (tx letT).size = 32 := rfl
  have h2 := run_index_string w 9 (tx letT) k d Try.underlying9
  rw [dif_pos ⟨by omega, by omega⟩] at h2
  refine h2.trans ?_
  have e : ((d : Int)).toNat = d := by omega
  unfold lt
  rw [List.getD_eq_getElem?_getD, List.getElem?_eq_getElem (by show d < 32; exact h)]
  simp only [e]
  rfl

theorem vi {k : IntKind} {a b : Int} (h : a = b) : Value.int k a = Value.int k b := by rw [h]

theorem two_v (v : Nat) (h : v < 9223372036854775808) : IntKind.u64.wrap ((v : Int) * 2) = ((2 * v : Nat) : Int) := by
  rw [IntKind.wrap_u64]; omega

theorem or_one (v : Nat) (h : v < 9223372036854775808) : bits .or .u64 ((2 * v : Nat) : Int) 1 = ((2 * v + 1 : Nat) : Int) := by
  have := u64_or_nat (2 * v) 1 (by omega) (by omega)
  rw [show 2 * v ||| 1 = 2 * v + 1 from by
    have := Nat.two_pow_add_eq_or_of_lt (i := 1) (b := 1) (by decide) v
    simpa using this.symm] at this
  exact this

/-- The place of a letter among the first k. -/
def ixTo (c : UInt8) : Nat → Option Nat
  | 0 => none
  | k + 1 => match ixTo c k with
    | some d => some d
    | none => if lt k = c then some k else none

theorem ixTo_mono (c : UInt8) (k d : Nat) (h : ixTo c k = some d) (n : Nat) : ixTo c (k + n) = some d := by
  induction n with
  | zero => exact h
  | succ n ih => rw [← Nat.add_assoc, ixTo, ih]

theorem ixTo_some (c : UInt8) (k d : Nat) (h : ixTo c k = some d) : d < k ∧ lt d = c := by
  induction k with
  | zero => simp [ixTo] at h
  | succ k ih =>
    rw [ixTo] at h
    cases hk : ixTo c k with
    | some e =>
      rw [hk] at h
      simp only [Option.some.injEq] at h
      subst h
      have := ih hk
      exact ⟨by omega, this.2⟩
    | none =>
      rw [hk] at h
      by_cases hc : lt k = c
      · simp only [hc, if_true, Option.some.injEq] at h
        subst h
        exact ⟨by omega, hc⟩
      · simp [hc] at h

def ix (c : UInt8) : Option Nat := ixTo c 32

theorem ix_lt : ∀ d, d < 32 → ix (lt d) = some d := by decide +kernel

/-- A letter's number; -1: it is none. -/
def ixI (c : UInt8) : Int := match ix c with
  | some d => d
  | none => -1

end Tk
end Go.Proofs.Ytkkpcngdpnoidaa
