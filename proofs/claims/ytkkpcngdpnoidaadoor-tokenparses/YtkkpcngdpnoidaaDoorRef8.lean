/- The document's answer for tokens: rows of bits, letters. -/
import Derived.Test.YtkkpcngdpnoidaaDoorRowB
import Derived.Test.YtkkpcngdpnoidaaDoorBase32
import Derived.Laws.IdiomStrings
namespace Go.Proofs.YtkkpcngdpnoidaaDoor
set_option linter.ambiguousOpen false
open Go.RowKit
namespace Tk
open Sm
set_option linter.unusedSimpArgs false
set_option linter.unusedVariables false

@[reducible] def u8v (x : Int) : Value := .int .u64 x

theorem ret_u8v {a b : Int} (h : a = b) : Ending.returned (.int .u64 a) = .returned (.int .u64 b) := by rw [h]

theorem info_bool : (Tryd.prog.info? 4).map (fun i => (i.zero, i.size, i.bytes)) = some (some (.bool false), 1, 1) := by kernel_rfl

theorem bit_at (x i : Nat) (hx : x < 18446744073709551616) : (bits .and .u64 ((x : Int) / 2 ^ i) 1 == 1) = x.testBit i := by
  have a : bits .and .u64 ((x : Int) / 2 ^ i) 1 = ((x / 2 ^ i &&& 1 : Nat) : Int) := by
    have := u64_and_nat (x / 2 ^ i) 1 (Nat.lt_of_le_of_lt (Nat.div_le_self _ _) hx) (by omega)
    rw [← this]; simp
  rw [a, Nat.and_one_is_mod, Nat.testBit_eq_decide_div_mod_eq, Bool.eq_iff_iff]
  simp only [beq_iff_eq, decide_eq_true_eq]
  omega

theorem bl_snoc (x n k : Nat) (h : k < n) : (bl x n).take (k + 1) = (bl x n).take k ++ [x.testBit (n - 1 - k)] := by
  have hk : k < (bl x n).length := by rw [bl_len]; exact h
  rw [List.take_succ_eq_append_getElem hk]
  congr 2
  induction n generalizing k with
  | zero => omega
  | succ n ih =>
    cases k with
    | zero => simp [bl]
    | succ k =>
      simp only [bl, List.getElem_cons_succ]
      rw [ih k (by omega) (by rw [bl_len]; omega)]
      congr 1
      omega

set_option maxRecDepth 100000 in
set_option maxHeartbeats 2000000 in
theorem put_any (v : Value) (l : List Bool) (x n base : Nat) (w : World) (hx : x < 18446744073709551616) (hn : n ≤ 64) (hn0 : 0 < n) (hl : l.length ≤ 1000) (hb : base ≤ w.heap.size) (hown0 : w.ownsRow base 4 1 v l.length (l.map Value.bool)) :
    Calls Tryd.prog 18 #[v, u8v x, nu n] w fun e w' => ∃ v', e = .returned v' ∧ w'.ownsRow base 4 1 v' (l.length + n) ((l ++ bl x n).map Value.bool) ∧ Below base w w' := by
  obtain ⟨i0, hi, hz0, hz1, hz2⟩ := info_parts info_bool
  have HO := Hid.mk' hown0
  clear hown0
  go_enter Tryd.func18, Tryd.ntmps18
  go_wp2
  go_loopw [0, 7] (fun pv iv wr => ∃ k : Nat, k ≤ n ∧ iv = .int .i64 ((n : Int) - 1 - k) ∧ wr.ownsRow base 4 1 pv (l.length + k) ((l ++ (bl x n).take k).map Value.bool) ∧ Below base w wr) (fun _ iv _ => (intOf iv + 1).toNat)
  case atStart => exact ⟨0, Nat.zero_le _, by simp, by simpa using HO.out, Below.refl _ _⟩
  case round =>
    obtain ⟨k, hk, rfl, hown, hbel⟩ := hrel
    by_cases hp : k < n
    · obtain ⟨i, hin⟩ : ∃ i : Nat, (n : Int) - 1 - k = i := ⟨n - 1 - k, by omega⟩
      have hv := bit_at x i hx
      have HS : Hid ((l ++ (bl x n).take (k + 1)).map Value.bool = (l ++ (bl x n).take k).map Value.bool ++ [Value.bool (x.testBit i)]) := by
        show _ = _
        rw [bl_snoc x n k (by omega), show n - 1 - k = i by omega, ← List.append_assoc, List.map_append]; rfl
      have hi64 : i < 64 := by omega
      rw [hin]
      have HIN := Hid.mk' hin
      clear hin
      generalize x.testBit i = q at *
      go_wp2_with (at_builtin; refine wpList_append_own _ rfl _ _ 47 rfl base 4 i0 (.bool false) 1 1 Tryd.underlying47 hi hz0 hz1 hz2 rfl (by decide) _ _ _ rfl (hown.alloc _) ⟨wr.heap.size, 0, none⟩ 1 1 [.bool q] rfl rfl (cell_one_new _ _ _) (by simp [Value.oneCell']) (by unfold maxLen; omega) (by omega) (by have := hbel.size; simp; omega) ?_; intro v' w4 hown4 hgrow _; have hbel4 : Below base w w4 := Below.grown (hbel.alloc (by have := hbel.size; omega) _) hgrow (by have := hbel.size; simp; omega) (fun k hk => (hown.lt k hk).1))
      go_roundw
      case rel => exact ⟨k + 1, by omega, by rw [← HIN.out]; go_num, by rw [HS.out]; exact hown4, hbel4⟩
      case measure => simp [intOf]
    · obtain rfl : k = n := by omega
      rw [List.take_of_length_le (by rw [bl_len]; exact Nat.le_refl _)] at hown
      go_wp2
      go_ret
      exact ⟨_, rfl, hown, hbel⟩

/-- The letters. -/
def letT : List UInt8 := [97, 98, 99, 100, 101, 102, 103, 104, 105, 106, 107, 108, 109, 110, 111, 112, 113, 114, 115, 116, 117, 118, 119, 120, 121, 122, 50, 51, 52, 53, 54, 55]

def lt (d : Nat) : UInt8 := letT.getD d 0

theorem idx_k (k : IntKind) (d : Nat) (h : d < 32) (w : World) : (Instr.index 9 (.string ⟨#[97, 98, 99, 100, 101, 102, 103, 104, 105, 106, 107, 108, 109, 110, 111, 112, 113, 114, 115, 116, 117, 118, 119, 120, 121, 122, 50, 51, 52, 53, 54, 55]⟩) (.int k (d : Int))).run Tryd.prog w = .ok (by1 (lt d)) w := by
  have hs : (tx letT).size = 32 := rfl
  have h2 := run_index_string w 9 (tx letT) k d Tryd.underlying9
  rw [dif_pos ⟨by omega, by omega⟩] at h2
  refine h2.trans ?_
  have e : ((d : Int)).toNat = d := by omega
  unfold lt
  rw [List.getD_eq_getElem?_getD, List.getElem?_eq_getElem (by show d < 32; exact h)]
  simp only [e]
  rfl

theorem vi {k : IntKind} {a b : Int} (h : a = b) : Value.int k a = Value.int k b := by rw [h]

theorem two_v (v : Nat) (h : v < 9223372036854775808) : IntKind.u64.wrap ((v : Int) * 2) = ((2 * v : Nat) : Int) := by
  rw [IntKind.wrap_u64]; omega

theorem or_one (v : Nat) (h : v < 9223372036854775808) : bits .or .u64 ((2 * v : Nat) : Int) 1 = ((2 * v + 1 : Nat) : Int) := by
  have := u64_or_nat (2 * v) 1 (by omega) (by omega)
  rw [show 2 * v ||| 1 = 2 * v + 1 from by
    have := Nat.two_pow_add_eq_or_of_lt (i := 1) (b := 1) (by decide) v
    simpa using this.symm] at this
  exact this

set_option maxHeartbeats 1000000 in
theorem take_any (l : List Bool) (at_ n base g cap : Nat) (w : World) (hn : n ≤ 64) (hl : l.length ≤ 1000) (ha : at_ + n ≤ l.length) (hown : w.ownsRow base 4 1 (.slice (some ⟨g, 0, none⟩) l.length cap) l.length (l.map Value.bool)) (hcap : l.length ≤ cap) (hcm : cap ≤ maxLen) :
    Calls Tryd.prog 19 #[.slice (some ⟨g, 0, none⟩) l.length cap, nu at_, nu n] w fun e w' => e = .returned (u8v (nb ((l.drop at_).take n))) ∧ w' = w := by
  have HC : Hid (∀ j (hj : j < l.length), w.cell? ⟨g, j, none⟩ = some (.bool l[j])) := fun j hj => by
    have := row_atB hown j hj (by simpa using hj)
    rw [this, List.getElem_map]
  clear hown
  unfold maxLen at hcm
  go_enter Tryd.func19, Tryd.ntmps19
  go_wp2
  go_loopw [7, 8] (fun vv iv wr => ∃ k : Nat, k ≤ n ∧ iv = nu ((at_ : Int) + k) ∧ vv = u8v (nb ((l.drop at_).take k)) ∧ Hid (wr = w)) (fun _ iv _ => at_ + n - (intOf iv).toNat)
  case atStart => exact ⟨0, by omega, by simp, rfl, rfl⟩
  case round =>
    obtain ⟨k, hk, rfl, rfl, hwr⟩ := hrel
    by_cases hq : k < n
    · have hj : at_ + k < l.length := by omega
      have hc := HC.out (at_ + k) hj
      rw [← hwr.out] at hc
      have hd : (l.drop at_).length = l.length - at_ := List.length_drop
      have hS : nb ((l.drop at_).take (k + 1)) = 2 * nb ((l.drop at_).take k) + (l[at_ + k]).toNat := by
        rw [List.take_succ_eq_append_getElem (by omega), nb_snoc, List.getElem_drop]
      have hlt : nb ((l.drop at_).take k) < 9223372036854775808 := by
        have h1 := nb_lt ((l.drop at_).take k)
        have h2 : ((l.drop at_).take k).length ≤ 63 := by rw [List.length_take]; omega
        have h3 := Nat.pow_le_pow_right (n := 2) (by decide) h2
        exact Nat.lt_of_lt_of_le h1 (by simpa using h3)
      generalize nb ((l.drop at_).take k) = v at *
      have HS := Hid.mk' hS
      have hw2 := two_v v hlt
      have ho := or_one v hlt
      clear hS hd
      generalize l[at_ + k] = q at *
      cases q
      · go_wp2
        go_roundw
        case rel => exact ⟨k + 1, by omega, vi (by omega), by rw [HS.out]; exact vi (by simp), hwr⟩
        case measure => simp [intOf]; omega
      · go_wp2
        go_roundw
        case rel => exact ⟨k + 1, by omega, vi (by omega), by rw [HS.out]; exact vi (by simpa using ho), hwr⟩
        case measure => simp [intOf]; omega
    · obtain rfl : k = n := by omega
      go_wp2
      go_ret
      exact ⟨rfl, hwr.out⟩

/-- The place of a letter among the first k. -/
def ixTo (c : UInt8) : Nat → Option Nat
  | 0 => none
  | k + 1 => match ixTo c k with
    | some d => some d
    | none => if lt k = c then some k else none

theorem ixTo_mono (c : UInt8) (k d : Nat) (h : ixTo c k = some d) (n : Nat) : ixTo c (k + n) = some d := by
  induction n with
  | zero => exact h
  | succ n ih => rw [← Nat.add_assoc, ixTo, ih]

theorem ixTo_some (c : UInt8) (k d : Nat) (h : ixTo c k = some d) : d < k ∧ lt d = c := by
  induction k with
  | zero => simp [ixTo] at h
  | succ k ih =>
    rw [ixTo] at h
    cases hk : ixTo c k with
    | some e =>
      rw [hk] at h
      simp only [Option.some.injEq] at h
      subst h
      have := ih hk
      exact ⟨by omega, this.2⟩
    | none =>
      rw [hk] at h
      by_cases hc : lt k = c
      · simp only [hc, if_true, Option.some.injEq] at h
        subst h
        exact ⟨by omega, hc⟩
      · simp [hc] at h

def ix (c : UInt8) : Option Nat := ixTo c 32

theorem ix_lt : ∀ d, d < 32 → ix (lt d) = some d := by decide +kernel

/-- A letter's number; -1: it is none. -/
def ixI (c : UInt8) : Int := match ix c with
  | some d => d
  | none => -1

set_option maxHeartbeats 1000000 in
theorem index_any (c : UInt8) (w : World) : Calls Tryd.prog 24 #[by1 c] w fun e w' => e = .returned (nu (ixI c)) ∧ w' = w := by
  have HI : Hid (∀ d : Nat, d < 32 → ∀ w, (Instr.index 9 (.string ⟨#[97, 98, 99, 100, 101, 102, 103, 104, 105, 106, 107, 108, 109, 110, 111, 112, 113, 114, 115, 116, 117, 118, 119, 120, 121, 122, 50, 51, 52, 53, 54, 55]⟩) (.int .i64 (d : Int))).run Tryd.prog w = .ok (by1 (lt d)) w) := fun d h w => idx_k .i64 d h w
  go_enter Tryd.func24, Tryd.ntmps24
  go_wp2
  go_loopw [3] (fun iv wr => ∃ k : Nat, k ≤ 32 ∧ iv = nu k ∧ Hid (ixTo c k = none) ∧ Hid (wr = w)) (fun iv _ => 32 - (intOf iv).toNat)
  case atStart => exact ⟨0, by omega, rfl, rfl, rfl⟩
  case round =>
    obtain ⟨k, hk, rfl, hx, hwr⟩ := hrel
    by_cases hq : k < 32
    · have hi := HI.out k hq
      by_cases hc : lt k = c
      · have hr : Hid (ixI c = k) := by
          show _ = _
          have h1 : ixTo c (k + 1) = some k := by rw [ixTo, hx.out]; simp [hc]
          have h2 := ixTo_mono c (k + 1) k h1 (31 - k)
          rw [show k + 1 + (31 - k) = 32 by omega] at h2
          unfold ixI ix
          rw [h2]
        rw [hc] at hi
        unfold by1 at *
        generalize c.toNat = cn at *
        go_wp2
        go_ret
        exact ⟨ret_nu hr.out.symm, hwr.out⟩
      · have h1 : Hid (ixTo c (k + 1) = none) := by
          show _ = _
          rw [ixTo, hx.out]; simp [hc]
        have hne : (((lt k).toNat : Int) == (c.toNat : Int)) = false := by
          rw [beq_eq_false_iff_ne]
          intro e
          exact hc (UInt8.toNat_inj.1 (by exact_mod_cast e))
        unfold by1 at *
        generalize (lt k).toNat = m at *
        generalize c.toNat = cn at *
        go_wp2
        go_roundw
        case rel => exact ⟨k + 1, by omega, by go_num, h1, hwr⟩
        case measure => simp [intOf]; omega
    · obtain rfl : k = 32 := by omega
      simp only [Int.cast_ofNat_Int]
      go_wp2
      go_ret
      exact ⟨ret_nu (by unfold ixI ix; rw [hx.out]), hwr.out⟩
end Tk
end Go.Proofs.YtkkpcngdpnoidaaDoor
