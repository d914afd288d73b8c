/- The calls of package sum, and the document's answer, as plain functions of rows of bytes. -/
import Derived.Test.YtlgjnefieflmbaaDoorRows
import Derived.Test.YtlgjnefieflmbaaDoorPoly
import Derived.WalkKit
import Derived.WalkSpells
import Derived.WalkLawsBesides
import Derived.BigQuiet
import Derived.Deep.CutBlock
import Derived.Deep.CutRange
import Derived.Deep.DeepCutAuto
import Derived.Deep.RegionWith
import Derived.Deep.RegionHeld3
import Derived.Laws.BitsAllLaws
namespace Go.Proofs.YtlgjnefieflmbaaDoor
set_option linter.ambiguousOpen false
open Go.RowKit
namespace Sm
set_option linter.unusedSimpArgs false
set_option linter.unusedVariables false

/-- A number of 32 bits, a byte and a number as the program holds them. -/
@[reducible] def u4 (x : Nat) : Value := .int .u32 (x : Int)

@[reducible] def by1 (b : UInt8) : Value := .int .u8 (b.toNat : Int)

@[reducible] def nu (i : Int) : Value := .int .i64 i

theorem ret_bool {b c : Bool} (h : b = c) : Ending.returned (.bool b) = .returned (.bool c) := by rw [h]

theorem ret_u4 {a b : Int} (h : a = b) : Ending.returned (.int .u32 a) = .returned (.int .u32 b) := by rw [h]

/-- The value v reads, in w, as the row l. -/
def RdB (w : World) (v : Value) (l : List UInt8) : Prop :=
  ∃ a cap, v = .slice a l.length cap ∧ l.length ≤ cap ∧ cap ≤ maxLen ∧ (0 < l.length → ∃ g o, a = some ⟨g, o, none⟩ ∧ g < w.heap.size ∧ ∀ j (hj : j < l.length), w.cell? ⟨g, o + j, none⟩ = some (by1 l[j]))

theorem RdB.below {w w' : World} {v : Value} {xs : List UInt8} (h : RdB w v xs) (hb : Below w.heap.size w w') : RdB w' v xs := by
  obtain ⟨a, cap, h1, h2, h3, h4⟩ := h
  refine ⟨a, cap, h1, h2, h3, fun h0 => ?_⟩
  obtain ⟨g, o, e1, e2, e3⟩ := h4 h0
  exact ⟨g, o, e1, Nat.lt_of_lt_of_le e2 hb.size, fun j hj => (hb.cell (p := ⟨g, o + j, none⟩) e2).trans (e3 j hj)⟩

/-- One place down, as the walk spells it. -/
theorem dn_odd (n : Nat) (h : n < 4294967296) (h1 : n % 2 = 1) : bits .xor .u32 ((n : Int) / 2) 3988292384 = ((dn n : Nat) : Int) := by
  have := u32_xor_nat (n / 2) 3988292384 (by omega) (by omega)
  rw [show ((n / 2 : Nat) : Int) = (n : Int) / 2 from by omega] at this
  unfold dn
  rw [if_pos h1, ← this]
  rfl

theorem dn_even (n : Nat) (h1 : n % 2 = 0) : (n : Int) / 2 = ((dn n : Nat) : Int) := by
  unfold dn
  simp [h1]

theorem and_one (n : Nat) (h : n < 4294967296) : bits .and .u32 (n : Int) 1 = ((n % 2 : Nat) : Int) := by
  have := u32_and_nat n 1 h (by omega)
  rw [Nat.and_one_is_mod] at this
  exact this

theorem xor_byte (r : Nat) (c : UInt8) (h : r < 4294967296) : bits .xor .u32 (r : Int) (c.toNat : Int) = ((r ^^^ c.toNat : Nat) : Int) :=
  u32_xor_nat r c.toNat h (Nat.lt_of_lt_of_le (byte_lt c) (by decide))

theorem lay_lt (r : Nat) (c : UInt8) (h : r < 4294967296) : r ^^^ c.toNat < 4294967296 := by
  rw [show (4294967296 : Nat) = 2 ^ 32 from rfl]
  exact Nat.xor_lt_two_pow h (Nat.lt_of_lt_of_le (byte_lt c) (by decide))

set_option maxHeartbeats 1000000 in
theorem behind_any (r : Nat) (c : UInt8) (p : Addr) (w : World) (hr : r < 4294967296) (hp : w.cell? p = some (u4 r)) :
    Calls Tryd.prog 83 #[.pointer (some p), by1 c] w fun e w' => e = .returned (u4 (nx r c)) ∧ w' = w := by
  have hx := xor_byte r c hr
  have hl := lay_lt r c hr
  have hc := byte_lt c
  have hn : Hid (nx r c = dns 8 (r ^^^ c.toNat)) := rfl
  unfold by1
  generalize r ^^^ c.toNat = x at *
  generalize c.toNat = cn at *
  have hm : (cn : Int) % 4294967296 = (cn : Int) := by omega
  go_enter Tryd.func83, Tryd.ntmps83
  go_wp2
  go_loopw [5, 13] (fun nv i wr => ∃ n k : Nat, k ≤ 8 ∧ i = nu k ∧ nv = u4 n ∧ n < 4294967296 ∧ Hid (wr = w) ∧ Hid (dns (8 - k) n = dns 8 x)) (fun _ i _ => 8 - (intOf i).toNat)
  case atStart => exact ⟨x, 0, by omega, rfl, rfl, hl, rfl, rfl⟩
  case round =>
    obtain ⟨n, k, hk, rfl, rfl, hnl, hwr, hd⟩ := hrel
    by_cases hq : k < 8
    · have ha := and_one n hnl
      have hd' : Hid (dns (8 - (k + 1)) (dn n) = dns 8 x) := by
        show _ = _
        rw [← hd.out, show 8 - k = (8 - (k + 1)) + 1 by omega]
        rfl
      have hl2 := dn_lt hnl
      rcases Nat.mod_two_eq_zero_or_one n with h2 | h2
      · rw [h2] at ha
        have e := dn_even n h2
        clear h2
        generalize dn n = m at *
        go_wp2
        go_roundw
        case rel => exact ⟨m, k + 1, by omega, by go_num, rfl, hl2, hwr, hd'⟩
        case measure => simp [intOf]; omega
      · rw [h2] at ha
        have e := dn_odd n hnl h2
        clear h2
        generalize dn n = m at *
        go_wp2
        go_roundw
        case rel => exact ⟨m, k + 1, by omega, by go_num, rfl, hl2, hwr, hd'⟩
        case measure => simp [intOf]; omega
    · obtain rfl : k = 8 := by omega
      go_wp2
      go_ret
      exact ⟨ret_u4 (by rw [hn.out, ← hd.out]; rfl), hwr.out⟩

set_option maxHeartbeats 1000000 in
theorem next_any (r : Nat) (c : UInt8) (w : World) (hr : r < 4294967296) :
    Calls Tryd.prog 82 #[u4 r, by1 c] w fun e w' => e = .returned (u4 (nx r c)) ∧ w' = w := by
  have hx := xor_byte r c hr
  have hl := lay_lt r c hr
  have hc := byte_lt c
  have hn : Hid (nx r c = dns 8 (r ^^^ c.toNat)) := rfl
  unfold by1
  generalize r ^^^ c.toNat = x at *
  generalize c.toNat = cn at *
  have hm : (cn : Int) % 4294967296 = (cn : Int) := by omega
  go_enter Tryd.func82, Tryd.ntmps82
  go_wp2
  go_loopw [0, 5] (fun nv i wr => ∃ n k : Nat, k ≤ 8 ∧ i = nu k ∧ nv = u4 n ∧ n < 4294967296 ∧ Hid (wr = w) ∧ Hid (dns (8 - k) n = dns 8 x)) (fun _ i _ => 8 - (intOf i).toNat)
  case atStart => exact ⟨x, 0, by omega, rfl, rfl, hl, rfl, rfl⟩
  case round =>
    obtain ⟨n, k, hk, rfl, rfl, hnl, hwr, hd⟩ := hrel
    by_cases hq : k < 8
    · have ha := and_one n hnl
      have hd' : Hid (dns (8 - (k + 1)) (dn n) = dns 8 x) := by
        show _ = _
        rw [← hd.out, show 8 - k = (8 - (k + 1)) + 1 by omega]
        rfl
      have hl2 := dn_lt hnl
      rcases Nat.mod_two_eq_zero_or_one n with h2 | h2
      · rw [h2] at ha
        have e := dn_even n h2
        clear h2
        generalize dn n = m at *
        go_wp2
        go_roundw
        case rel => exact ⟨m, k + 1, by omega, by go_num, rfl, hl2, hwr, hd'⟩
        case measure => simp [intOf]; omega
      · rw [h2] at ha
        have e := dn_odd n hnl h2
        clear h2
        generalize dn n = m at *
        go_wp2
        go_roundw
        case rel => exact ⟨m, k + 1, by omega, by go_num, rfl, hl2, hwr, hd'⟩
        case measure => simp [intOf]; omega
    · obtain rfl : k = 8 := by omega
      go_wp2
      go_ret
      exact ⟨ret_u4 (by rw [hn.out, ← hd.out]; rfl), hwr.out⟩

theorem not_u4 (r : Nat) (h : r < 4294967296) : bits .xor .u32 IntKind.u32.max (r : Int) = ((4294967295 - r : Nat) : Int) := by
  rw [inv_xor r h, Nat.xor_comm]
  exact u32_xor_nat 4294967295 r (by decide) h

theorem reg_take (l : List UInt8) (r k : Nat) (h : k < l.length) : reg r (l.take (k + 1)) = nx (reg r (l.take k)) l[k] := by
  rw [List.take_succ_eq_append_getElem h, reg_append]; rfl

set_option maxHeartbeats 1000000 in
theorem refof_any (v : Value) (l : List UInt8) (w : World) (h : RdB w v l) :
    Calls Tryd.prog 78 #[v] w fun e w' => e = .returned (u4 (crc l)) ∧ w' = w := by
  obtain ⟨a, cap, rfl, hc, hm, hcell⟩ := h
  unfold maxLen at hm
  have HC : Hid (0 < l.length → ∃ g o, a = some ⟨g, o, none⟩ ∧ g < w.heap.size ∧ ∀ j (hj : j < l.length), w.cell? ⟨g, o + j, none⟩ = some (by1 l[j])) := hcell
  clear hcell
  go_enter Tryd.func78, Tryd.ntmps78
  go_wp2
  go_loopw [3, 4] (fun rv i wr => ∃ r k : Nat, k ≤ l.length ∧ i = nu k ∧ rv = u4 r ∧ r < 4294967296 ∧ Hid (wr = w) ∧ Hid (r = reg 4294967295 (l.take k))) (fun _ i _ => l.length - (intOf i).toNat)
  case atStart => exact ⟨4294967295, 0, by omega, rfl, rfl, by decide, rfl, rfl⟩
  case round =>
    obtain ⟨r, k, hk, rfl, rfl, hnl, hwr, hd⟩ := hrel
    by_cases hq : k < l.length
    · obtain ⟨g, o, rfl, _, hx⟩ := HC.out (by omega)
      have hcx : wr.cell? ⟨g, o + k, none⟩ = some (by1 l[k]) := by rw [hwr.out]; exact hx k hq
      have hd' : Hid (nx r l[k] = reg 4294967295 (l.take (k + 1))) := by
        show _ = _
        rw [reg_take l _ k hq, ← hd.out]
      clear HC hx
      generalize l[k] = x at *
      have c := next_any r x wr hnl
      have hl2 := nx_lt x r hnl
      generalize nx r x = m at *
      go_wp2_with fail
      refine c.mono ?_
      rintro e w3 ⟨rfl, hq3⟩
      subst w3
      go_wp2
      go_roundw
      case rel => exact ⟨m, k + 1, by omega, by go_num, rfl, hl2, hwr, hd'⟩
      case measure => simp [intOf]; omega
    · obtain rfl : k = l.length := by omega
      rw [List.take_length] at hd
      have hn := not_u4 r hnl
      go_wp2
      go_ret
      exact ⟨ret_u4 (by first | (rw [hn, hd.out]; rfl) | (rw [hd.out]; rfl)), hwr.out⟩
end Sm
end Go.Proofs.YtlgjnefieflmbaaDoor
