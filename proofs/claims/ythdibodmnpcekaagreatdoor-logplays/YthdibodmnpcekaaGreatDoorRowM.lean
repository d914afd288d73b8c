/- Regs, LentB, RowB, in one text. -/
import Derived.Test.YthdibodmnpcekaaGreatDoorRows
import Derived.Test.YthdibodmnpcekaaGreatDoorPoly
import Derived.WalkKit
import Derived.WalkSpells
import Derived.WalkLawsBesides
import Derived.BigQuiet
import Derived.Deep.CutBlock
import Derived.Deep.CutRange
import Derived.Deep.DeepCutAuto
import Derived.Deep.RegionWith
import Derived.Deep.RegionHeld3
import Derived.Laws.BitsAllLaws
import Derived.Deep.AppendLies
/- The calls of package sum, and the document's answer, as plain functions of rows of bytes. -/
namespace Go.Proofs.YthdibodmnpcekaaGreatDoor
set_option linter.ambiguousOpen false
open Go.RowKit
namespace Sm
set_option linter.unusedSimpArgs false
set_option linter.unusedVariables false

/-- A number of 32 bits, a byte and a number as the program holds them. -/
@[reducible] def u4 (x : Nat) : Value := .int .u32 (x : Int)

@[reducible] def by1 (b : UInt8) : Value := .int .u8 (b.toNat : Int)

@[reducible] def nu (i : Int) : Value := .int .i64 i

theorem ret_bool {b c : Bool} (h : b = c) : Ending.returned (.bool b) = .returned (.bool c) := by rw [h]

theorem ret_u4 {a b : Int} (h : a = b) : Ending.returned (.int .u32 a) = .returned (.int .u32 b) := by rw [h]

/-- The value v reads, in w, as the row l. -/
def RdB (w : World) (v : Value) (l : List UInt8) : Prop :=
  ∃ a cap, v = .slice a l.length cap ∧ l.length ≤ cap ∧ cap ≤ maxLen ∧ (0 < l.length → ∃ g o, a = some ⟨g, o, none⟩ ∧ g < w.heap.size ∧ ∀ j (hj : j < l.length), w.cell? ⟨g, o + j, none⟩ = some (by1 l[j]))

theorem RdB.below {w w' : World} {v : Value} {xs : List UInt8} (h : RdB w v xs) (hb : Below w.heap.size w w') : RdB w' v xs := by
  obtain ⟨a, cap, h1, h2, h3, h4⟩ := h
  refine ⟨a, cap, h1, h2, h3, fun h0 => ?_⟩
  obtain ⟨g, o, e1, e2, e3⟩ := h4 h0
  exact ⟨g, o, e1, Nat.lt_of_lt_of_le e2 hb.size, fun j hj => (hb.cell (p := ⟨g, o + j, none⟩) e2).trans (e3 j hj)⟩

/-- One place down, as the walk spells it. -/
theorem dn_odd (n : Nat) (h : n < 4294967296) (h1 : n % 2 = 1) : bits .xor .u32 ((n : Int) / 2) 3988292384 = ((dn n : Nat) : Int) := by
  have := u32_xor_nat (n / 2) 3988292384 (by omega) (by omega)
  rw [show ((n / 2 : Nat) : Int) = (n : Int) / 2 from by omega] at this
  unfold dn
  rw [if_pos h1, ← this]
  rfl

theorem dn_even (n : Nat) (h1 : n % 2 = 0) : (n : Int) / 2 = ((dn n : Nat) : Int) := by
  unfold dn
  simp [h1]

theorem and_one (n : Nat) (h : n < 4294967296) : bits .and .u32 (n : Int) 1 = ((n % 2 : Nat) : Int) := by
  have := u32_and_nat n 1 h (by omega)
  rw [Nat.and_one_is_mod] at this
  exact this

theorem xor_byte (r : Nat) (c : UInt8) (h : r < 4294967296) : bits .xor .u32 (r : Int) (c.toNat : Int) = ((r ^^^ c.toNat : Nat) : Int) :=
  u32_xor_nat r c.toNat h (Nat.lt_of_lt_of_le (byte_lt c) (by decide))

theorem lay_lt (r : Nat) (c : UInt8) (h : r < 4294967296) : r ^^^ c.toNat < 4294967296 := by
  rw [show (4294967296 : Nat) = 2 ^ 32 from rfl]
  exact Nat.xor_lt_two_pow h (Nat.lt_of_lt_of_le (byte_lt c) (by decide))

set_option maxHeartbeats 1000000 in
theorem behind_any (r : Nat) (c : UInt8) (p : Addr) (w : World) (hr : r < 4294967296) (hp : w.cell? p = some (u4 r)) :
    Calls Tryz.prog 84 #[.pointer (some p), by1 c] w fun e w' => e = .returned (u4 (nx r c)) ∧ w' = w := by
  have hx := xor_byte r c hr
  have hl := lay_lt r c hr
  have hc := byte_lt c
  have hn : Hid (nx r c = dns 8 (r ^^^ c.toNat)) := rfl
  unfold by1
  generalize r ^^^ c.toNat = x at *
  generalize c.toNat = cn at *
  have hm : (cn : Int) % 4294967296 = (cn : Int) := by omega
  go_enter Tryz.func84, Tryz.ntmps84
  go_wp2
  go_loopw [5, 13] (fun nv i wr => ∃ n k : Nat, k ≤ 8 ∧ i = nu k ∧ nv = u4 n ∧ n < 4294967296 ∧ Hid (wr = w) ∧ Hid (dns (8 - k) n = dns 8 x)) (fun _ i _ => 8 - (intOf i).toNat)
  case atStart => exact ⟨x, 0, by omega, rfl, rfl, hl, rfl, rfl⟩
  case round =>
    obtain ⟨n, k, hk, rfl, rfl, hnl, hwr, hd⟩ := hrel
    by_cases hq : k < 8
    · have ha := and_one n hnl
      have hd' : Hid (dns (8 - (k + 1)) (dn n) = dns 8 x) := by
        show _ = _
        rw [← hd.out, show 8 - k = (8 - (k + 1)) + 1 by omega]
        rfl
      have hl2 := dn_lt hnl
      rcases Nat.mod_two_eq_zero_or_one n with h2 | h2
      · rw [h2] at ha
        have e := dn_even n h2
        clear h2
        generalize dn n = m at *
        go_wp2
        go_roundw
        case rel => exact ⟨m, k + 1, by omega, by go_num, rfl, hl2, hwr, hd'⟩
        case measure => simp [intOf]; omega
      · rw [h2] at ha
        have e := dn_odd n hnl h2
        clear h2
        generalize dn n = m at *
        go_wp2
        go_roundw
        case rel => exact ⟨m, k + 1, by omega, by go_num, rfl, hl2, hwr, hd'⟩
        case measure => simp [intOf]; omega
    · obtain rfl : k = 8 := by omega
      go_wp2
      go_ret
      exact ⟨ret_u4 (by rw [hn.out, ← hd.out]; rfl), hwr.out⟩

set_option maxHeartbeats 1000000 in
theorem next_any (r : Nat) (c : UInt8) (w : World) (hr : r < 4294967296) :
    Calls Tryz.prog 85 #[u4 r, by1 c] w fun e w' => e = .returned (u4 (nx r c)) ∧ w' = w := by
  have hx := xor_byte r c hr
  have hl := lay_lt r c hr
  have hc := byte_lt c
  have hn : Hid (nx r c = dns 8 (r ^^^ c.toNat)) := rfl
  unfold by1
  generalize r ^^^ c.toNat = x at *
  generalize c.toNat = cn at *
  have hm : (cn : Int) % 4294967296 = (cn : Int) := by omega
  go_enter Tryz.func85, Tryz.ntmps85
  go_wp2
  go_loopw [0, 5] (fun nv i wr => ∃ n k : Nat, k ≤ 8 ∧ i = nu k ∧ nv = u4 n ∧ n < 4294967296 ∧ Hid (wr = w) ∧ Hid (dns (8 - k) n = dns 8 x)) (fun _ i _ => 8 - (intOf i).toNat)
  case atStart => exact ⟨x, 0, by omega, rfl, rfl, hl, rfl, rfl⟩
  case round =>
    obtain ⟨n, k, hk, rfl, rfl, hnl, hwr, hd⟩ := hrel
    by_cases hq : k < 8
    · have ha := and_one n hnl
      have hd' : Hid (dns (8 - (k + 1)) (dn n) = dns 8 x) := by
        show _ = _
        rw [← hd.out, show 8 - k = (8 - (k + 1)) + 1 by omega]
        rfl
      have hl2 := dn_lt hnl
      rcases Nat.mod_two_eq_zero_or_one n with h2 | h2
      · rw [h2] at ha
        have e := dn_even n h2
        clear h2
        generalize dn n = m at *
        go_wp2
        go_roundw
        case rel => exact ⟨m, k + 1, by omega, by go_num, rfl, hl2, hwr, hd'⟩
        case measure => simp [intOf]; omega
      · rw [h2] at ha
        have e := dn_odd n hnl h2
        clear h2
        generalize dn n = m at *
        go_wp2
        go_roundw
        case rel => exact ⟨m, k + 1, by omega, by go_num, rfl, hl2, hwr, hd'⟩
        case measure => simp [intOf]; omega
    · obtain rfl : k = 8 := by omega
      go_wp2
      go_ret
      exact ⟨ret_u4 (by rw [hn.out, ← hd.out]; rfl), hwr.out⟩

theorem not_u4 (r : Nat) (h : r < 4294967296) : bits .xor .u32 IntKind.u32.max (r : Int) = ((4294967295 - r : Nat) : Int) := by
  rw [inv_xor r h, Nat.xor_comm]
  exact u32_xor_nat 4294967295 r (by decide) h

theorem reg_take (l : List UInt8) (r k : Nat) (h : k < l.length) : reg r (l.take (k + 1)) = nx (reg r (l.take k)) l[k] := by
  rw [List.take_succ_eq_append_getElem h, reg_append]; rfl

set_option maxHeartbeats 1000000 in
theorem refof_any (v : Value) (l : List UInt8) (w : World) (h : RdB w v l) :
    Calls Tryz.prog 81 #[v] w fun e w' => e = .returned (u4 (crc l)) ∧ w' = w := by
  obtain ⟨a, cap, rfl, hc, hm, hcell⟩ := h
  unfold maxLen at hm
  have HC : Hid (0 < l.length → ∃ g o, a = some ⟨g, o, none⟩ ∧ g < w.heap.size ∧ ∀ j (hj : j < l.length), w.cell? ⟨g, o + j, none⟩ = some (by1 l[j])) := hcell
  clear hcell
  go_enter Tryz.func81, Tryz.ntmps81
  go_wp2
  go_loopw [3, 4] (fun rv i wr => ∃ r k : Nat, k ≤ l.length ∧ i = nu k ∧ rv = u4 r ∧ r < 4294967296 ∧ Hid (wr = w) ∧ Hid (r = reg 4294967295 (l.take k))) (fun _ i _ => l.length - (intOf i).toNat)
  case atStart => exact ⟨4294967295, 0, by omega, rfl, rfl, by decide, rfl, rfl⟩
  case round =>
    obtain ⟨r, k, hk, rfl, rfl, hnl, hwr, hd⟩ := hrel
    by_cases hq : k < l.length
    · obtain ⟨g, o, rfl, _, hx⟩ := HC.out (by omega)
      have hcx : wr.cell? ⟨g, o + k, none⟩ = some (by1 l[k]) := by rw [hwr.out]; exact hx k hq
      have hd' : Hid (nx r l[k] = reg 4294967295 (l.take (k + 1))) := by
        show _ = _
        rw [reg_take l _ k hq, ← hd.out]
      clear HC hx
      generalize l[k] = x at *
      have c := next_any r x wr hnl
      have hl2 := nx_lt x r hnl
      generalize nx r x = m at *
      go_wp2_with fail
      refine c.mono ?_
      rintro e w3 ⟨rfl, hq3⟩
      subst w3
      go_wp2
      go_roundw
      case rel => exact ⟨m, k + 1, by omega, by go_num, rfl, hl2, hwr, hd'⟩
      case measure => simp [intOf]; omega
    · obtain rfl : k = l.length := by omega
      rw [List.take_length] at hd
      have hn := not_u4 r hnl
      go_wp2
      go_ret
      exact ⟨ret_u4 (by first | (rw [hn, hd.out]; rfl) | (rw [hd.out]; rfl)), hwr.out⟩
end Sm
end Go.Proofs.YthdibodmnpcekaaGreatDoor
/- Rows of bytes that are lent with marks behind, and looked at again. -/
namespace Go.Proofs.YthdibodmnpcekaaGreatDoor
set_option linter.ambiguousOpen false
open Go.RowKit
namespace Sm
set_option linter.unusedSimpArgs false
set_option linter.unusedVariables false

theorem info_byte : (Tryz.prog.info? 5).map (fun i => (i.zero, i.size, i.bytes)) = some (some (.int .u8 0), 1, 1) := by kernel_rfl

/-- The mark of a place. -/
def mkB (i : Int) : UInt8 := UInt8.ofNat ((3367 + i) % 256).toNat

def mksB (n : Nat) : List UInt8 := (List.range n).map (fun i : Nat => mkB i)

theorem mksB_len (n : Nat) : (mksB n).length = n := by simp [mksB]

theorem mksB_succ (n : Nat) : mksB (n + 1) = mksB n ++ [mkB n] := by simp [mksB, List.range_succ]

theorem mkB_val (i : Int) : ((mkB i).toNat : Int) = (3367 + i) % 256 := by
  unfold mkB
  have h : ((3367 + i) % 256).toNat < 256 := by omega
  rw [UInt8.toNat_ofNat', Nat.mod_eq_of_lt (by simpa using h)]
  omega

theorem markB_any (i : Int) (h1 : -4611686018427387904 ≤ i) (h2 : i ≤ 4611686018427387904) (w : World) :
    Calls Tryz.prog 56 #[nu 90, nu i] w fun e w' => e = .returned (by1 (mkB i)) ∧ w' = w := by
  have hv := mkB_val i
  unfold by1
  generalize ((mkB i).toNat : Int) = m at *
  subst m
  go_enter Tryz.func56, Tryz.ntmps56
  go_wp2
  go_ret
  exact ⟨rfl, rfl⟩

set_option maxRecDepth 100000 in
set_option maxHeartbeats 2000000 in
theorem fullB_any (v : Value) (l : List UInt8) (w : World) (hR : RdB w v l) (hl : l.length ≤ 140737488351232) :
    Calls Tryz.prog 47 #[v] w fun e w' => ∃ v', e = .returned v' ∧ w'.ownsRow w.heap.size 5 1 v' (l.length + 16) ((l ++ mksB 16).map by1) ∧ Below w.heap.size w w' := by
  obtain ⟨i0, hi, hz0, hz1, hz2⟩ := info_parts info_byte
  obtain ⟨a, cap, rfl, hc, hm, hcell⟩ := hR
  unfold maxLen at hm
  have HC : Hid (0 < l.length → ∃ g o, a = some ⟨g, o, none⟩ ∧ g < w.heap.size ∧ ∀ j (hj : j < l.length), w.cell? ⟨g, o + j, none⟩ = some (by1 l[j])) := hcell
  clear hcell
  go_enter Tryz.func47, Tryz.ntmps47
  go_wp2
  go_loopw [3, 4] (fun pv iv wr => ∃ k : Nat, k ≤ l.length ∧ iv = .int .i64 k ∧ wr.ownsRow w.heap.size 5 1 pv k ((l.take k).map by1) ∧ Below w.heap.size w wr) (fun _ iv _ => l.length - (intOf iv).toNat)
  case atStart => exact ⟨0, Nat.zero_le _, rfl, World.ownsRow_nil _ _ _ _, Below.refl _ _⟩
  case round =>
    obtain ⟨k, hk, rfl, hown, hbel⟩ := hrel
    by_cases hp : k < l.length
    · obtain ⟨g, o, rfl, hgl, hcj⟩ := HC.out (Nat.lt_of_le_of_lt (Nat.zero_le _) hp)
      have hck : wr.cell? ⟨g, o + k, none⟩ = some (by1 l[k]) := (hbel.cell (p := ⟨g, o + k, none⟩) hgl).trans (hcj k hp)
      have HS : Hid ((l.take (k + 1)).map by1 = (l.take k).map by1 ++ [by1 l[k]]) := by
        show _ = _
        rw [List.take_succ_eq_append_getElem hp, List.map_append]; rfl
      clear hcj
      generalize l[k] = x at *
      go_wp2_with (at_builtin; refine wpList_append_own _ rfl _ _ 46 rfl w.heap.size 5 i0 (.int .u8 0) 1 1 Tryz.underlying46 hi hz0 hz1 hz2 rfl (by decide) _ _ _ rfl (hown.alloc _) ⟨wr.heap.size, 0, none⟩ 1 1 [by1 x] rfl rfl (cell_one_new _ _ _) (by simp [Value.oneCell']) (by unfold maxLen; omega) (by omega) (by have := hbel.size; simp; omega) ?_; intro v' w4 hown4 hgrow _; have hbel4 : Below w.heap.size w w4 := Below.grown (hbel.alloc (by exact hbel.size) _) hgrow (by have := hbel.size; simp; omega) (fun k hk => (hown.lt k hk).1))
      go_roundw
      case rel => exact ⟨k + 1, by omega, by go_num, by rw [HS.out]; exact hown4, hbel4⟩
      case measure => simp [intOf]; omega
    · obtain rfl : k = l.length := by omega
      rw [List.take_length] at hown
      rename World => w1
      go_wp2
      go_loopw [3, 5] (fun pv iv wr => ∃ k : Nat, k ≤ 16 ∧ iv = .int .i64 k ∧ wr.ownsRow w.heap.size 5 1 pv (l.length + k) ((l ++ mksB k).map by1) ∧ Below w.heap.size w wr) (fun _ iv _ => 16 - (intOf iv).toNat)
      case atStart => exact ⟨0, Nat.zero_le _, rfl, by simpa [mksB] using hown, hbel⟩
      case round =>
        obtain ⟨k, hk2, rfl, hown2, hbel2⟩ := hrel
        by_cases hp2 : k < 16
        · have cm := markB_any k (by omega) (by omega) wr
          have HS : Hid ((l ++ mksB (k + 1)).map by1 = (l ++ mksB k).map by1 ++ [by1 (mkB k)]) := by
            show _ = _
            rw [mksB_succ, ← List.append_assoc, List.map_append]; rfl
          go_wp2_with fail
          refine cm.mono ?_
          rintro e w3 ⟨rfl, hq⟩
          subst w3
          generalize mkB k = ms at *
          go_wp2_with (at_builtin; refine wpList_append_own _ rfl _ _ 46 rfl w.heap.size 5 i0 (.int .u8 0) 1 1 Tryz.underlying46 hi hz0 hz1 hz2 rfl (by decide) _ _ _ rfl (hown2.alloc _) ⟨wr.heap.size, 0, none⟩ 1 1 [by1 ms] rfl rfl (cell_one_new _ _ _) (by simp [Value.oneCell']) (by unfold maxLen; omega) (by omega) (by have := hbel2.size; simp; omega) ?_; intro v' w4 hown4 hgrow _; have hbel4 : Below w.heap.size w w4 := Below.grown (hbel2.alloc (by exact hbel2.size) _) hgrow (by have := hbel2.size; simp; omega) (fun k hk => (hown2.lt k hk).1))
          go_roundw
          case rel => exact ⟨k + 1, by omega, by go_num, by rw [HS.out]; exact hown4, hbel4⟩
          case measure => simp [intOf]; omega
        · obtain rfl : k = 16 := by omega
          go_wp2
          go_ret
          exact ⟨_, rfl, hown2, hbel2⟩

theorem own_posB {w : World} {base n : Nat} {v : Value} {e : TypeId} {xs : List Value} (h : w.ownsRow base e 1 v n xs) (hn : 0 < n) : ∃ g cap, v = .slice (some ⟨g, 0, none⟩) n cap ∧ n ≤ cap ∧ cap ≤ maxLen ∧ base ≤ g ∧ g < w.heap.size := by
  rcases h.2 with ⟨_, h0⟩ | ⟨g, cap, cur, rfl, h1, h2, h3, h4, _⟩
  · omega
  · exact ⟨g, cap, rfl, h3, h4, h1, (Array.getElem?_eq_some_iff.1 h2).1⟩

set_option maxRecDepth 100000 in
set_option maxHeartbeats 1000000 in
theorem lentB_any (v : Value) (l : List UInt8) (w : World) (hR : RdB w v l) (hl : l.length ≤ 140737488351232) :
    Calls Tryz.prog 22 #[v] w fun e w' => ∃ g cap, e = .returned (.slice (some ⟨g, 0, none⟩) l.length cap) ∧ l.length + 16 ≤ cap ∧ cap ≤ maxLen ∧ w'.ownsRow w.heap.size 5 1 (.slice (some ⟨g, 0, none⟩) (l.length + 16) cap) (l.length + 16) ((l ++ mksB 16).map by1) ∧ Below w.heap.size w w' := by
  have c := fullB_any v l w hR hl
  obtain ⟨a, cap0, rfl, hc, hm, hcell⟩ := hR
  unfold maxLen at hm
  clear hcell
  go_enter Tryz.func22, Tryz.ntmps22
  go_wp2_with fail
  refine c.mono ?_
  rintro e w1 ⟨v', rfl, hown, hb⟩
  obtain ⟨g, cap, rfl, h1, h2, h3, h4⟩ := own_posB hown (by omega)
  have h2' := h2
  unfold maxLen at h2
  have HO : Hid (w1.ownsRow w.heap.size 5 1 (.slice (some ⟨g, 0, none⟩) (l.length + 16) cap) (l.length + 16) ((l ++ mksB 16).map by1)) := hown
  clear hown
  go_wp2
  go_ret
  exact ⟨g, cap, rfl, h1, h2', HO.out, hb⟩

theorem row_atB {w : World} {base g cap n : Nat} {e : TypeId} {xs : List Value} (h : w.ownsRow base e 1 (.slice (some ⟨g, 0, none⟩) n cap) n xs) (k : Nat) (hk : k < n) (hx : k < xs.length) : w.cell? ⟨g, k, none⟩ = some xs[k] := by
  rcases h.2 with ⟨h0, _⟩ | ⟨g', cap', cur, hv, h1, h2, h3, h4, h5, h6⟩
  · cases h0
  · simp only [Value.slice.injEq, Option.some.injEq, Addr.mk.injEq, and_true, true_and] at hv
    obtain ⟨rfl, rfl⟩ := hv
    have hc : k < cur.size := by omega
    have e1 : xs[k] = cur[k] := by
      have : xs[k]? = (cur.toList.take (n * 1))[k]? := by rw [h6]
      rw [List.getElem?_eq_getElem hx, List.getElem?_take_of_lt (by omega), Array.getElem?_toList, Array.getElem?_eq_getElem hc] at this
      exact Option.some.inj this
    simp [World.cell?, h2, e1, Array.getElem?_eq_getElem hc]

set_option maxRecDepth 100000 in
set_option maxHeartbeats 2000000 in
theorem keptFullB_any (v : Value) (l : List UInt8) (g cap base : Nat) (w : World) (hR : RdB w v l) (hl : l.length ≤ 140737488351232) (hcap : l.length + 16 ≤ cap) (hcm : cap ≤ maxLen)
    (hown : w.ownsRow base 5 1 (.slice (some ⟨g, 0, none⟩) (l.length + 16) cap) (l.length + 16) ((l ++ mksB 16).map by1)) (hgl : g < w.heap.size) :
    Calls Tryz.prog 52 #[.slice (some ⟨g, 0, none⟩) (l.length + 16) cap, v] w fun e w' => e = .returned (.bool true) ∧ Below w.heap.size w w' := by
  have HX : Hid (∀ j (hj : j < l.length), w.cell? ⟨g, j, none⟩ = some (by1 l[j])) := fun j hj => by
    have := row_atB hown j (by omega) (by simp [mksB_len]; omega)
    rw [this, List.getElem_map, List.getElem_append_left hj]
  have HY : Hid (∀ j, j < 16 → w.cell? ⟨g, l.length + j, none⟩ = some (by1 (mkB j))) := fun j hj => by
    have := row_atB hown (l.length + j) (by omega) (by simp [mksB_len]; omega)
    rw [this]
    simp [List.getElem_append_right, mksB]
  obtain ⟨a, cap0, rfl, hc, hm, hcell⟩ := hR
  unfold maxLen at hm hcm
  have HC : Hid (0 < l.length → ∃ g o, a = some ⟨g, o, none⟩ ∧ g < w.heap.size ∧ ∀ j (hj : j < l.length), w.cell? ⟨g, o + j, none⟩ = some (by1 l[j])) := hcell
  clear hcell hown
  have hlen : (((l.length + 16 : Nat) : Int) != (l.length : Int) + 16) = false := by rw [bne_eq_false_iff_eq]; omega
  go_enter Tryz.func52, Tryz.ntmps52
  go_wp2
  go_loopw [5] (fun iv wr => ∃ k : Nat, k ≤ l.length + 16 ∧ iv = .int .i64 k ∧ Below w.heap.size w wr) (fun iv _ => l.length + 16 - (intOf iv).toNat)
  case atStart => exact ⟨0, Nat.zero_le _, rfl, Below.refl _ _⟩
  case round =>
    obtain ⟨k, hk, rfl, hbel⟩ := hrel
    by_cases hp : k < l.length + 16
    · by_cases hq : k < l.length
      · obtain ⟨g2, o2, rfl, hgl2, hcj⟩ := HC.out (Nat.lt_of_le_of_lt (Nat.zero_le _) hq)
        have cm := markB_any ((k : Int) - (l.length : Int)) (by omega) (by omega) wr
        have hc1 : wr.cell? ⟨g2, o2 + k, none⟩ = some (by1 l[k]) := (hbel.cell (p := ⟨g2, o2 + k, none⟩) hgl2).trans (hcj k hq)
        have hc2 : wr.cell? ⟨g, k, none⟩ = some (by1 l[k]) := (hbel.cell (p := ⟨g, k, none⟩) hgl).trans (HX.out k hq)
        generalize l[k] = x at *
        generalize mkB ((k : Int) - (l.length : Int)) = ms at *
        clear hcj
        go_wp2_with fail
        refine cm.mono ?_
        rintro e w3 ⟨rfl, hq3⟩
        subst w3
        go_wp2
        go_roundw
        case rel => exact ⟨k + 1, by omega, by go_num, hbel⟩
        case measure => simp [intOf]; omega
      · obtain ⟨j, rfl⟩ : ∃ j, k = l.length + j := ⟨k - l.length, by omega⟩
        have ej : ((l.length + j : Nat) : Int) - (l.length : Int) = (j : Int) := by omega
        have cm := markB_any (((l.length + j : Nat) : Int) - (l.length : Int)) (by omega) (by omega) wr
        have hc2 : wr.cell? ⟨g, l.length + j, none⟩ = some (by1 (mkB (((l.length + j : Nat) : Int) - (l.length : Int)))) := by rw [ej]; exact (hbel.cell (p := ⟨g, l.length + j, none⟩) hgl).trans (HY.out j (by omega))
        clear ej
        generalize mkB (((l.length + j : Nat) : Int) - (l.length : Int)) = ms at *
        go_wp2_with fail
        refine cm.mono ?_
        rintro e w3 ⟨rfl, hq3⟩
        subst w3
        go_wp2
        go_roundw
        case rel => exact ⟨l.length + j + 1, by omega, by go_num, hbel⟩
        case measure => simp [intOf]; omega
    · obtain rfl : k = l.length + 16 := by omega
      go_wp2
      go_ret
      exact ⟨rfl, hbel⟩

set_option maxRecDepth 100000 in
set_option maxHeartbeats 1000000 in
theorem keptB_any (v : Value) (l : List UInt8) (g cap base : Nat) (w : World) (hR : RdB w v l) (hl : l.length ≤ 140737488351232) (hcap : l.length + 16 ≤ cap) (hcm : cap ≤ maxLen)
    (hown : w.ownsRow base 5 1 (.slice (some ⟨g, 0, none⟩) (l.length + 16) cap) (l.length + 16) ((l ++ mksB 16).map by1)) (hgl : g < w.heap.size) :
    Calls Tryz.prog 25 #[.slice (some ⟨g, 0, none⟩) l.length cap, v] w fun e w' => e = .returned (.bool true) ∧ Below w.heap.size w w' := by
  have c := keptFullB_any v l g cap base w hR hl hcap hcm hown hgl
  obtain ⟨a, cap0, rfl, hc, hm, hcell⟩ := hR
  unfold maxLen at hm hcm
  clear hcell hown
  have hn : ((l.length : Int) + 16).toNat = l.length + 16 := by omega
  go_enter Tryz.func25, Tryz.ntmps25
  go_wp2_with (first | (simp only [hn]) | fail)
  refine c.mono ?_
  rintro e w1 ⟨rfl, hb⟩
  go_wp2
  go_ret
  exact ⟨rfl, hb⟩

theorem rdB_lent {w : World} {base g cap : Nat} {l : List UInt8} (hown : w.ownsRow base 5 1 (.slice (some ⟨g, 0, none⟩) (l.length + 16) cap) (l.length + 16) ((l ++ mksB 16).map by1)) (hcap : l.length + 16 ≤ cap) (hcm : cap ≤ maxLen) (hgl : g < w.heap.size) :
    RdB w (.slice (some ⟨g, 0, none⟩) l.length cap) l := by
  refine ⟨_, cap, rfl, by omega, hcm, fun _ => ⟨g, 0, rfl, hgl, fun j hj => ?_⟩⟩
  rw [Nat.zero_add]
  have := row_atB hown j (by omega) (by simp [mksB_len]; omega)
  rw [this, List.getElem_map, List.getElem_append_left hj]
end Sm
end Go.Proofs.YthdibodmnpcekaaGreatDoor
/- Rows of bytes: what every layer with rows of bytes asks (taken out of layer 6's texts). -/
namespace Go.Proofs.YthdibodmnpcekaaGreatDoor
set_option linter.ambiguousOpen false
open Go.RowKit
namespace Sm
set_option linter.unusedSimpArgs false
set_option linter.unusedVariables false

theorem ret_nu {a b : Int} (h : a = b) : Ending.returned (.int .i64 a) = .returned (.int .i64 b) := by rw [h]

theorem pick_any (k : Int) (n : Nat) (w : World) (hn : 0 < n) (hn2 : n ≤ 4611686018427387904) (hk : -9223372036854775808 ≤ k ∧ k ≤ 9223372036854775807) :
    Calls Tryz.prog 4 #[nu k, nu n] w fun e w' => e = .returned (nu (k % (n : Int))) ∧ w' = w := by
  have d1 : (decide ((n : Int) < 1)) = false := by simp; omega
  have e1 := Int.emod_add_mul_ediv k n
  have e2 := Int.emod_nonneg k (b := (n : Int)) (by omega)
  have e3 := Int.emod_lt_of_pos k (b := (n : Int)) (by omega)
  have te : k.tmod n = k % (n : Int) ∨ k.tmod n = k % (n : Int) - n := by
    rw [Int.tmod_eq_emod]
    split
    · left; omega
    · right; simp
  clear e1
  by_cases h : k.tmod n < 0
  · have HT : Hid (k.tmod n + n = k % (n : Int)) := by
      show _ = _
      omega
    have b1 : -(n : Int) ≤ k.tmod n := by omega
    clear te e2 e3
    go_enter Tryz.func4, Tryz.ntmps4
    go_wp2
    go_ret
    exact ⟨ret_nu HT.out, rfl⟩
  · have HT : Hid (k.tmod n = k % (n : Int)) := by
      show _ = _
      omega
    clear te e2 e3
    go_enter Tryz.func4, Tryz.ntmps4
    go_wp2
    go_ret
    exact ⟨ret_nu HT.out, rfl⟩

/-- The i-th byte of a text. -/
def byI (l : List UInt8) (i : Nat) : UInt8 := l.getD i 0

/-- A text of a list of bytes. -/
@[reducible] def tx (l : List UInt8) : ByteArray := ⟨l.toArray⟩

theorem idx_at (l : List UInt8) (i : Nat) (h : i < l.length) (w : World) : (Instr.index 9 (.string (tx l)) (.int .i64 (i : Int))).run Tryz.prog w = .ok (by1 (byI l i)) w := by
  have hs : (tx l).size = l.length := rfl
  rw [run_index_string w 9 (tx l) .i64 i Tryz.underlying9, dif_pos ⟨by omega, by omega⟩]
  have e : ((i : Int)).toNat = i := by omega
  unfold byI
  rw [List.getD_eq_getElem?_getD, List.getElem?_eq_getElem h]
  simp only [e]
  rfl

theorem own_keptB {w w' : World} {base : Nat} {e : TypeId} {size : Nat} {v : Value} {n : Nat} {xs : List Value} (h : w.ownsRow base e size v n xs) (hb : Below w.heap.size w w') : w'.ownsRow base e size v n xs := by
  refine ⟨h.1, ?_⟩
  rcases h.2 with hn | ⟨g, cap, cur, rfl, hbg, hgg, rest⟩
  · exact .inl hn
  · refine .inr ⟨g, cap, cur, rfl, hbg, ?_, rest⟩
    rw [hb.block g (Array.getElem?_eq_some_iff.1 hgg).1]
    exact hgg

theorem own_rd {w : World} {base : Nat} {v : Value} {l : List UInt8} (h : w.ownsRow base 5 1 v l.length (l.map by1)) : RdB w v l := by
  rcases h.2 with ⟨rfl, h0⟩ | ⟨g, cap, cur, rfl, h1, h2, h3, h4, h5, h6⟩
  · exact ⟨none, 0, by rw [h0], by omega, by decide, fun h => by omega⟩
  · refine ⟨_, cap, rfl, h3, h4, fun _ => ⟨g, 0, rfl, (Array.getElem?_eq_some_iff.1 h2).1, fun j hj => ?_⟩⟩
    rw [Nat.zero_add]
    have := row_atB h j hj (by simpa using hj)
    rw [this, List.getElem_map]

theorem rd_nil (w : World) : RdB w (.slice none 0 0) [] := ⟨none, 0, rfl, Nat.le_refl _, by decide, fun h => by simp at h⟩

theorem own_rd' {w : World} {base k : Nat} {v : Value} {l : List UInt8} (h : w.ownsRow base 5 1 v k (l.map by1)) (hl : l.length = k) : RdB w v l := by
  subst hl; exact own_rd h

theorem Hid.mk' {p : Prop} (h : p) : Hid p := h

theorem hbel_cell {w w' : World} {g o : Nat} {v : Value} (h : Below w.heap.size w w') (hg : g < w.heap.size) (hc : w.cell? ⟨g, o, none⟩ = some v) : w'.cell? ⟨g, o, none⟩ = some v := (h.cell (p := ⟨g, o, none⟩) hg).trans hc

theorem own_set {w : World} {base g cap n : Nat} {e : TypeId} {xs : List Value} (h : w.ownsRow base e 1 (.slice (some ⟨g, 0, none⟩) n cap) n xs) (i : Nat) (u : Value) :
    (w.setCell ⟨g, i, none⟩ u).ownsRow base e 1 (.slice (some ⟨g, 0, none⟩) n cap) n (xs.set i u) := by
  rcases h.2 with ⟨hv, _⟩ | ⟨g', cap', cur, hv, hbg, hg, hnc, hcm, hcs, htake⟩
  · simp at hv
  · simp only [Value.slice.injEq, Option.some.injEq, Addr.mk.injEq, and_true, true_and] at hv
    obtain ⟨rfl, rfl⟩ := hv
    refine ⟨by simpa using h.1, .inr ⟨g, cap, cur.setIfInBounds i u, rfl, hbg, ?_, hnc, hcm, by simpa using hcs, ?_⟩⟩
    · have hlt : g < w.heap.size := (Array.getElem?_eq_some_iff.1 hg).1
      simp [World.setCell, Array.getElem?_modify, hg]
    · rw [← htake]
      simp [List.take_set]

theorem own_free {w : World} {base g cap n : Nat} {e : TypeId} {xs : List Value} (h : w.ownsRow base e 1 (.slice (some ⟨g, 0, none⟩) n cap) n xs) (i : Nat) : w.frozen? ⟨g, i, none⟩ = false := by
  rcases h.2 with ⟨hv, _⟩ | ⟨g', cap', cur, hv, hbg, hg, hnc, hcm, hcs, htake⟩
  · simp at hv
  · simp only [Value.slice.injEq, Option.some.injEq, Addr.mk.injEq, and_true, true_and] at hv
    obtain ⟨rfl, rfl⟩ := hv
    simp [World.frozen?, hg]

theorem slice_to (a : Option Addr) (len cap k : Nat) (h : k ≤ cap) (w : World) : (Instr.slice 46 (.slice a len cap) none (some (.int .i64 (k : Int))) none).run Tryz.prog w = .ok (.slice a k cap) w := by
  have h1 : (0 : Int) ≤ (k : Int) ∧ (k : Int) ≤ (cap : Int) := by omega
  have hu := Tryz.underlying46
  cases a with
  | none =>
    simp [Instr.slice, Instr.sliceBounds, Instr.sliceBound, asIntOf, run_underlying hu]
    intro hh; omega
  | some ad =>
    simp [Instr.slice, Instr.sliceBounds, Instr.sliceBound, asIntOf, run_underlying hu, Addr.add]
    intro hh; omega

/-- Where a slice lies that begins k further on. -/
def further (a : Option Addr) (cap k : Nat) : Option Addr :=
  match a with
  | none => none
  | some ad => if cap = k then some ad else some (if k = 0 then ad else { block := ad.block, off := ad.off + k })

theorem slice_from (a : Option Addr) (len cap k : Nat) (h : k ≤ len) (hc : len ≤ cap) (w : World) : (Instr.slice 46 (.slice a len cap) (some (.int .i64 (k : Int))) none none).run Tryz.prog w = .ok (.slice (further a cap k) (len - k) (cap - k)) w := by
  have h1 : (0 : Int) ≤ (k : Int) ∧ (k : Int) ≤ (cap : Int) := by omega
  have hu := Tryz.underlying46
  cases a with
  | none =>
    simp [Instr.slice, Instr.sliceBounds, Instr.sliceBound, asIntOf, run_underlying hu, further]
    intro hh; omega
  | some ad =>
    simp [Instr.slice, Instr.sliceBounds, Instr.sliceBound, asIntOf, run_underlying hu, Addr.add, further]
    intro hh; omega

theorem RdB.take {w : World} {a : Option Addr} {l : List UInt8} {cap : Nat} (h : RdB w (.slice a l.length cap) l) (m : Nat) (hm : m ≤ l.length) : RdB w (.slice a m cap) (l.take m) := by
  obtain ⟨a', cap', e, h1, h2, h3⟩ := h
  cases e
  have hl : (l.take m).length = m := by rw [List.length_take]; omega
  refine ⟨a, cap, by rw [hl], by omega, h2, fun h0 => ?_⟩
  rw [hl] at h0
  obtain ⟨g, o, e1, e2, e3⟩ := h3 (by omega)
  exact ⟨g, o, e1, e2, fun j hj => by
    rw [hl] at hj
    rw [e3 j (by omega), List.getElem_take]⟩

theorem RdB.drop {w : World} {a : Option Addr} {l : List UInt8} {cap : Nat} (h : RdB w (.slice a l.length cap) l) (m : Nat) (hm : m ≤ l.length) : RdB w (.slice (further a cap m) (l.length - m) (cap - m)) (l.drop m) := by
  obtain ⟨a', cap', e, h1, h2, h3⟩ := h
  cases e
  have hl : (l.drop m).length = l.length - m := by rw [List.length_drop]
  refine ⟨further a cap m, cap - m, by rw [hl], by omega, by omega, fun h0 => ?_⟩
  rw [hl] at h0
  obtain ⟨g, o, rfl, e2, e3⟩ := h3 (by omega)
  refine ⟨g, o + m, ?_, e2, fun j hj => ?_⟩
  · unfold further
    simp only []
    rw [if_neg (by omega)]
    by_cases h0 : m = 0
    · subst h0; rfl
    · rw [if_neg h0]
  · rw [hl] at hj
    have := e3 (m + j) (by omega)
    rw [← Nat.add_assoc] at this
    rw [this, List.getElem_drop]

theorem tx_take (l : List UInt8) (k : Nat) : (tx l).extract 0 k = tx (l.take k) := by
  apply ByteArray.ext
  simp

theorem tx_drop (l : List UInt8) (k : Nat) : (tx l).extract k l.length = tx (l.drop k) := by
  apply ByteArray.ext
  simp
  rw [List.take_of_length_le (by simp)]

/-- A text is cut. -/
theorem cutS_to (l : List UInt8) (k : Nat) (h : k ≤ l.length) (w : World) : (Instr.slice 9 (.string (tx l)) none (some (.int .i64 (k : Int))) none).run Tryz.prog w = .ok (.string (tx (l.take k))) w := by
  have hu := Tryz.underlying9
  have hs : (tx l).size = l.length := rfl
  have h1 : (0 : Int) ≤ (k : Int) ∧ (k : Int) ≤ (l.length : Int) := by omega
  simp [Instr.slice, Instr.sliceBounds, Instr.sliceBound, asIntOf, run_underlying hu, hs]
  rw [if_pos h, tx_take]

theorem cutS_from (l : List UInt8) (k : Nat) (h : k ≤ l.length) (w : World) : (Instr.slice 9 (.string (tx l)) (some (.int .i64 (k : Int))) none none).run Tryz.prog w = .ok (.string (tx (l.drop k))) w := by
  have hu := Tryz.underlying9
  have hs : (tx l).size = l.length := rfl
  have h1 : (0 : Int) ≤ (k : Int) ∧ (k : Int) ≤ (l.length : Int) := by omega
  simp [Instr.slice, Instr.sliceBounds, Instr.sliceBound, asIntOf, run_underlying hu, hs]
  rw [if_pos h, tx_drop]
end Sm
end Go.Proofs.YthdibodmnpcekaaGreatDoor
