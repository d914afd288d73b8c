/- SumKnown: the chapter's examples, all rows of a byte, bits at many places of a long row. -/
import Derived.Test.YtahjkdcagkojoaaCut
namespace Go.Proofs.Ytahjkdcagkojoaa
set_option linter.ambiguousOpen false
open Go.RowKit
namespace Sm
set_option linter.unusedSimpArgs false
set_option linter.unusedVariables false

/-- A number as a byte. -/
def tb (x : Int) : UInt8 := UInt8.ofNat x.toNat

theorem tb_val (x : Int) (h : 0 ≤ x ∧ x < 256) : by1 (tb x) = .int .u8 x := by
  unfold by1 tb
  rw [UInt8.toNat_ofNat', Nat.mod_eq_of_lt (by omega)]
  congr 1
  omega

theorem rd_lit (w : World) (xs : List Int) (h : ∀ x ∈ xs, 0 ≤ x ∧ x < 256) (hl : xs.length ≤ 1000) (t : TypeId) : RdB (w.alloc (.cells (xs.map (Value.int .u8)).toArray t)) (.slice (some ⟨w.heap.size, 0, none⟩) xs.length xs.length) (xs.map tb) := by
  refine ⟨_, xs.length, by rw [List.length_map], by simp, by unfold maxLen; omega, fun _ => ⟨w.heap.size, 0, rfl, by simp, fun j hj => ?_⟩⟩
  have hj' : j < xs.length := by simpa using hj
  rw [Nat.zero_add, cell_of_row _ _ _ _ _ _ (heap_alloc_new w _), List.getElem_map, tb_val _ (h _ (List.getElem_mem _))]
  simp [hj']

theorem lit1 (x : Int) (w : World) (h : 0 ≤ x ∧ x < 256) : Calls Try.prog 3 #[.slice (some ⟨w.heap.size, 0, none⟩) 1 1] (w.alloc (.cells #[.int .u8 x] 5)) fun e w' => e = .returned (.bool true) ∧ Below w.heap.size w w' := by
  refine (sumOf_walk _ _ _ (rd_lit w [x] (by simpa using h) (by simp) 5) (by simp)).mono ?_
  rintro e w' ⟨rfl, hb⟩
  exact ⟨rfl, ((Below.refl _ _).alloc (Nat.le_refl _) _).trans (hb.mono (by simp))⟩

theorem lit2 (x y : Int) (w : World) (h : 0 ≤ x ∧ x < 256) (h2 : 0 ≤ y ∧ y < 256) : Calls Try.prog 3 #[.slice (some ⟨w.heap.size, 0, none⟩) 2 2] (w.alloc (.cells #[.int .u8 x, .int .u8 y] 5)) fun e w' => e = .returned (.bool true) ∧ Below w.heap.size w w' := by
  refine (sumOf_walk _ _ _ (rd_lit w [x, y] (by simp; omega) (by simp) 5) (by simp)).mono ?_
  rintro e w' ⟨rfl, hb⟩
  exact ⟨rfl, ((Below.refl _ _).alloc (Nat.le_refl _) _).trans (hb.mono (by simp))⟩

theorem lit3 (x y z a : Int) (w : World) (h : 0 ≤ x ∧ x < 256) (h2 : 0 ≤ y ∧ y < 256) (h3 : 0 ≤ z ∧ z < 256) (ha : -9223372036854775808 ≤ a ∧ a ≤ 9223372036854775807) : Calls Try.prog 7 #[.slice (some ⟨w.heap.size, 0, none⟩) 3 3, nu a] (w.alloc (.cells #[.int .u8 x, .int .u8 y, .int .u8 z] 5)) fun e w' => e = .returned (.bool true) ∧ Below w.heap.size w w' := by
  refine (sumCut_walk _ _ a _ (rd_lit w [x, y, z] (by simp; omega) (by simp) 5) (by simp) ha).mono ?_
  rintro e w' ⟨rfl, hb⟩
  exact ⟨rfl, ((Below.refl _ _).alloc (Nat.le_refl _) _).trans (hb.mono (by simp))⟩

theorem of_zero (w : World) : Calls Try.prog 10 #[.slice (some ⟨w.heap.size, 0, none⟩) 1 1] (w.alloc (.cells #[.int .u8 0] 5)) fun e w' => e = .returned (.int .u32 3523407757) ∧ Below w.heap.size w w' := by
  refine (of_any _ _ _ (rd_lit w [0] (by simp) (by simp) 5)).mono ?_
  rintro e w' ⟨rfl, hb⟩
  exact ⟨by rw [show crc ([0].map tb) = 3523407757 by decide +kernel]; rfl, ((Below.refl _ _).alloc (Nat.le_refl _) _).trans (hb.mono (by simp))⟩

theorem of_text (v : Value) (l : List UInt8) (w : World) {base n : Nat} (h : w.ownsRow base 5 1 v l.length (l.map by1)) (c : Nat) (hc : crc l = c) (hn : ((c : Nat) : Int) = n) : Calls Try.prog 10 #[v] w fun e w' => e = .returned (.int .u32 (n : Int)) ∧ Below w.heap.size w w' := by
  have := of_any v l w (own_rd h)
  rw [hc] at this
  rw [← hn]
  exact this

set_option maxRecDepth 100000 in
set_option maxHeartbeats 4000000 in
theorem sumKnown_walk (w : World) : Calls Try.prog 8 #[] w fun e w' => e = .returned (.bool true) ∧ Below w.heap.size w w' := by
  obtain ⟨i0, hi, hz0, hz1, hz2⟩ := info_parts info_byte
  have c1 := works_any w
  go_enter Try.func8, Try.ntmps8
  go_wp2_with fail
  refine c1.mono ?_
  rintro e w1 ⟨rfl, hB1⟩
  have c2 := of_zero w1
  go_wp2_with fail
  refine c2.mono ?_
  rintro e w2 ⟨rfl, hb2⟩
  have hB2 : Below w.heap.size w w2 := hB1.trans (hb2.mono hB1.size)
  have c3 := bytes_any [97] w2 (by decide)
  go_wp2_with fail
  refine c3.mono ?_
  rintro e w3 ⟨v3, rfl, ho3, hb3⟩
  have hB3 : Below w.heap.size w w3 := hB2.trans (hb3.mono hB2.size)
  have c4 := of_text v3 [97] w3 (n := 3904355907) ho3 3904355907 (by decide +kernel) rfl
  clear ho3
  go_wp2_with fail
  refine c4.mono ?_
  rintro e w4 ⟨rfl, hb4⟩
  have hB4 : Below w.heap.size w w4 := hB3.trans (hb4.mono hB3.size)
  have c5 := bytes_any [97, 98, 99] w4 (by decide)
  go_wp2_with fail
  refine c5.mono ?_
  rintro e w5 ⟨v5, rfl, ho5, hb5⟩
  have hB5 : Below w.heap.size w w5 := hB4.trans (hb5.mono hB4.size)
  have c6 := of_text v5 [97, 98, 99] w5 (n := 891568578) ho5 891568578 (by decide +kernel) rfl
  clear ho5
  go_wp2_with fail
  refine c6.mono ?_
  rintro e w6 ⟨rfl, hb6⟩
  have hB6 : Below w.heap.size w w6 := hB5.trans (hb6.mono hB5.size)
  clear hb2 hb3 hb4 hb5 hb6 hB1 hB2 hB3 hB4 hB5 c1 c2 c3 c4 c5 c6
  go_wp2
  go_loopw [1] (fun iv wr => ∃ i : Nat, i ≤ 256 ∧ iv = .int .i64 i ∧ Below w.heap.size w wr) (fun iv _ => 256 - (intOf iv).toNat)
  case atStart => exact ⟨0, Nat.zero_le _, rfl, hB6⟩
  case round =>
    clear hB6
    obtain ⟨i, hi6, rfl, hB⟩ := hrel
    by_cases hp : i < 256
    · go_wp2_with fail
      refine (lit1 _ wr (by omega)).mono ?_
      rintro e w7 ⟨rfl, hb7⟩
      have hB7 : Below w.heap.size w w7 := hB.trans (hb7.mono hB.size)
      go_wp2_with fail
      refine (lit2 _ _ w7 (by omega) (by omega)).mono ?_
      rintro e w8 ⟨rfl, hb8⟩
      have hB8 : Below w.heap.size w w8 := hB7.trans (hb8.mono hB7.size)
      go_wp2_with fail
      refine (lit3 _ _ _ _ w8 (by omega) (by omega) (by omega) (by omega)).mono ?_
      rintro e w9 ⟨rfl, hb9⟩
      have hB9 : Below w.heap.size w w9 := hB8.trans (hb9.mono hB8.size)
      go_wp2
      go_roundw
      case rel => exact ⟨i + 1, by omega, by go_num, hB9⟩
      case measure => simp [intOf]; omega
    · obtain rfl : i = 256 := by omega
      simp only [Int.cast_ofNat_Int]
      rename World => wA
      go_wp2
      go_loopw [2, 3] (fun pv iv wr => ∃ (k : Nat) (ls : List UInt8), k ≤ 300 ∧ iv = .int .i64 k ∧ Hid (ls.length = k) ∧ wr.ownsRow w.heap.size 5 1 pv k (ls.map by1) ∧ Below w.heap.size w wr) (fun _ iv _ => 300 - (intOf iv).toNat)
      case atStart => exact ⟨0, [], Nat.zero_le _, rfl, rfl, World.ownsRow_nil _ _ _ _, hB⟩
      case round =>
        clear hB
        obtain ⟨k, ls, hk, rfl, hls, hown, hbel⟩ := hrel
        by_cases hp2 : k < 300
        · have hq : (0 : Int) ≤ (k : Int) * (k : Int) ∧ (k : Int) * (k : Int) ≤ 90000 := by
            have h9 : k * k ≤ 300 * 300 := Nat.mul_le_mul hk hk
            have h8 : ((k * k : Nat) : Int) = (k : Int) * (k : Int) := Int.natCast_mul k k
            generalize k * k = q at *
            omega
          obtain ⟨hq1, hq2⟩ := hq
          have ev := Hid.mk' (tb_val ((k : Int) * (k : Int) % 256) (by omega))
          have ho := hown.alloc (.cells #[.int .u8 ((k : Int) * (k : Int) % 256)] 5)
          go_wp2_with (at_builtin; refine wpList_append_own _ rfl _ _ 22 rfl w.heap.size 5 i0 (.int .u8 0) 1 1 Try.underlying22 hi hz0 hz1 hz2 rfl (by decide) _ _ _ rfl (hown.alloc _) ⟨wr.heap.size, 0, none⟩ 1 1 [.int .u8 ((k : Int) * (k : Int) % 256)] rfl rfl (cell_one_new _ _ _) (by simp [Value.oneCell']) (by unfold maxLen; omega) (by omega) (by have := hbel.size; simp; omega) ?_; intro v' w4 hown4 hgrow _; have hbel4 : Below w.heap.size w w4 := Below.grown (hbel.alloc (by exact hbel.size) _) hgrow (by have := hbel.size; simp; omega) (fun k hk => (hown.lt k hk).1))
          go_roundw
          case rel => exact ⟨k + 1, ls ++ [tb ((k : Int) * (k : Int) % 256)], by omega, by go_num, len_snoc hls, (by rw [List.map_append, List.map_singleton, ev.out]; exact hown4), hbel4⟩
          case measure => simp [intOf]; omega
        · obtain rfl : k = 300 := by omega
          simp only [Int.cast_ofNat_Int]
          have rd := own_rd' hown hls.out
          have KS := Hid.mk' (fun w' (h : Below wr.heap.size wr w') (i : Nat) (m : Nat) (h1 : i ≤ 2407) (h2 : m < 4294967296) => sumSeen_walk _ ls (i : Int) m w' (rd.below h) (by rw [hls.out]; decide) (by omega) h2)
          have KO := Hid.mk' (fun w' (h : Below wr.heap.size wr w') => sumOf_walk _ ls w' (rd.below h) (by rw [hls.out]; decide))
          clear rd hown hls
          rename World => wB
          go_wp2
          go_loopw [4] (fun iv wr => ∃ i : Nat, i ≤ 2407 ∧ iv = .int .i64 i ∧ Below wB.heap.size wB wr) (fun iv _ => 2407 - (intOf iv).toNat)
          case atStart => exact ⟨0, Nat.zero_le _, rfl, Below.refl _ _⟩
          case round =>
            obtain ⟨i, hi7, rfl, hB⟩ := hrel
            by_cases hp3 : i < 2400
            · go_wp2_with fail
              refine (KS.out wr hB i 1 hi7 (by decide)).mono ?_
              rintro e w7 ⟨rfl, hb7⟩
              have hB7 : Below wB.heap.size wB w7 := hB.trans (hb7.mono hB.size)
              go_wp2_with fail
              refine (KS.out w7 hB7 i 2147483649 hi7 (by decide)).mono ?_
              rintro e w8 ⟨rfl, hb8⟩
              have hB8 : Below wB.heap.size wB w8 := hB7.trans (hb8.mono hB7.size)
              go_wp2_with fail
              refine (KS.out w8 hB8 i 4294967295 hi7 (by decide)).mono ?_
              rintro e w9 ⟨rfl, hb9⟩
              have hB9 : Below wB.heap.size wB w9 := hB8.trans (hb9.mono hB8.size)
              go_wp2
              go_roundw
              case rel => exact ⟨i + 7, by omega, by go_num, hB9⟩
              case measure => simp [intOf]; omega
            · go_wp2_with fail
              refine (KO.out wr hB).mono ?_
              rintro e w7 ⟨rfl, hb7⟩
              have hB7 : Below wB.heap.size wB w7 := hB.trans (hb7.mono hB.size)
              go_wp2
              go_ret
              exact ⟨rfl, hbel.trans (hB7.mono hbel.size)⟩
end Sm
end Go.Proofs.Ytahjkdcagkojoaa
