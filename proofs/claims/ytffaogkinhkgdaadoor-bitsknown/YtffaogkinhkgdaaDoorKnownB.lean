/- The walk of BitsKnown. -/
import Derived.Test.YtffaogkinhkgdaaDoorAll
import Derived.Test.YtffaogkinhkgdaaDoorOfLaw
import Derived.Test.YtffaogkinhkgdaaDoorTwo
import Derived.Test.YtffaogkinhkgdaaDoorSame
import Derived.Test.YtffaogkinhkgdaaDoorPlace
import Derived.Deep.RegionHeld3
namespace Go.Proofs.YtffaogkinhkgdaaDoor
set_option linter.ambiguousOpen false
open Go.RowKit
namespace Bt
set_option linter.unusedSimpArgs false
set_option linter.unusedVariables false

theorem rd_new (w : World) (xs : List Int) (hl : xs.length ≤ 1000) : RdI (w.alloc (.cells (xs.map nu).toArray 3)) (.slice (some ⟨w.heap.size, 0, none⟩) xs.length xs.length) xs := by
  refine ⟨_, _, rfl, Nat.le_refl _, by unfold maxLen; omega, fun _ => ⟨w.heap.size, 0, rfl, by simp, fun j hj => ?_⟩⟩
  rw [Nat.zero_add, cell_of_row _ _ _ _ _ _ (heap_alloc_new w _)]
  simp [hj]

theorem rd_none (w : World) : RdI w (.slice none 0 0) [] := ⟨none, 0, rfl, Nat.le_refl _, by unfold maxLen; omega, fun h => by simp at h⟩

theorem of_new (w : World) (xs : List Int) (hl : xs.length ≤ 1000) (x no k : Nat) (h : ofG 0 0 xs = (x, no, k)) :
    Calls Tryd.prog 19 #[.slice (some ⟨w.heap.size, 0, none⟩) xs.length xs.length] (w.alloc (.cells (xs.map nu).toArray 3)) fun e w' => e = .returned (.tuple #[st x, errV no k]) ∧ Below w.heap.size w w' := by
  refine (of_any _ xs _ (rd_new w xs hl)).mono ?_
  rintro e w' ⟨rfl, rfl⟩
  rw [h]
  exact ⟨rfl, (Below.refl _ _).alloc (Nat.le_refl _) _⟩

theorem of_a (w : World) : Calls Tryd.prog 19 #[.slice (some ⟨w.heap.size, 0, none⟩) 3 3] (w.alloc (.cells #[.int .i64 0, .int .i64 63, .int .i64 5] 3)) fun e w' => e = .returned (.tuple #[.int .u64 9223372036854775841, .nilIface]) ∧ Below w.heap.size w w' :=
  of_new w [0, 63, 5] (by decide) 9223372036854775841 0 0 (by decide +kernel)

theorem of_f (w : World) : Calls Tryd.prog 19 #[.slice (some ⟨w.heap.size, 0, none⟩) 1 1] (w.alloc (.cells #[.int .i64 64] 3)) fun e w' => e = .returned (.tuple #[.int .u64 0, .iface 55 (.agg #[.int .i64 1, .int .i64 0])]) ∧ Below w.heap.size w w' :=
  of_new w [64] (by decide) 0 1 0 (by decide +kernel)

theorem of_g (w : World) : Calls Tryd.prog 19 #[.slice (some ⟨w.heap.size, 0, none⟩) 3 3] (w.alloc (.cells #[.int .i64 1, .int .i64 2, .int .i64 1] 3)) fun e w' => e = .returned (.tuple #[.int .u64 0, .iface 55 (.agg #[.int .i64 9, .int .i64 2])]) ∧ Below w.heap.size w w' :=
  of_new w [1, 2, 1] (by decide) 0 9 2 (by decide +kernel)

theorem of_h (w : World) : Calls Tryd.prog 19 #[.slice (some ⟨w.heap.size, 0, none⟩) 2 2] (w.alloc (.cells #[.int .i64 (-1), .int .i64 (-1)] 3)) fun e w' => e = .returned (.tuple #[.int .u64 0, .iface 55 (.agg #[.int .i64 1, .int .i64 0])]) ∧ Below w.heap.size w w' :=
  of_new w [-1, -1] (by decide) 0 1 0 (by decide +kernel)

theorem put_i (w : World) : Calls Tryd.prog 20 #[.int .u64 5, .int .i64 2, .bool false] w fun e w' => e = .returned (.tuple #[.int .u64 1, .nilIface]) ∧ w' = w := by
  have c := put_any 5 2 false w (by decide)
  refine c.mono ?_
  rintro e w' ⟨rfl, rfl⟩
  exact ⟨rfl, rfl⟩

theorem put_j (w : World) : Calls Tryd.prog 20 #[.int .u64 5, .int .i64 64, .bool true] w fun e w' => e = .returned (.tuple #[.int .u64 0, .iface 53 (.int .i64 1)]) ∧ w' = w := by
  have c := put_any 5 64 true w (by decide)
  refine c.mono ?_
  rintro e w' ⟨rfl, rfl⟩
  exact ⟨rfl, rfl⟩

theorem at_m (n : Nat) (m k : Int) (hm : (n : Int) = m) (h1 : 1 ≤ n) (h2 : n ≤ 24) (w : World) (hg : Er.Handle w) :
    Calls Tryd.prog 22 #[.iface 55 (.agg #[.int .i64 m, .int .i64 k]), .int .i64 m, .int .i64 k] w fun e w' => e = .returned (.bool true) ∧ Below w.heap.size w w' := by
  subst hm
  exact Er.at_at n k h1 h2 w hg

theorem plain_m (w : World) (hg : Er.Handle w) :
    Calls Tryd.prog 23 #[.iface 53 (.int .i64 1), .int .i64 1] w fun e w' => e = .returned (.bool true) ∧ Below w.heap.size w w' := by
  have := Er.plain_no 1 1 (by omega) (by omega) w hg
  exact this

set_option maxRecDepth 100000 in
set_option maxHeartbeats 4000000 in
theorem said_any (w : World) (hE : Er.Handle w) :
    Calls Tryd.prog 12 #[] w fun e w' => e = .returned (.bool true) ∧ Below w.heap.size w w' := by
  have HE : Hid (Er.Handle w) := hE
  clear hE
  go_enter Tryd.func12, Tryd.ntmps12
  go_wp2_with fail
  refine (of_a w).mono ?_
  rintro e w1 ⟨rfl, hB1⟩
  go_wp2_with fail
  refine (of_f w1).mono ?_
  rintro e w2 ⟨rfl, hb⟩
  have hB2 := Er.below_then hB1 hb
  clear hb
  go_wp2_with fail
  refine (of_g w2).mono ?_
  rintro e w3 ⟨rfl, hb⟩
  have hB3 := Er.below_then hB2 hb
  clear hb
  go_wp2_with fail
  refine (of_h w3).mono ?_
  rintro e w4 ⟨rfl, hb⟩
  have hB4 := Er.below_then hB3 hb
  clear hb
  go_wp2_with fail
  refine (put_i w4).mono ?_
  rintro e w5 ⟨rfl, hq⟩
  subst w5
  go_wp2_with fail
  refine (put_j w4).mono ?_
  rintro e w5 ⟨rfl, hq⟩
  subst w5
  go_wp2_with fail
  refine (works_any w4).mono ?_
  rintro e w5 ⟨rfl, hb⟩
  have hB5 := Er.below_then hB4 hb
  clear hb
  go_wp2_with fail
  refine (at_m 1 1 0 rfl (by omega) (by omega) w5 (HE.out.below hB5)).mono ?_
  rintro e w6 ⟨rfl, hb⟩
  have hB6 := Er.below_then hB5 hb
  clear hb
  go_wp2_with fail
  refine (at_m 9 9 2 rfl (by omega) (by omega) w6 (HE.out.below hB6)).mono ?_
  rintro e w7 ⟨rfl, hb⟩
  have hB7 := Er.below_then hB6 hb
  clear hb
  go_wp2_with fail
  refine (at_m 1 1 0 rfl (by omega) (by omega) w7 (HE.out.below hB7)).mono ?_
  rintro e w8 ⟨rfl, hb⟩
  have hB8 := Er.below_then hB7 hb
  clear hb
  go_wp2_with fail
  refine (plain_m w8 (HE.out.below hB8)).mono ?_
  rintro e w9 ⟨rfl, hb⟩
  have hB9 := Er.below_then hB8 hb
  go_wp2
  go_ret
  exact ⟨rfl, hB9⟩

/-! ### Shifts and the like: numbers of 64 bits again -/

theorem wrap_some (z : Int) : ∃ r : Nat, r < 18446744073709551616 ∧ IntKind.u64.wrap z = (r : Int) := by
  rw [IntKind.wrap_u64]
  exact ⟨(z % 18446744073709551616).toNat, by omega, by omega⟩

theorem bits_some (op : BinOp) (x y : Int) (h : op = .and ∨ op = .or ∨ op = .xor) : ∃ r : Nat, r < 18446744073709551616 ∧ bits op .u64 x y = (r : Int) := by
  rcases h with rfl | rfl | rfl
  all_goals
    unfold bits
    exact wrap_some _

def endsL : List Int := [-9223372036854775808, -1, 0, 1, 31, 32, 62, 63, 64, 65, 9223372036854775807]

def en (j : Nat) : Int := endsL.getD j 0

theorem en_ok (j : Nat) : -9223372036854775808 ≤ en j ∧ en j ≤ 9223372036854775807 := by
  unfold en
  rcases Nat.lt_or_ge j 11 with h | h
  · match j, h with
    | 0, _ | 1, _ | 2, _ | 3, _ | 4, _ | 5, _ | 6, _ | 7, _ | 8, _ | 9, _ | 10, _ => exact ⟨by decide, by decide⟩
  · rw [List.getD_eq_getElem?_getD, List.getElem?_eq_none (by simpa [endsL] using h)]
    exact ⟨by decide, by decide⟩

theorem en_cell (w : World) (j : Nat) (hj : j < 11) : (w.alloc (.cells #[.int .i64 (-9223372036854775808), .int .i64 (-1), .int .i64 0, .int .i64 1, .int .i64 31, .int .i64 32, .int .i64 62, .int .i64 63, .int .i64 64, .int .i64 65, .int .i64 9223372036854775807] 3)).cell? ⟨w.heap.size, j, none⟩ = some (.int .i64 (en j)) := by
  rw [cell_of_row _ _ _ _ _ _ (heap_alloc_new w _)]
  match j, hj with
  | 0, _ | 1, _ | 2, _ | 3, _ | 4, _ | 5, _ | 6, _ | 7, _ | 8, _ | 9, _ | 10, _ => rfl

theorem rd_two (w : World) (a b : Int) : RdI (w.alloc (.cells #[.int .i64 a, .int .i64 b] 3)) (.slice (some ⟨w.heap.size, 0, none⟩) 2 2) [a, b] := rd_new w [a, b] (by simp)

set_option maxRecDepth 100000 in
set_option maxHeartbeats 8000000 in
theorem pairs_any (w : World) (hE : Er.Handle w) (hT : Tab w) (h1 : 0 < w.heap.size) :
    Calls Tryd.prog 13 #[] w fun e w' => e = .returned (.bool true) ∧ Below w.heap.size w w' := by
  have hB0 : Below w.heap.size w (w.alloc (.cells #[.int .i64 (-9223372036854775808), .int .i64 (-1), .int .i64 0, .int .i64 1, .int .i64 31, .int .i64 32, .int .i64 62, .int .i64 63, .int .i64 64, .int .i64 65, .int .i64 9223372036854775807] 3)) := (Below.refl _ _).alloc (Nat.le_refl _) _
  have HC : Hid (∀ j, j < 11 → (w.alloc (.cells #[.int .i64 (-9223372036854775808), .int .i64 (-1), .int .i64 0, .int .i64 1, .int .i64 31, .int .i64 32, .int .i64 62, .int .i64 63, .int .i64 64, .int .i64 65, .int .i64 9223372036854775807] 3)).cell? ⟨w.heap.size, j, none⟩ = some (.int .i64 (en j))) := en_cell w
  have hs0 : w.heap.size < (w.alloc (.cells #[.int .i64 (-9223372036854775808), .int .i64 (-1), .int .i64 0, .int .i64 1, .int .i64 31, .int .i64 32, .int .i64 62, .int .i64 63, .int .i64 64, .int .i64 65, .int .i64 9223372036854775807] 3)).heap.size := by simp
  have HE : Hid (Er.Handle (w.alloc (.cells #[.int .i64 (-9223372036854775808), .int .i64 (-1), .int .i64 0, .int .i64 1, .int .i64 31, .int .i64 32, .int .i64 62, .int .i64 63, .int .i64 64, .int .i64 65, .int .i64 9223372036854775807] 3))) := hE.below hB0
  have HT : Hid (Tab (w.alloc (.cells #[.int .i64 (-9223372036854775808), .int .i64 (-1), .int .i64 0, .int .i64 1, .int .i64 31, .int .i64 32, .int .i64 62, .int .i64 63, .int .i64 64, .int .i64 65, .int .i64 9223372036854775807] 3))) := hT.below hB0 h1
  have h2 : 0 < (w.alloc (.cells #[.int .i64 (-9223372036854775808), .int .i64 (-1), .int .i64 0, .int .i64 1, .int .i64 31, .int .i64 32, .int .i64 62, .int .i64 63, .int .i64 64, .int .i64 65, .int .i64 9223372036854775807] 3)).heap.size := by omega
  have HG : Hid (0 < (w.alloc (.cells #[.int .i64 (-9223372036854775808), .int .i64 (-1), .int .i64 0, .int .i64 1, .int .i64 31, .int .i64 32, .int .i64 62, .int .i64 63, .int .i64 64, .int .i64 65, .int .i64 9223372036854775807] 3)).heap.size) := h2
  clear hE hT h1 h2
  go_enter Tryd.func13, Tryd.ntmps13
  go_wp2
  generalize w.alloc (.cells #[.int .i64 (-9223372036854775808), .int .i64 (-1), .int .i64 0, .int .i64 1, .int .i64 31, .int .i64 32, .int .i64 62, .int .i64 63, .int .i64 64, .int .i64 65, .int .i64 9223372036854775807] 3) = W0 at *
  have CO : Hid (∀ (v : Value) (l : List Int) (i : Int) (on : Bool) (w1 : World), Below W0.heap.size W0 w1 → RdI w1 v l → l.length ≤ 1000 → -9223372036854775808 ≤ i ∧ i ≤ 9223372036854775807 → Calls Tryd.prog 24 #[v, .int .i64 i, .bool on] w1 fun e w' => e = .returned (.bool true) ∧ Below w1.heap.size w1 w') := fun v l i on w1 hb hR hl hi => bitsOf_walk v l i on w1 hR (by omega) hi (HE.out.below hb)
  have CA : Hid (∀ (s : Nat) (m : Int) (w1 : World), Below W0.heap.size W0 w1 → s < 18446744073709551616 → -9223372036854775808 ≤ m ∧ m ≤ 9223372036854775807 → Calls Tryd.prog 3 #[.int .u64 (s : Int), .int .i64 m] w1 fun e w' => e = .returned (.bool true) ∧ Below w1.heap.size w1 w') := fun s m w1 hb hs hm => bitsAll_walk s m w1 hs hm (HT.out.below hb HG.out) (Nat.lt_of_lt_of_le HG.out hb.size)
  have CB : Hid (∀ (s : Nat) (w1 : World), Below W0.heap.size W0 w1 → s < 18446744073709551616 → Calls Tryd.prog 26 #[.int .u64 (s : Int)] w1 fun e w' => e = .returned (.bool true) ∧ Below w1.heap.size w1 w') := fun s w1 hb hs => bitsBack_walk s w1 hs (HT.out.below hb HG.out) (Nat.lt_of_lt_of_le HG.out hb.size)
  have CT : Hid (∀ (s t : Nat) (w1 : World), s < 18446744073709551616 → t < 18446744073709551616 → Calls Tryd.prog 25 #[.int .u64 (s : Int), .int .u64 (t : Int)] w1 fun e w' => e = .returned (.bool true) ∧ Below w1.heap.size w1 w') := fun s t w1 hs ht => bitsTwo_walk s t w1 hs ht
  have CS : Hid (∀ (s t : Nat) (w1 : World), s < 18446744073709551616 → t < 18446744073709551616 → Calls Tryd.prog 27 #[.int .u64 (s : Int), .int .u64 (t : Int)] w1 fun e w' => e = .returned (.bool true) ∧ Below w1.heap.size w1 w') := fun s t w1 hs ht => bitsSame_walk s t w1 hs ht
  go_loopw [2] (fun iv wr => ∃ i : Nat, i ≤ 11 ∧ iv = .int .i64 i ∧ Below W0.heap.size W0 wr) (fun iv _ => 11 - (intOf iv).toNat)
  case atStart => exact ⟨0, by omega, rfl, Below.refl _ _⟩
  case round =>
    obtain ⟨i, hi, rfl, hB⟩ := hrel
    by_cases hp : i < 11
    · have hp' : (i : Int) < 11 := by omega
      go_wp2
      rename World => w1
      go_loopw [3] (fun kv wr => ∃ k : Nat, k ≤ 11 ∧ kv = .int .i64 k ∧ Below W0.heap.size W0 wr) (fun kv _ => 11 - (intOf kv).toNat)
      case atStart => exact ⟨0, by omega, rfl, hB⟩
      case round =>
        obtain ⟨k, hk, rfl, hBk⟩ := hrel
        by_cases hq : k < 11
        · have hq' : (k : Int) < 11 := by omega
          have HI : Hid (W0.cell? ⟨w.heap.size, i, none⟩ = some (.int .i64 (en i))) := HC.out i hp
          have HK : Hid (W0.cell? ⟨w.heap.size, k, none⟩ = some (.int .i64 (en k))) := HC.out k hq
          have ci : wr.cell? ⟨w.heap.size, i, none⟩ = some (.int .i64 (en i)) := (hBk.cell (p := ⟨w.heap.size, i, none⟩) hs0).trans HI.out
          have ck : wr.cell? ⟨w.heap.size, k, none⟩ = some (.int .i64 (en k)) := (hBk.cell (p := ⟨w.heap.size, k, none⟩) hs0).trans HK.out
          have oa := en_ok i
          have ob := en_ok k
          have hgr : w.heap.size < wr.heap.size := Nat.lt_of_lt_of_le hs0 hBk.size
          generalize en i = a at *
          generalize en k = b at *
          have i0 : (0 : Int) ≤ (i : Int) := by omega
          have k0 : (0 : Int) ≤ (k : Int) := by omega
          have HBk : Hid (Below W0.heap.size W0 wr) := hBk
          have HAl : Hid (∀ o, Below W0.heap.size W0 (wr.drew.alloc o)) := fun o => Below.alloc hBk.drew hBk.size o
          have HAz : Hid (∀ o, W0.heap.size ≤ (wr.drew.alloc o).heap.size) := fun o => (HAl.out o).size
          go_wp2_with fail
          have n2 : ([a, b] : List Int).length ≤ 1000 := by simp
          have n0 : ([] : List Int).length ≤ 1000 := by simp
          have HA2 : Hid (∀ o, Below W0.heap.size W0 (wr.alloc o).drew) := fun o => Below.drew (hBk.alloc hBk.size o)
          have C1 : Hid (Calls Tryd.prog 24 #[.slice (some ⟨wr.heap.size, 0, none⟩) 2 2, .int .i64 b, .bool ((i : Int).tmod 2 == 0)] (wr.alloc (.cells #[.int .i64 a, .int .i64 b] 3)).drew fun e w' => e = .returned (.bool true) ∧ Below W0.heap.size W0 w') := by
            refine (CO.out _ [a, b] b _ _ (HA2.out _) (rd_two wr a b) n2 ob).mono ?_
            rintro e w2 ⟨rfl, hq2⟩
            exact ⟨rfl, (HA2.out _).trans (hq2.mono (HA2.out _).size)⟩
          have C2 : Hid (∀ w2, Below W0.heap.size W0 w2 → Calls Tryd.prog 24 #[.slice none 0 0, .int .i64 a, .bool true] w2 fun e w' => e = .returned (.bool true) ∧ Below W0.heap.size W0 w') := fun w2 h2 => by
            refine (CO.out _ [] a _ _ h2 (rd_none _) n0 oa).mono ?_
            rintro e w3 ⟨rfl, hq2⟩
            exact ⟨rfl, h2.trans (hq2.mono h2.size)⟩
          have HS : Hid (∀ w2, Below W0.heap.size W0 w2 → w2.cell? ⟨w.heap.size, i, none⟩ = some (.int .i64 a) ∧ w2.cell? ⟨w.heap.size, k, none⟩ = some (.int .i64 b) ∧ Below W0.heap.size W0 w2) := fun w2 h2 => ⟨(h2.cell (p := ⟨w.heap.size, i, none⟩) hs0).trans HI.out, (h2.cell (p := ⟨w.heap.size, k, none⟩) hs0).trans HK.out, h2⟩
          clear CO HAl HAz
          go_region_held3 (fun w' => w'.cell? ⟨w.heap.size, i, none⟩ = some (.int .i64 a) ∧ w'.cell? ⟨w.heap.size, k, none⟩ = some (.int .i64 b) ∧ Below W0.heap.size W0 w') (first | assumption | exact HS.out _ (HA2.out _) | exact HS.out _ HBk.out.drew | exact HS.out _ hB2 | exact HS.out _ hB3 | exact HS.out _ hB2.drew | exact HS.out _ hB3.drew | fail) (first | (go_at_call 24; with_reducible refine C1.out.mono ?_; rintro e w2 ⟨rfl, hB2⟩) | (go_at_call 24; with_reducible refine (C2.out _ hB2).mono ?_; rintro e w3 ⟨rfl, hB3⟩) | fail)
          go_wp2
          go_roundw
          case rel => exact ⟨k + 1, by omega, by go_num, hB3⟩
          case measure => simp [intOf]; omega
        · obtain rfl : k = 11 := by omega
          simp only [Int.cast_ofNat_Int]
          go_wp2
          go_roundw
          case rel => exact ⟨i + 1, by omega, by go_num, hBk⟩
          case measure => simp [intOf]; omega
    · obtain rfl : i = 11 := by omega
      simp only [Int.cast_ofNat_Int]
      go_wp2
      rename World => w1
      go_loopw [4] (fun iv wr => ∃ i : Nat, i ≤ 64 ∧ iv = .int .i64 i ∧ Below W0.heap.size W0 wr) (fun iv _ => 64 - (intOf iv).toNat)
      case atStart => exact ⟨0, by omega, rfl, hB⟩
      case round =>
        clear hB
        obtain ⟨i, hi, rfl, hB⟩ := hrel
        by_cases hp : i < 64
        · have hp' : (i : Int) < 64 := by omega
          go_wp2
          rename World => w2
          go_loopw [5] (fun kv wr => ∃ k : Nat, k ≤ 64 ∧ kv = .int .i64 k ∧ Below W0.heap.size W0 wr) (fun kv _ => 64 - (intOf kv).toNat)
          case atStart => exact ⟨i, by omega, rfl, hB⟩
          case round =>
            obtain ⟨k, hk, rfl, hBm0⟩ := hrel
            by_cases hq : k < 64
            · have hq' : (k : Int) < 64 := by omega
              obtain ⟨s, hs, es⟩ := bits_some .or (IntKind.u64.wrap (2 ^ i)) (IntKind.u64.wrap (2 ^ k)) (.inr (.inl rfl))
              have ES : Hid (bits .or .u64 (IntKind.u64.wrap (2 ^ i)) (IntKind.u64.wrap (2 ^ k)) = (s : Int)) := es
              clear es
              obtain ⟨t, ht, et⟩ := wrap_some (IntKind.u64.wrap (IntKind.u64.wrap (IntKind.u64.wrap (2 ^ k) - 1) * 2) / 2 ^ i * 2 ^ i)
              have ET : Hid (IntKind.u64.wrap (IntKind.u64.wrap (IntKind.u64.wrap (IntKind.u64.wrap (2 ^ k) - 1) * 2) / 2 ^ i * 2 ^ i) = (t : Int)) := et
              clear et
              obtain ⟨u, hu, eu⟩ := bits_some .xor IntKind.u64.max (t : Int) (.inr (.inr rfl))
              have EU : Hid (bits .xor .u64 IntKind.u64.max (t : Int) = (u : Int)) := eu
              clear eu
              have i0 : (0 : Int) ≤ (i : Int) := by omega
              have k0 : (0 : Int) ≤ (k : Int) := by omega
              have ni : ¬ (i : Int) < 0 := by omega
              have nk : ¬ (k : Int) < 0 := by omega
              go_wp2_with fail
              go_quiet (fail)
              rw [ES.out]
              go_wp2_with fail
              rw [ET.out]
              have hX0 : Below W0.heap.size W0 (wr.drewN nq) := below_drewN hBm0 nq
              generalize wr.drewN nq = x0 at *
              refine (CA.out s i x0 hX0 hs (by omega)).mono ?_
              rintro e x1 ⟨rfl, hb⟩
              have hX1 := hX0.trans (hb.mono hX0.size)
              clear hb
              go_wp2_with fail
              refine (CA.out t 1 x1 hX1 ht (by omega)).mono ?_
              rintro e x2 ⟨rfl, hb⟩
              have hX2 := hX1.trans (hb.mono hX1.size)
              clear hb
              go_wp2_with fail
              refine (CT.out s t x2 hs ht).mono ?_
              rintro e x3 ⟨rfl, hb⟩
              have hX3 := hX2.trans (hb.mono hX2.size)
              clear hb
              go_wp2_with fail
              refine (CB.out t x3 hX3 ht).mono ?_
              rintro e x4 ⟨rfl, hb⟩
              have hX4 := hX3.trans (hb.mono hX3.size)
              clear hb
              go_wp2_with fail
              refine (CS.out s t x4 hs ht).mono ?_
              rintro e x5 ⟨rfl, hb⟩
              have hX5 := hX4.trans (hb.mono hX4.size)
              clear hb
              go_wp2_with fail
              rw [EU.out]
              refine (CA.out u 2 x5 hX5 hu (by omega)).mono ?_
              rintro e x6 ⟨rfl, hb⟩
              have hX6 := hX5.trans (hb.mono hX5.size)
              clear hb
              go_wp2
              go_roundw
              case rel => exact ⟨k + 1, by omega, by go_num, hX6⟩
              case measure => simp [intOf]; omega
            · obtain rfl : k = 64 := by omega
              simp only [Int.cast_ofNat_Int]
              go_wp2
              go_roundw
              case rel => exact ⟨i + 1, by omega, by go_num, hBm0⟩
              case measure => simp [intOf]; omega
        · obtain rfl : i = 64 := by omega
          simp only [Int.cast_ofNat_Int]
          go_wp2_with fail
          refine (CA.out 0 0 wr hB (by omega) (by omega)).mono ?_
          rintro e y1 ⟨rfl, hb⟩
          have hY1 := hB.trans (hb.mono hB.size)
          clear hb
          go_wp2_with fail
          refine (CA.out 18446744073709551615 1 y1 hY1 (by omega) (by omega)).mono ?_
          rintro e y2 ⟨rfl, hb⟩
          have hY2 := hY1.trans (hb.mono hY1.size)
          clear hb
          go_wp2_with fail
          refine (CT.out 18446744073709551615 0 y2 (by omega) (by omega)).mono ?_
          rintro e y3 ⟨rfl, hb⟩
          have hY3 := hY2.trans (hb.mono hY2.size)
          clear hb
          go_wp2
          go_ret
          exact ⟨rfl, hB0.trans (hY3.mono (Nat.le_of_lt hs0))⟩
set_option maxRecDepth 100000 in
theorem known_any (w : World) (hE : Er.Handle w) (hT : Tab w) (h1 : 0 < w.heap.size) :
    Calls Tryd.prog 4 #[] w fun e w' => e = .returned (.bool true) ∧ Below w.heap.size w w' := by
  have c1 := said_any w hE
  have HP : Hid (∀ w1, Below w.heap.size w w1 → Calls Tryd.prog 13 #[] w1 fun e w' => e = .returned (.bool true) ∧ Below w1.heap.size w1 w') := fun w1 hb => pairs_any w1 (hE.below hb) (hT.below hb h1) (Nat.lt_of_lt_of_le h1 hb.size)
  clear hE hT h1
  go_enter Tryd.func4, Tryd.ntmps4
  go_wp2_with fail
  refine c1.mono ?_
  rintro e w1 ⟨rfl, hb1⟩
  go_wp2_with fail
  refine (HP.out w1 hb1).mono ?_
  rintro e w2 ⟨rfl, hb2⟩
  go_wp2
  go_ret
  exact ⟨rfl, Er.below_then hb1 hb2⟩
end Bt
end Go.Proofs.YtffaogkinhkgdaaDoor
