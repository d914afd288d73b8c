/- TagBytes and TagKnown. -/
import Derived.Test.YtfflmpmhacfijaaDoorFirst
namespace Go.Proofs.YtfflmpmhacfijaaDoor
set_option linter.ambiguousOpen false
open Go.RowKit
namespace Tg
open Sm
set_option linter.unusedSimpArgs false
set_option linter.unusedVariables false

theorem new16 (w : World) (hB : Beg w) : Calls Tryd.prog 7 #[.string (tx (fb 16))] w fun e w' => ∃ g, e = .returned (.tuple #[.pointer (some ⟨g, 0, none⟩), .nilIface]) ∧ w.heap.size ≤ g ∧ KeyAt w' g kv0 ∧ Below w.heap.size w w' := new_ok (fb 16) w (fb_len 16) hB

theorem sumF (n : Nat) (gk : Nat) (v : Value) (base : Nat) (w : World) (hK : KeyAt w gk kv0) (h : w.ownsRow base 5 1 v n ((fb n).map by1)) :
    Calls Tryd.prog 10 #[.pointer (some ⟨gk, 0, none⟩), v] w fun e w' => e = .returned (u8v (goes n kv0 (fb n))) ∧ Below w.heap.size w w' := by
  have := keySum_any kv0 gk v (fb n) w hK (own_rd' h (fb_len n))
  rwa [fb_len] at this

set_option maxHeartbeats 1000000 in
theorem works_any (w : World) (hB : Beg w) : Calls Tryd.prog 16 #[] w fun e w' => e = .returned (.bool true) ∧ Below w.heap.size w w' := by
  have c1 := first_any 16 (by omega) w
  have HB := Hid.mk' hB
  clear hB
  go_enter Tryd.func16, Tryd.ntmps16
  go_wp2_with fail
  refine c1.mono ?_
  rintro e w1 ⟨v1, rfl, hown, hb1⟩
  have hv := conv_back (by omega) hown
  have c2 := new16 w1 (HB.out.below hb1)
  clear hown c1
  generalize tx (fb 16) = kb at *
  go_wp2_with fail
  refine c2.mono ?_
  rintro e w2 ⟨gk, rfl, hgk, hK, hb2⟩
  have c3 := first_any 15 (by omega) w2
  have HK := Hid.mk' hK
  have hB2 := below_to hb1 hb2
  clear hK hv c2 hb2
  go_wp2_with fail
  refine c3.mono ?_
  rintro e w3 ⟨v3, rfl, hown3, hb3⟩
  have c4 := sumF 15 gk v3 _ w3 (HK.out.below hb3) hown3
  rw [show ((15 : Nat) : Int) = 15 from rfl, sum15] at c4
  have hB3 := below_to hB2 hb3
  clear hown3
  go_wp2_with fail
  refine c4.mono ?_
  rintro e w4 ⟨rfl, hb4⟩
  go_wp2
  go_ret
  exact ⟨rfl, below_to hB3 hb4⟩

theorem by8_wrap (s : Int) (k : Nat) (h : k < 8) : s / 2 ^ (8 * k) % 256 = ((by8 (IntKind.u64.wrap s) k).toNat : Int) := by
  rw [by8_val, IntKind.wrap_u64]
  obtain rfl | rfl | rfl | rfl | rfl | rfl | rfl | rfl : k = 0 ∨ k = 1 ∨ k = 2 ∨ k = 3 ∨ k = 4 ∨ k = 5 ∨ k = 6 ∨ k = 7 := by omega
  all_goals (simp only [Nat.reduceMul, Int.reducePow]; omega)

theorem by8_ext (x y : Int) (k : Nat) (h : x / 2 ^ (8 * k) % 256 = y / 2 ^ (8 * k) % 256) : by8 x k = by8 y k := by unfold by8; rw [h]

theorem le_far (s p : Int) : le (IntKind.u64.wrap (IntKind.i64.wrap (s + p * 4294967296))) 4 = le (IntKind.u64.wrap s) 4 := by
  unfold le
  apply List.map_congr_left
  intro k hk
  have hk4 : k < 4 := by simpa using hk
  apply by8_ext
  rw [IntKind.wrap_u64, IntKind.wrap_u64, IntKind.wrap_i64]
  obtain rfl | rfl | rfl | rfl : k = 0 ∨ k = 1 ∨ k = 2 ∨ k = 3 := by omega
  all_goals (simp only [Nat.reduceMul, Int.reducePow]; omega)

theorem tw_far (s p b : Int) : tw (IntKind.i64.wrap (s + p * 4294967296)) b = tw s b := by
  unfold tw
  rw [le_far]

theorem tw_far64 (s p b : Int) : tw (wrap64 (s + p * 4294967296)) b = tw s b := by
  rw [show wrap64 (s + p * 4294967296) = IntKind.i64.wrap (s + p * 4294967296) by rw [IntKind.wrap_i64]; unfold wrap64; omega, tw_far]

set_option maxRecDepth 100000 in
set_option maxHeartbeats 2000000 in
theorem tagBytes_walk (kl : List UInt8) (s b u : Int) (w : World) (hkl : kl.length ≤ maxLen) (hs : -9223372036854775808 ≤ s ∧ s ≤ 9223372036854775807) (hb : -9223372036854775808 ≤ b ∧ b ≤ 9223372036854775807) (hu : -9223372036854775808 ≤ u ∧ u ≤ 9223372036854775807) (hB : Beg w) :
    Calls Tryd.prog 5 #[.string (tx kl), nu s, nu b, nu u] w fun e w' => e = .returned (.bool true) ∧ Below w.heap.size w w' := by
  obtain ⟨i0, hi, hz0, hz1, hz2⟩ := info_parts info_byte
  have c1 := works_any w hB
  have hz : (tx kl).size = kl.length := rfl
  have HB := Hid.mk' hB
  clear hB
  by_cases h16 : kl.length = 16
  · have hnb : ((kl.length : Int) != 16) = false := by rw [bne_eq_false_iff_eq]; omega
    have cN : Hid (∀ w, Beg w → Calls Tryd.prog 7 #[.string (tx kl)] w fun e w' => ∃ g, e = .returned (.tuple #[.pointer (some ⟨g, 0, none⟩), .nilIface]) ∧ w.heap.size ≤ g ∧ KeyAt w' g (keyV (k0L kl) (k1L kl)) ∧ Below w.heap.size w w') := fun w hB => new_ok kl w h16 hB
    generalize keyV (k0L kl) (k1L kl) = kv at *
    generalize tx kl = kb at *
    go_enter Tryd.func5, Tryd.ntmps5
    go_wp2_with fail
    refine c1.mono ?_
    rintro e w1 ⟨rfl, hb1⟩
    have c2 := cN.out w1 (HB.out.below hb1)
    clear c1
    go_wp2_with fail
    refine c2.mono ?_
    rintro e w2 ⟨gk, rfl, hgk, hK, hb2⟩
    have hB2 := below_to hb1 hb2
    have HK := Hid.mk' hK
    have c3 := cN.out w2 (HB.out.below hB2)
    clear hK c2 hb1 hb2
    go_wp2_with fail
    refine c3.mono ?_
    rintro e w3 ⟨go, rfl, hgo, hO, hb3⟩
    have hB3 := Hid.mk' (below_to hB2 hb3)
    have HK3 := Hid.mk' (HK.out.below hb3)
    have HO3 := Hid.mk' hO
    clear hO c3 hb3 HK hB2
    go_wp2
    go_loopw [12, 13] (fun pv iv wr => ∃ k : Nat, k ≤ 4 ∧ iv = .int .i64 k ∧ wr.ownsRow w3.heap.size 5 1 pv k ((le (IntKind.u64.wrap s) k).map by1) ∧ Below w3.heap.size w3 wr) (fun _ iv _ => 4 - (intOf iv).toNat)
    case atStart => exact ⟨0, Nat.zero_le _, rfl, World.ownsRow_nil _ _ _ _, Below.refl _ _⟩
    case round =>
      obtain ⟨k, hk, rfl, hown, hbel⟩ := hrel
      by_cases hp : k < 4
      · have HS : Hid ((le (IntKind.u64.wrap s) (k + 1)).map by1 = (le (IntKind.u64.wrap s) k).map by1 ++ [.int .u8 (s / 2 ^ (8 * k) % 256)]) := by
          show _ = _
          rw [le_succ, List.map_append, by8_wrap s k (by omega)]; rfl
        go_wp2_with (at_builtin; refine wpList_append_own _ rfl _ _ 22 rfl w3.heap.size 5 i0 (.int .u8 0) 1 1 Tryd.underlying22 hi hz0 hz1 hz2 rfl (by decide) _ _ _ rfl (hown.alloc _) ⟨wr.heap.size, 0, none⟩ 1 1 [.int .u8 (s / 2 ^ (8 * k) % 256)] rfl rfl (cell_one_new _ _ _) (by simp [Value.oneCell']) (by unfold maxLen; omega) (by omega) (by have := hbel.size; simp; omega) ?_; intro v' w4 hown4 hgrow _; have hbel4 : Below w3.heap.size w3 w4 := Below.grown (hbel.alloc (by exact hbel.size) _) hgrow (by have := hbel.size; simp; omega) (fun k hk => (hown.lt k hk).1))
        go_roundw
        case rel => exact ⟨k + 1, by omega, by go_num, by rw [HS.out]; exact hown4, hbel4⟩
        case measure => simp [intOf]; omega
      · obtain rfl : k = 4 := by omega
        simp only [Int.cast_ofNat_Int]
        rename World => w5
        go_wp2
        go_loopw [12, 14] (fun pv iv wr => ∃ k : Nat, k ≤ 8 ∧ iv = .int .i64 k ∧ wr.ownsRow w3.heap.size 5 1 pv (4 + k) ((le (IntKind.u64.wrap s) 4 ++ le (IntKind.u64.wrap b) k).map by1) ∧ Below w3.heap.size w3 wr) (fun _ iv _ => 8 - (intOf iv).toNat)
        case atStart => exact ⟨0, Nat.zero_le _, rfl, by simpa [le] using hown, hbel⟩
        case round =>
          obtain ⟨k, hk2, rfl, hown2, hbel2⟩ := hrel
          by_cases hp2 : k < 8
          · have HS : Hid ((le (IntKind.u64.wrap s) 4 ++ le (IntKind.u64.wrap b) (k + 1)).map by1 = (le (IntKind.u64.wrap s) 4 ++ le (IntKind.u64.wrap b) k).map by1 ++ [.int .u8 (b / 2 ^ (8 * k) % 256)]) := by
              show _ = _
              rw [le_succ (IntKind.u64.wrap b) k, ← List.append_assoc, List.map_append, by8_wrap b k hp2]; rfl
            go_wp2_with (at_builtin; refine wpList_append_own _ rfl _ _ 22 rfl w3.heap.size 5 i0 (.int .u8 0) 1 1 Tryd.underlying22 hi hz0 hz1 hz2 rfl (by decide) _ _ _ rfl (hown2.alloc _) ⟨wr.heap.size, 0, none⟩ 1 1 [.int .u8 (b / 2 ^ (8 * k) % 256)] rfl rfl (cell_one_new _ _ _) (by simp [Value.oneCell']) (by unfold maxLen; omega) (by omega) (by have := hbel2.size; simp; omega) ?_; intro v' w4 hown4 hgrow _; have hbel4 : Below w3.heap.size w3 w4 := Below.grown (hbel2.alloc (by exact hbel2.size) _) hgrow (by have := hbel2.size; simp; omega) (fun k hk => (hown2.lt k hk).1))
            go_roundw
            case rel => exact ⟨k + 1, by omega, by go_num, by rw [HS.out]; exact hown4, hbel4⟩
            case measure => simp [intOf]; omega
          · obtain rfl : k = 8 := by omega
            simp only [Int.cast_ofNat_Int]
            clear hown hbel
            rename World => w6
            have hR6 := Hid.mk' (own_rd' (l := tw s b) hown2 (tw_len s b))
            have hB6 := Hid.mk' (below_to hB3.out hbel2)
            have HK6 := Hid.mk' (HK3.out.below hbel2)
            have HO6 := Hid.mk' (HO3.out.below hbel2)
            have c7 := keyOf_any kv gk s b w6 HK6.out
            clear hown2 hbel2
            go_wp2_with fail
            refine c7.mono ?_
            rintro e w7 ⟨rfl, hb7⟩
            have c8 := pick_any u 1048576 w7 (by omega) (by omega) hu
            go_wp2_with fail
            refine c8.mono ?_
            rintro e w8 ⟨rfl, hw⟩
            subst w8
            have hB7 := Hid.mk' (below_to hB6.out hb7)
            have HK7 := Hid.mk' (HK6.out.below hb7)
            have HO7 := Hid.mk' (HO6.out.below hb7)
            have c9 := keySum_any kv gk _ (tw s b) w7 HK7.out (hR6.out.below hb7)
            rw [tw_len, show ((12 : Nat) : Int) = 12 from rfl] at c9
            clear c7 c8 hb7
            have cO : Hid (∀ wx, KeyAt wx go kv → Calls Tryd.prog 14 #[.pointer (some ⟨go, 0, none⟩), nu s, nu b] wx fun e w' => e = .returned (u8v (goes 12 kv (tw s b))) ∧ Below wx.heap.size wx w') := fun wx h => keyOf_any kv go s b wx h
            have cF : Hid (∀ wx, KeyAt wx go kv → Calls Tryd.prog 14 #[.pointer (some ⟨go, 0, none⟩), nu (wrap64 (s + u % 1048576 * 4294967296)), nu b] wx fun e w' => e = .returned (u8v (goes 12 kv (tw s b))) ∧ Below wx.heap.size wx w') := fun wx h => by
              have := keyOf_any kv go (wrap64 (s + u % 1048576 * 4294967296)) b wx h
              rwa [tw_far64] at this
            have cK : Hid (∀ wx, KeyAt wx gk kv → Calls Tryd.prog 14 #[.pointer (some ⟨gk, 0, none⟩), nu s, nu b] wx fun e w' => e = .returned (u8v (goes 12 kv (tw s b))) ∧ Below wx.heap.size wx w') := fun wx h => keyOf_any kv gk s b wx h
            generalize goes 12 kv (tw s b) = G at *
            go_wp2_with fail
            refine c9.mono ?_
            rintro e w8 ⟨rfl, hb8⟩
            have hB8 := Hid.mk' (below_to hB7.out hb8)
            have HK8 := Hid.mk' (HK7.out.below hb8)
            have HO8 := Hid.mk' (HO7.out.below hb8)
            clear c9 hb8
            go_wp2_with fail
            refine (cO.out _ HO8.out).mono ?_
            rintro e w9 ⟨rfl, hb9⟩
            have hB9 := Hid.mk' (below_to hB8.out hb9)
            have HK9 := Hid.mk' (HK8.out.below hb9)
            have HO9 := Hid.mk' (HO8.out.below hb9)
            clear hb9
            go_wp2_with fail
            refine (cF.out _ HO9.out).mono ?_
            rintro e w10 ⟨rfl, hb10⟩
            have hB10 := Hid.mk' (below_to hB9.out hb10)
            have HK10 := Hid.mk' (HK9.out.below hb10)
            clear hb10
            go_wp2_with fail
            refine (cK.out _ HK10.out).mono ?_
            rintro e w11 ⟨rfl, hb11⟩
            have hB11 := Hid.mk' (below_to hB10.out hb11)
            clear hb11
            go_wp2
            go_ret
            exact ⟨rfl, hB11.out⟩
  · have hnb : ((kl.length : Int) != 16) = true := by rw [bne_iff_ne]; omega
    have cN : Hid (∀ w, Calls Tryd.prog 7 #[.string (tx kl)] w fun e w' => e = .returned (.tuple #[.pointer none, Er.noV 14]) ∧ w' = w) := fun w => new_no kl w h16 hkl
    unfold Er.noV at cN
    generalize tx kl = kb at *
    go_enter Tryd.func5, Tryd.ntmps5
    go_wp2_with fail
    refine c1.mono ?_
    rintro e w1 ⟨rfl, hb1⟩
    go_wp2_with fail
    refine (cN.out _).mono ?_
    rintro e w2 ⟨rfl, hw⟩
    subst w2
    go_wp2
    go_ret
    exact ⟨rfl, hb1⟩

set_option maxRecDepth 100000 in
set_option maxHeartbeats 2000000 in
theorem tagKnown_walk (w : World) (hB : Beg w) (hE : Er.Handle w) :
    Calls Tryd.prog 6 #[] w fun e w' => e = .returned (.bool true) ∧ Below w.heap.size w w' := by
  have c1 := first_any 16 (by omega) w
  have HB := Hid.mk' hB
  have HE := Hid.mk' hE
  have n15 : Hid (∀ w, Calls Tryd.prog 7 #[.string (tx (fb 15))] w fun e w' => e = .returned (.tuple #[.pointer none, Er.noV 14]) ∧ w' = w) := fun w => new_no (fb 15) w (by rw [fb_len]; decide) (by rw [fb_len]; decide)
  have n17 : Hid (∀ w, Calls Tryd.prog 7 #[.string (tx (fb 17))] w fun e w' => e = .returned (.tuple #[.pointer none, Er.noV 14]) ∧ w' = w) := fun w => new_no (fb 17) w (by rw [fb_len]; decide) (by rw [fb_len]; decide)
  have n0 : Hid (∀ w, Calls Tryd.prog 7 #[.string ⟨#[]⟩] w fun e w' => e = .returned (.tuple #[.pointer none, Er.noV 14]) ∧ w' = w) := fun w => new_no [] w (by decide) (by decide)
  have cP : Hid (∀ w, Er.Handle w → Calls Tryd.prog 8 #[Er.noV 14, .int .i64 14] w fun e w' => e = .returned (.bool true) ∧ Below w.heap.size w w') := fun w h => Er.plain_no 14 14 (by omega) (by omega) w h
  have s7 : Hid (∀ w, Calls Tryd.prog 13 #[u8v 7, u8v 7] w fun e w' => e = .returned (.bool true) ∧ w' = w) := fun w => same_any 7 7 w
  have s8 : Hid (∀ w, Calls Tryd.prog 13 #[u8v 7, u8v 9223372036854775815] w fun e w' => e = .returned (.bool false) ∧ w' = w) := fun w => same_any 7 9223372036854775815 w
  unfold Er.noV at n15 n17 n0 cP
  clear hB hE
  go_enter Tryd.func6, Tryd.ntmps6
  go_wp2_with fail
  refine c1.mono ?_
  rintro e w1 ⟨v1, rfl, hown, hb1⟩
  have hv := conv_back (by omega) hown
  have c2 := new16 w1 (HB.out.below hb1)
  clear hown c1
  generalize tx (fb 16) = k16 at *
  go_wp2_with fail
  refine c2.mono ?_
  rintro e w2 ⟨gk, rfl, hgk, hK, hb2⟩
  have HK2 := Hid.mk' hK
  have hB2 := Hid.mk' (below_to hb1 hb2)
  have c3 := first_any 15 (by omega) w2
  clear hK c2 hv hb1 hb2
  go_wp2_with fail
  refine c3.mono ?_
  rintro e w3 ⟨v3, rfl, hown3, hb3⟩
  have hv3 := conv_back (by omega) hown3
  have HK3 := Hid.mk' (HK2.out.below hb3)
  have hB3 := Hid.mk' (below_to hB2.out hb3)
  clear hown3 c3 hb3
  generalize tx (fb 15) = k15 at *
  go_wp2_with fail
  refine (n15.out _).mono ?_
  rintro e w' ⟨rfl, hw⟩
  subst w'
  have c4 := first_any 17 (by omega) w3
  clear hv3
  go_wp2_with fail
  refine c4.mono ?_
  rintro e w4 ⟨v4, rfl, hown4, hb4⟩
  have hv4 := conv_back (by omega) hown4
  have HK4 := Hid.mk' (HK3.out.below hb4)
  have hB4 := Hid.mk' (below_to hB3.out hb4)
  clear hown4 c4 hb4
  generalize tx (fb 17) = k17 at *
  go_wp2_with fail
  refine (n17.out _).mono ?_
  rintro e w' ⟨rfl, hw⟩
  subst w'
  clear hv4
  go_wp2_with fail
  refine (n0.out _).mono ?_
  rintro e w' ⟨rfl, hw⟩
  subst w'
  go_wp2_with fail
  refine (cP.out _ (HE.out.below hB4.out)).mono ?_
  rintro e w5 ⟨rfl, hb5⟩
  have HK5 := Hid.mk' (HK4.out.below hb5)
  have hB5 := Hid.mk' (below_to hB4.out hb5)
  clear hb5
  go_wp2_with fail
  refine (cP.out _ (HE.out.below hB5.out)).mono ?_
  rintro e w6 ⟨rfl, hb6⟩
  have HK6 := Hid.mk' (HK5.out.below hb6)
  have hB6 := Hid.mk' (below_to hB5.out hb6)
  clear hb6
  go_wp2_with fail
  refine (cP.out _ (HE.out.below hB6.out)).mono ?_
  rintro e w7 ⟨rfl, hb7⟩
  have HK7 := Hid.mk' (HK6.out.below hb7)
  have hB7 := Hid.mk' (below_to hB6.out hb7)
  have c8 := keySum_any kv0 gk _ [] w7 HK7.out (rd_nil w7)
  rw [show (([] : List UInt8).length : Int) = 0 from rfl, sum0] at c8
  clear hb7
  go_wp2_with fail
  refine c8.mono ?_
  rintro e w8 ⟨rfl, hb8⟩
  have HK8 := Hid.mk' (HK7.out.below hb8)
  have hB8 := Hid.mk' (below_to hB7.out hb8)
  have c9 := first_any 1 (by omega) w8
  clear hb8 c8
  go_wp2_with fail
  refine c9.mono ?_
  rintro e w9 ⟨v9, rfl, hown9, hb9⟩
  have c10 := sumF 1 gk v9 _ w9 (HK8.out.below hb9) hown9
  rw [show ((1 : Nat) : Int) = 1 from rfl, sum1] at c10
  have HK9 := Hid.mk' (HK8.out.below hb9)
  have hB9 := Hid.mk' (below_to hB8.out hb9)
  clear hown9 c9 hb9
  go_wp2_with fail
  refine c10.mono ?_
  rintro e w10 ⟨rfl, hb10⟩
  have HK10 := Hid.mk' (HK9.out.below hb10)
  have hB10 := Hid.mk' (below_to hB9.out hb10)
  have c11 := first_any 2 (by omega) w10
  clear hb10 c10
  go_wp2_with fail
  refine c11.mono ?_
  rintro e w11 ⟨v11, rfl, hown11, hb11⟩
  have c12 := sumF 2 gk v11 _ w11 (HK10.out.below hb11) hown11
  rw [show ((2 : Nat) : Int) = 2 from rfl, sum2] at c12
  have HK11 := Hid.mk' (HK10.out.below hb11)
  have hB11 := Hid.mk' (below_to hB10.out hb11)
  clear hown11 c11 hb11
  go_wp2_with fail
  refine c12.mono ?_
  rintro e w12 ⟨rfl, hb12⟩
  have HK12 := Hid.mk' (HK11.out.below hb12)
  have hB12 := Hid.mk' (below_to hB11.out hb12)
  have c13 := first_any 15 (by omega) w12
  clear hb12 c12
  go_wp2_with fail
  refine c13.mono ?_
  rintro e w13 ⟨v13, rfl, hown13, hb13⟩
  have c14 := sumF 15 gk v13 _ w13 (HK12.out.below hb13) hown13
  rw [show ((15 : Nat) : Int) = 15 from rfl, sum15] at c14
  have hB13 := Hid.mk' (below_to hB12.out hb13)
  clear hown13 c13 hb13
  go_wp2_with fail
  refine c14.mono ?_
  rintro e w14 ⟨rfl, hb14⟩
  have hB14 := Hid.mk' (below_to hB13.out hb14)
  clear hb14 c14
  go_wp2_with fail
  refine (s7.out _).mono ?_
  rintro e w' ⟨rfl, hw⟩
  subst w'
  go_wp2_with fail
  refine (s8.out _).mono ?_
  rintro e w' ⟨rfl, hw⟩
  subst w'
  go_wp2
  go_ret
  exact ⟨rfl, hB14.out⟩
end Tg
end Go.Proofs.YtfflmpmhacfijaaDoor
