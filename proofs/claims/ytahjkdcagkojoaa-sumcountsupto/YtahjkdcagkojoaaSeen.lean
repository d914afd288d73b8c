/- SumSeen: bits that are turned within 32 places are seen. -/
import Derived.Test.YtahjkdcagkojoaaThree
namespace Go.Proofs.Ytahjkdcagkojoaa
set_option linter.ambiguousOpen false
open Go.RowKit
namespace Sm
set_option linter.unusedSimpArgs false
set_option linter.unusedVariables false

theorem shr_bit (s i : Nat) (hs : s < 4294967296) : (bits .and .u32 ((s : Int) / 2 ^ i) 1 == 1) = decide (s / 2 ^ i % 2 = 1) := by
  have a : bits .and .u32 ((s : Int) / 2 ^ i) 1 = ((s / 2 ^ i &&& 1 : Nat) : Int) := by
    have := u32_and_nat (s / 2 ^ i) 1 (Nat.lt_of_le_of_lt (Nat.div_le_self _ _) hs) (by omega)
    rw [← this]; simp
  rw [a, Nat.and_one_is_mod, Bool.eq_iff_iff]
  simp only [beq_iff_eq, decide_eq_true_eq]
  omega

/-- The byte with one bit. -/
def bt (s : Nat) : UInt8 := UInt8.ofNat (2 ^ s)

theorem bt_val (s : Nat) (h : s < 8) : (bt s).toNat = 2 ^ s := by
  unfold bt
  have : 2 ^ s < 2 ^ 8 := Nat.pow_lt_pow_right (by decide) h
  rw [UInt8.toNat_ofNat', Nat.mod_eq_of_lt this]

theorem bt_wrap (s : Nat) (h : s < 8) : IntKind.u8.wrap (2 ^ s) = ((bt s).toNat : Int) := by
  rw [bt_val s h, IntKind.wrap_u8]
  have : 2 ^ s < 2 ^ 8 := Nat.pow_lt_pow_right (by decide) h
  have h2 : ((2 ^ s : Nat) : Int) = 2 ^ s := by simp
  rw [← h2]
  generalize 2 ^ s = q at *
  omega

theorem xor_bt (x : UInt8) (s : Nat) (h : s < 8) : bits .xor .u8 (x.toNat : Int) (2 ^ s % 256) = ((x ^^^ bt s).toNat : Int) := by
  have := bt_wrap s h
  rw [IntKind.wrap_u8] at this
  rw [this, u8_xor_nat _ _ (byte_lt x) (byte_lt _), ← UInt8.toNat_xor]

/-- The row behind one bit more. -/
theorem num_turn (l lc : List UInt8) (k i m : Nat) (hl : (k + i) / 8 < lc.length) (h : num lc = num l ^^^ 2 ^ k * (m % 2 ^ i)) (hb : m / 2 ^ i % 2 = 1) :
    num (lc.set ((k + i) / 8) (lc[(k + i) / 8] ^^^ bt ((k + i) % 8))) = num l ^^^ 2 ^ k * (m % 2 ^ (i + 1)) := by
  rw [num_set lc _ hl, h, bt_val _ (Nat.mod_lt _ (by decide)), mask_succ, hb, Nat.mul_one, ← Nat.pow_add, show 8 * ((k + i) / 8) + (k + i) % 8 = k + i from Nat.div_add_mod _ _, Nat.xor_assoc]
  congr 1
  have := Nat.shiftLeft_xor_distrib (a := m % 2 ^ i) (b := 2 ^ i) (i := k)
  rw [Nat.shiftLeft_eq, Nat.shiftLeft_eq, Nat.shiftLeft_eq, Nat.mul_comm, Nat.mul_comm (m % 2 ^ i), Nat.mul_comm (2 ^ i), ← Nat.pow_add] at this
  exact this.symm

theorem num_keep (l lc : List UInt8) (k i m : Nat) (h : num lc = num l ^^^ 2 ^ k * (m % 2 ^ i)) (hb : m / 2 ^ i % 2 = 0) : num lc = num l ^^^ 2 ^ k * (m % 2 ^ (i + 1)) := by
  rw [h, mask_succ, hb, Nat.mul_zero, Nat.xor_zero]

theorem mask_zero (m i : Nat) (hb : m / 2 ^ i % 2 = 0) : m % 2 ^ (i + 1) = m % 2 ^ i := by rw [mask_succ, hb, Nat.mul_zero, Nat.xor_zero]

theorem mask_one (m i : Nat) (hb : m / 2 ^ i % 2 = 1) : decide (m % 2 ^ (i + 1) ≠ 0) = true := by
  rw [mask_succ, hb, Nat.mul_one, decide_eq_true_eq]
  intro h
  have := congrArg (fun x => Nat.testBit x i) h
  simp [Nat.testBit_xor, Nat.testBit_mod_two_pow, Nat.testBit_two_pow_self] at this

theorem seen_end (l lc : List UInt8) (k i m : Nat) (hl : lc.length = l.length) (hk : k ≤ 8 * l.length) (hi : i ≤ 32) (h : num lc = num l ^^^ 2 ^ k * (m % 2 ^ i)) : ((crc l : Int) != (crc lc : Int)) = decide (m % 2 ^ i ≠ 0) := by
  have hm : m % 2 ^ i < 4294967296 := Nat.lt_of_lt_of_le (Nat.mod_lt _ (Nat.two_pow_pos i)) (by have := Nat.pow_le_pow_right (n := 2) (by decide) hi; simpa using this)
  have hd : num l ^^^ num lc = 2 ^ k * (m % 2 ^ i) := by rw [h, ← Nat.xor_assoc, Nat.xor_self, Nat.zero_xor]
  have := crc_burst l lc hl.symm k (m % 2 ^ i) hk hm hd
  rw [Bool.eq_iff_iff, bne_iff_ne, decide_eq_true_eq]
  constructor
  · intro h1 h2
    exact h1 (by rw [this.2 h2])
  · intro h1 h2
    exact h1 (this.1 (by exact_mod_cast h2))

theorem own_set {w : World} {base g cap n : Nat} {e : TypeId} {xs : List Value} (h : w.ownsRow base e 1 (.slice (some ⟨g, 0, none⟩) n cap) n xs) (i : Nat) (u : Value) :
    (w.setCell ⟨g, i, none⟩ u).ownsRow base e 1 (.slice (some ⟨g, 0, none⟩) n cap) n (xs.set i u) := by
  rcases h.2 with ⟨hv, _⟩ | ⟨g', cap', cur, hv, hbg, hg, hnc, hcm, hcs, htake⟩
  · simp at hv
  · simp only [Value.slice.injEq, Option.some.injEq, Addr.mk.injEq, and_true, true_and] at hv
    obtain ⟨rfl, rfl⟩ := hv
    refine ⟨by simpa using h.1, .inr ⟨g, cap, cur.setIfInBounds i u, rfl, hbg, ?_, hnc, hcm, by simpa using hcs, ?_⟩⟩
    · have hlt : g < w.heap.size := (Array.getElem?_eq_some_iff.1 hg).1
      simp [World.setCell, Array.getElem?_modify, hg]
    · rw [← htake]
      simp [List.take_set]

theorem own_free {w : World} {base g cap n : Nat} {e : TypeId} {xs : List Value} (h : w.ownsRow base e 1 (.slice (some ⟨g, 0, none⟩) n cap) n xs) (i : Nat) : w.frozen? ⟨g, i, none⟩ = false := by
  rcases h.2 with ⟨hv, _⟩ | ⟨g', cap', cur, hv, hbg, hg, hnc, hcm, hcs, htake⟩
  · simp at hv
  · simp only [Value.slice.injEq, Option.some.injEq, Addr.mk.injEq, and_true, true_and] at hv
    obtain ⟨rfl, rfl⟩ := hv
    simp [World.frozen?, hg]

set_option maxRecDepth 100000 in
set_option maxHeartbeats 4000000 in
theorem sumSeen_none (v : Value) (at0 : Int) (m : Nat) (w : World) (hR : RdB w v []) :
    Calls Try.prog 6 #[v, nu at0, u4 m] w fun e w' => e = .returned (.bool true) ∧ Below w.heap.size w w' := by
  obtain ⟨a, cap, rfl, h1, h2, hc⟩ := hR
  clear hc
  have c1 := works_any w
  simp only [List.length_nil] at *
  go_enter Try.func6, Try.ntmps6
  go_wp2_with fail
  refine c1.mono ?_
  rintro e w1 ⟨rfl, hb1⟩
  have c2 := works_any w1
  go_wp2_with fail
  refine c2.mono ?_
  rintro e w2 ⟨rfl, hb2⟩
  go_wp2
  go_ret
  exact ⟨rfl, hb1.trans (hb2.mono hb1.size)⟩

set_option maxRecDepth 100000 in
set_option maxHeartbeats 4000000 in
theorem sumSeen_some (v : Value) (l : List UInt8) (at0 : Int) (m : Nat) (w : World) (hR : RdB w v l) (hl : l.length ≤ 140737488351232) (hpos : 0 < l.length) (hat : -9223372036854775808 ≤ at0 ∧ at0 ≤ 9223372036854775807) (hm : m < 4294967296) :
    Calls Try.prog 6 #[v, nu at0, u4 m] w fun e w' => e = .returned (.bool true) ∧ Below w.heap.size w w' := by
  obtain ⟨i0, hi, hz0, hz1, hz2⟩ := info_parts info_byte
  have hRd := Hid.mk' hR
  obtain ⟨a, cap, rfl, h1, h2, hc⟩ := hR
  unfold maxLen at h2
  obtain ⟨ga, oa, rfl, hga, hca⟩ := hc hpos
  have HA := Hid.mk' hca
  clear hca hc
  have c1 := works_any w
  have hkn : ∃ k : Nat, Hid (at0 % ((8 * l.length : Nat) : Int) = k) ∧ k < 8 * l.length := ⟨(at0 % ((8 * l.length : Nat) : Int)).toNat, by show _ = _; have := Int.emod_nonneg at0 (b := ((8 * l.length : Nat) : Int)) (by omega); omega, by have := Int.emod_lt_of_pos at0 (b := ((8 * l.length : Nat) : Int)) (by omega); have := Int.emod_nonneg at0 (b := ((8 * l.length : Nat) : Int)) (by omega); omega⟩
  obtain ⟨k, hk, hkl⟩ := hkn
  have C2 : Hid (∀ w, Calls Try.prog 17 #[nu at0, nu (8 * (l.length : Int))] w fun e w' => e = .returned (nu k) ∧ w' = w) := fun w => by
    have := pick_any at0 (8 * l.length) w (by omega) (by omega) hat
    rw [hk.out] at this
    rwa [show ((8 * l.length : Nat) : Int) = 8 * (l.length : Int) from by omega] at this
  have hd8 : ((8 * (l.length : Int)) == 0) = false := by rw [beq_eq_false_iff_ne]; omega
  go_enter Try.func6, Try.ntmps6
  go_wp2_with fail
  refine c1.mono ?_
  rintro e w1 ⟨rfl, hb1⟩
  go_wp2_with fail
  refine (C2.out w1).mono ?_
  rintro e w2 ⟨rfl, hq2⟩
  subst w2
  have hbw := hb1
  go_wp2
  go_loopw [9, 10] (fun pv iv wr => ∃ k : Nat, k ≤ l.length ∧ iv = .int .i64 k ∧ wr.ownsRow w.heap.size 5 1 pv k ((l.take k).map by1) ∧ Below w.heap.size w wr) (fun _ iv _ => l.length - (intOf iv).toNat)
  case atStart => exact ⟨0, Nat.zero_le _, rfl, World.ownsRow_nil _ _ _ _, hb1⟩
  case round =>
    obtain ⟨j, hj, rfl, hown, hbel⟩ := hrel
    by_cases hp : j < l.length
    · have hcj := hbel_cell hbel hga (HA.out j hp)
      have HS : Hid ((l.take (j + 1)).map by1 = (l.take j).map by1 ++ [by1 l[j]]) := by
        show _ = _
        rw [List.take_succ_eq_append_getElem hp, List.map_append]; rfl
      generalize l[j] = x at *
      go_wp2_with (at_builtin; refine wpList_append_own _ rfl _ _ 22 rfl w.heap.size 5 i0 (.int .u8 0) 1 1 Try.underlying22 hi hz0 hz1 hz2 rfl (by decide) _ _ _ rfl (hown.alloc _) ⟨wr.heap.size, 0, none⟩ 1 1 [by1 x] rfl rfl (cell_one_new _ _ _) (by simp [Value.oneCell']) (by unfold maxLen; omega) (by omega) (by have := hbel.size; simp; omega) ?_; intro v' w4 hown4 hgrow _; have hbel4 : Below w.heap.size w w4 := Below.grown (hbel.alloc (by exact hbel.size) _) hgrow (by have := hbel.size; simp; omega) (fun k hk => (hown.lt k hk).1))
      go_roundw
      case rel => exact ⟨j + 1, by omega, by go_num, by rw [HS.out]; exact hown4, hbel4⟩
      case measure => simp [intOf]; omega
    · obtain rfl : j = l.length := by omega
      rw [List.take_length] at hown
      obtain ⟨gc, cc, rfl, e1, e2, e3, e4⟩ := own_posB hown hpos
      unfold maxLen at e2
      rename World => w9
      go_wp2
      go_loopw [11, 12] (fun tv iv wr => ∃ (i : Nat) (lc : List UInt8) (tb : Bool), i ≤ 32 ∧ k + i ≤ 8 * l.length ∧ iv = .int .i64 i ∧ tv = .bool tb ∧ Hid (tb = decide (m % 2 ^ i ≠ 0)) ∧ Hid (lc.length = l.length) ∧ Hid (num lc = num l ^^^ 2 ^ k * (m % 2 ^ i)) ∧ wr.ownsRow w.heap.size 5 1 (.slice (some ⟨gc, 0, none⟩) l.length cc) l.length (lc.map by1) ∧ Below w.heap.size w wr) (fun _ iv _ => 32 - (intOf iv).toNat)
      case atStart => exact ⟨0, l, false, by omega, by omega, rfl, rfl, by show _ = _; simp [Nat.mod_one], rfl, by show _ = _; simp [Nat.mod_one], hown, hbel⟩
      case round =>
        clear hown hbel hb1 hbw
        obtain ⟨i, lc, tb, hi32, hki, rfl, rfl, htb, hlc, hnum, hown, hbel⟩ := hrel
        have zb := shr_bit m i hm
        by_cases hp1 : i < 32
        · by_cases hp2 : k + i < 8 * l.length
          · by_cases hbit : m / 2 ^ i % 2 = 1
            · skip
              have hj : (k + i) / 8 < lc.length := by have := hlc.out; omega
              have hjl : (k + i) / 8 < l.length := by omega
              have zt : (bits .and .u32 ((m : Int) / 2 ^ i) 1 == 1) = true := by rw [zb]; simp [hbit]
              have hn2 := Hid.mk' (num_turn l lc k i m hj hnum.out hbit)
              have ht2 := Hid.mk' (mask_one m i hbit)
              have hs8 : (k + i) % 8 < 8 := Nat.mod_lt _ (by decide)
              have ex := Hid.mk' (xor_bt lc[(k + i) / 8] ((k + i) % 8) hs8)
              have hcell : wr.cell? ⟨gc, (k + i) / 8, none⟩ = some (by1 lc[(k + i) / 8]) := by
                have := row_atB hown ((k + i) / 8) hjl (by simpa using hj)
                rw [this, List.getElem_map]
              have hfz : wr.frozen? ⟨gc, (k + i) / 8, none⟩ = false := own_free hown _
              have ho2 := own_set hown ((k + i) / 8) (by1 (lc[(k + i) / 8] ^^^ bt ((k + i) % 8)))
              have hl2 : Hid ((lc.set ((k + i) / 8) (lc[(k + i) / 8] ^^^ bt ((k + i) % 8))).length = l.length) := by
                show _ = _
                rw [List.length_set]; exact hlc.out
              have hmap := Hid.mk' (List.map_set (f := by1) (l := lc) (i := (k + i) / 8) (a := lc[(k + i) / 8] ^^^ bt ((k + i) % 8)))
              clear zb hbit hnum htb
              generalize lc[(k + i) / 8] = x at *
              have d1 : ((k : Int) + (i : Int)).tdiv 8 = (((k + i) / 8 : Nat) : Int) := by rw [← Int.natCast_add]; rfl
              have d2 : ((k : Int) + (i : Int)).tmod 8 = (((k + i) % 8 : Nat) : Int) := by rw [← Int.natCast_add]; rfl
              have d3 : ((k : Int) + (i : Int)) / 8 = (((k + i) / 8 : Nat) : Int) := by omega
              have d4 : ((k : Int) + (i : Int)) % 8 = (((k + i) % 8 : Nat) : Int) := by omega
              generalize (k + i) / 8 = j at *
              generalize (k + i) % 8 = s at *
              go_wp2_with fail
              go_region
              rw [ex.out]
              have hgc : w.heap.size ≤ gc := (hown.lt gc rfl).1
              have HO := Hid.mk' ho2.drew
              have HB := Hid.mk' (Below.drew (hbel.setCell (p := ⟨gc, j, none⟩) hgc (by1 (x ^^^ bt s))))
              clear ho2 hown hbel hcell hfz ex
              generalize ((wr.setCell ⟨gc, j, none⟩ (by1 (x ^^^ bt s))).drew) = w7 at *
              go_wp2
              go_roundw
              case rel => exact ⟨i + 1, lc.set j (x ^^^ bt s), true, by omega, by omega, by go_num, rfl, ht2.out.symm, hl2, hn2, (by rw [hmap.out]; exact HO.out), HB.out⟩
              case measure => simp [intOf]; omega
            · skip
              have hb0 : m / 2 ^ i % 2 = 0 := by omega
              have ht2 : Hid (tb = decide (m % 2 ^ (i + 1) ≠ 0)) := by
                show _ = _
                rw [mask_zero m i hb0]; exact htb.out
              have hn2 := Hid.mk' (num_keep l lc k i m hnum.out hb0)
              have zf : (bits .and .u32 ((m : Int) / 2 ^ i) 1 == 1) = false := by rw [zb]; simp [hb0]
              clear zb hb0 hbit
              go_wp2
              go_roundw
              case rel => exact ⟨i + 1, lc, tb, by omega, by omega, by go_num, rfl, ht2, hlc, hn2, hown, hbel⟩
              case measure => simp [intOf]; omega
          · skip
            have se := seen_end l lc k i m hlc.out (by omega) hi32 hnum.out
            rw [← htb.out] at se
            have rc := own_rd' hown hlc.out
            have K1 := Hid.mk' (fun w1 (h : Below wr.heap.size wr w1) => of_any _ l w1 (((hRd.out.below hbel)).below h))
            have K2 := Hid.mk' (fun w1 (h : Below wr.heap.size wr w1) => of_any _ lc w1 (rc.below h))
            clear rc hown hnum hlc htb zb hRd
            generalize crc l = s1 at *
            generalize crc lc = s2 at *
            go_wp2_with fail
            refine (K1.out wr (Below.refl _ _)).mono ?_
            rintro e w5 ⟨rfl, hb5⟩
            go_wp2_with fail
            refine (K2.out w5 hb5).mono ?_
            rintro e w6 ⟨rfl, hb6⟩
            have hB6 : Below wr.heap.size wr w6 := hb5.trans (hb6.mono hb5.size)
            go_wp2
            go_ret
            exact ⟨ret_bool (by first | rfl | simp), hbel.trans (hB6.mono hbel.size)⟩
        · skip
          have se := seen_end l lc k i m hlc.out (by omega) hi32 hnum.out
          rw [← htb.out] at se
          have rc := own_rd' hown hlc.out
          have K1 := Hid.mk' (fun w1 (h : Below wr.heap.size wr w1) => of_any _ l w1 (((hRd.out.below hbel)).below h))
          have K2 := Hid.mk' (fun w1 (h : Below wr.heap.size wr w1) => of_any _ lc w1 (rc.below h))
          clear rc hown hnum hlc htb zb hRd
          generalize crc l = s1 at *
          generalize crc lc = s2 at *
          go_wp2_with fail
          refine (K1.out wr (Below.refl _ _)).mono ?_
          rintro e w5 ⟨rfl, hb5⟩
          go_wp2_with fail
          refine (K2.out w5 hb5).mono ?_
          rintro e w6 ⟨rfl, hb6⟩
          have hB6 : Below wr.heap.size wr w6 := hb5.trans (hb6.mono hb5.size)
          go_wp2
          go_ret
          exact ⟨ret_bool (by first | rfl | simp), hbel.trans (hB6.mono hbel.size)⟩

theorem sumSeen_walk (v : Value) (l : List UInt8) (at0 : Int) (m : Nat) (w : World) (hR : RdB w v l) (hl : l.length ≤ 140737488351232) (hat : -9223372036854775808 ≤ at0 ∧ at0 ≤ 9223372036854775807) (hm : m < 4294967296) :
    Calls Try.prog 6 #[v, nu at0, u4 m] w fun e w' => e = .returned (.bool true) ∧ Below w.heap.size w w' := by
  cases l with
  | nil => exact sumSeen_none v at0 m w hR
  | cons b l => exact sumSeen_some v (b :: l) at0 m w hR hl (by simp) hat hm
end Sm
end Go.Proofs.Ytahjkdcagkojoaa
