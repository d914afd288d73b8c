import Derived.Test.YtnllplholfhbdaaDoorSev
import Derived.Test.YtnllplholfhbdaaDoorRowB
import Derived.Test.YtnllplholfhbdaaDoorOwn
import Derived.Laws.BitsAllLaws
import Derived.Laws.Bits64b
/- The document's numbers and texts as bytes: Sevens, Text. -/
namespace Go.Proofs.YtnllplholfhbdaaDoor
set_option linter.ambiguousOpen false
open Go.RowKit
namespace Pk
open Sm
set_option linter.unusedSimpArgs false
set_option linter.unusedVariables false

theorem and127 (n : Nat) (h : n < 18446744073709551616) : bits .and .u64 (n : Int) 127 = ((n % 128 : Nat) : Int) := by
  have e := bits_and_u64_nat n 127 h (by omega)
  rw [show (127 : Nat) = 2 ^ 7 - 1 from rfl, Nat.and_two_pow_sub_one_eq_mod] at e
  exact e

theorem or128 (n : Nat) (h : n < 128) : bits .or .u8 (n : Int) 128 = ((n + 128 : Nat) : Int) := by
  have e := u8_or_nat n 128 (by omega) (by omega)
  rw [show n ||| 128 = n + 128 from by
    have := Nat.two_pow_add_eq_or_of_lt (i := 7) (b := n) (by omega) 1
    rw [Nat.or_comm]
    simp at this
    omega] at e
  exact e

set_option maxRecDepth 100000 in
set_option maxHeartbeats 1000000 in
theorem sevens_any (v : Nat) (w : World) (hv : v < 18446744073709551616) :
    Calls Tryd.prog 44 #[.int .u64 (v : Int)] w fun e w' => ∃ x, e = .returned x ∧ w'.ownsRow w.heap.size 5 1 x (sev v).length ((sev v).map by1) ∧ Below w.heap.size w w' := by
  obtain ⟨i0, ji, hz0, hz1, hz2⟩ := info_parts info_byte
  go_enter Tryd.func44, Tryd.ntmps44
  go_wp2
  go_loopw [0, 3, 4] (fun uv lv iv wr => ∃ (k u : Nat) (d : List UInt8), k ≤ 10 ∧ iv = nu k ∧ uv = .int .u64 (u : Int) ∧ u < 18446744073709551616 ∧ Hid (u < 128 ^ (10 - k)) ∧ Hid (sev v = if k = 0 ∨ 0 < u then d ++ sev u else d) ∧ d.length ≤ k ∧ Hid (wr.ownsRow w.heap.size 5 1 lv d.length (d.map by1)) ∧ Hid (Below w.heap.size w wr)) (fun _ _ iv _ => 10 - (intOf iv).toNat)
  case atStart => exact ⟨0, v, [], by omega, rfl, rfl, hv, Nat.lt_of_lt_of_le hv (by decide), rfl, Nat.le_refl _, World.ownsRow_nil _ _ _ _, Below.refl _ _⟩
  case round =>
    obtain ⟨k, u, d, hk, rfl, rfl, hu, hup, hS, hdl, hO, hB⟩ := hrel
    by_cases hc : k = 0 ∨ 0 < u
    · have hk10 : k < 10 := by
        rcases hc with h | h
        · omega
        · rcases Nat.lt_or_ge k 10 with h2 | h2
          · exact h2
          · have := hup.out
            rw [show 10 - k = 0 by omega] at this
            simp at this
            omega
      have hk10' : (k : Int) < 10 := by omega
      have hcase : ((k : Int) == 0) = true ∨ (((k : Int) == 0) = false ∧ (0 : Int) < (u : Int)) := by
        by_cases h : k = 0
        · subst h; exact .inl rfl
        · right
          refine ⟨by simp [h], ?_⟩
          rcases hc with h' | h'
          · exact absurd h' h
          · omega
      have ha := and127 u hu
      have hmx : Hid (d.length + 1 ≤ maxLen) := by show _ ≤ _; unfold maxLen; omega
      have hby : Hid ((d.length + 1) * 1 ≤ 140737488355328) := by show _ ≤ _; omega
      have hws : Hid (w.heap.size ≤ wr.heap.size) := hB.out.size
      obtain ⟨y, hy⟩ : ∃ y : Nat, u % 128 = y := ⟨_, rfl⟩
      have hyl : y < 128 := by omega
      rw [hy] at ha
      obtain ⟨q, hq⟩ : ∃ q : Nat, u / 128 = q := ⟨_, rfl⟩
      have hqI : (u : Int) / 128 = (q : Int) := by omega
      have hql : q < 18446744073709551616 := by omega
      have hqp : Hid (q < 128 ^ (10 - (k + 1))) := by
        show _ < _
        rw [← hq, Nat.div_lt_iff_lt_mul (by decide), ← pow7, show 10 - (k + 1) + 1 = 10 - k by omega]
        exact hup.out
      by_cases hu1 : q = 0
      · have hz : ¬ (0 : Int) < (q : Int) := by omega
        have hS' : Hid (sev v = if k + 1 = 0 ∨ 0 < q then (d ++ [UInt8.ofNat y]) ++ sev q else d ++ [UInt8.ofNat y]) := by
          show _ = _
          rw [if_neg (by omega), hS.out, if_pos hc, sev_lt u (by omega), show u = y by omega]
        have hb1 : Hid (by1 (UInt8.ofNat y) = .int .u8 (y : Int)) := by
          show Value.int .u8 _ = _
          rw [ofNat_toNat y (by omega)]
        have hone : Hid (∀ x ∈ [Value.int .u8 (y : Int)], x.oneCell' = true) := by intro x hx; simp at hx; subst hx; rfl
        rcases hcase with e1 | ⟨e1, e2⟩ <;> (
          clear hc
          go_wp2_with (at_builtin; refine wpList_append_own _ rfl _ _ 30 rfl w.heap.size 5 i0 (.int .u8 0) 1 1 Tryd.underlying30 ji hz0 hz1 hz2 rfl (by decide) _ _ _ rfl (hO.out.alloc _) ⟨wr.heap.size, 0, none⟩ 1 1 [.int .u8 (y : Int)] rfl rfl (cell_one_new _ _ _) hone.out hmx.out hby.out (by have := hws.out; simp; omega) ?_; intro v' w4 hown4 hgrow _; rw [← hb1.out] at hown4; have hO4 : Hid (w4.ownsRow w.heap.size 5 1 v' (d ++ [UInt8.ofNat y]).length ((d ++ [UInt8.ofNat y]).map by1)) := (by rw [List.length_append, List.map_append]; exact hown4); have hB4 : Hid (Below w.heap.size w w4) := Below.grown (hB.out.alloc hws.out _) hgrow (by have := hws.out; simp; omega) (fun k hk => (hO.out.lt k hk).1); clear hown4 hgrow)
          go_wp2
          go_roundw
          case rel => exact ⟨k + 1, q, d ++ [UInt8.ofNat y], by omega, by go_num, by rw [hu1]; rfl, hql, hqp, hS', by simp; omega, hO4, hB4⟩
          case measure => simp [intOf]; omega)
      · have hz : (0 : Int) < (q : Int) := by omega
        have ho := or128 y hyl
        have hS' : Hid (sev v = if k + 1 = 0 ∨ 0 < q then (d ++ [UInt8.ofNat (y + 128)]) ++ sev q else d ++ [UInt8.ofNat (y + 128)]) := by
          show _ = _
          rw [if_pos (by omega), hS.out, if_pos hc, sev_ge u (by omega), hy, hq, List.append_assoc]
          rfl
        have hb1 : Hid (by1 (UInt8.ofNat (y + 128)) = .int .u8 ((y + 128 : Nat) : Int)) := by
          show Value.int .u8 _ = _
          rw [ofNat_toNat _ (by omega)]
        obtain ⟨z, hzy⟩ : ∃ z : Nat, y + 128 = z := ⟨_, rfl⟩
        rw [hzy] at ho hS' hb1
        have hzl : z < 256 := by omega
        have hone : Hid (∀ x ∈ [Value.int .u8 (z : Int)], x.oneCell' = true) := by intro x hx; simp at hx; subst hx; rfl
        clear hzy
        rcases hcase with e1 | ⟨e1, e2⟩ <;> (
          clear hc
          go_wp2_with (at_builtin; refine wpList_append_own _ rfl _ _ 30 rfl w.heap.size 5 i0 (.int .u8 0) 1 1 Tryd.underlying30 ji hz0 hz1 hz2 rfl (by decide) _ _ _ rfl (hO.out.alloc _) ⟨wr.heap.size, 0, none⟩ 1 1 [.int .u8 (z : Int)] rfl rfl (cell_one_new _ _ _) hone.out hmx.out hby.out (by have := hws.out; simp; omega) ?_; intro v' w4 hown4 hgrow _; rw [← hb1.out] at hown4; have hO4 : Hid (w4.ownsRow w.heap.size 5 1 v' (d ++ [UInt8.ofNat z]).length ((d ++ [UInt8.ofNat z]).map by1)) := (by rw [List.length_append, List.map_append]; exact hown4); have hB4 : Hid (Below w.heap.size w w4) := Below.grown (hB.out.alloc hws.out _) hgrow (by have := hws.out; simp; omega) (fun k hk => (hO.out.lt k hk).1); clear hown4 hgrow)
          go_wp2
          go_roundw
          case rel => exact ⟨k + 1, q, d ++ [UInt8.ofNat z], by omega, by go_num, rfl, hql, hqp, hS', by simp; omega, hO4, hB4⟩
          case measure => simp [intOf]; omega)
    · have hc' : k ≠ 0 ∧ u = 0 := by omega
      obtain ⟨hk0, rfl⟩ := hc'
      have e1 : ((k : Int) == 0) = false := by simp [hk0]
      have hfin : Hid (sev v = d) := by
        show _ = _
        rw [hS.out, if_neg hc]
      clear hc
      by_cases hk10 : (k : Int) < 10
      · go_wp2
        go_ret
        exact ⟨_, rfl, by rw [hfin.out]; exact hO.out, hB.out⟩
      · go_wp2
        go_ret
        exact ⟨_, rfl, by rw [hfin.out]; exact hO.out, hB.out⟩
end Pk
end Go.Proofs.YtnllplholfhbdaaDoor
