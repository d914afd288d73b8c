/- The document's answer for tokens: its form. -/
import Derived.Test.YtkkpcngdpnoidaaDoorRef8
import Derived.Laws.OwnMore
namespace Go.Proofs.YtkkpcngdpnoidaaDoor
set_option linter.ambiguousOpen false
open Go.RowKit
namespace Tk
open Sm
set_option linter.unusedSimpArgs false
set_option linter.unusedVariables false

theorem below_to' {w a b : World} (h : Below w.heap.size w a) (k : Below a.heap.size a b) : Below w.heap.size w b := h.trans (k.mono h.size)

/-- A token as the program holds it. -/
@[reducible] def tok (s b t : Int) : Value := .agg #[nu s, nu b, u8v t]

/-- May a token be? -/
def mayB (s b : Int) : Bool := decide (0 ≤ s ∧ s < 32 ∧ 1 ≤ b ∧ b ≤ 1048576)

set_option maxHeartbeats 1000000 in
theorem may_any (s b t : Int) (w : World) : Calls Tryd.prog 17 #[tok s b t] w fun e w' => e = .returned (.bool (mayB s b)) ∧ Below w.heap.size w w' := by
  have hb : Below w.heap.size w (w.alloc (.cells #[nu s, nu b, u8v t] 24)) := (Below.refl _ _).alloc (Nat.le_refl _) _
  obtain ⟨q, hq⟩ : ∃ q, mayB s b = q := ⟨_, rfl⟩
  have HQ := Hid.mk' hq
  rw [hq]
  unfold mayB at HQ
  clear hq
  by_cases h1 : 0 ≤ s
  · by_cases h2 : s < 32
    · by_cases h3 : 1 ≤ b
      · by_cases h4 : b ≤ 1048576
        · go_enter Tryd.func17, Tryd.ntmps17
          go_wp2
          go_ret
          exact ⟨ret_bool (by rw [← HQ.out]; exact (decide_eq_true ⟨h1, h2, h3, h4⟩).symm), hb⟩
        · go_enter Tryd.func17, Tryd.ntmps17
          go_wp2
          go_ret
          exact ⟨ret_bool (by rw [← HQ.out]; exact (decide_eq_false (by omega)).symm), hb⟩
      · go_enter Tryd.func17, Tryd.ntmps17
        go_wp2
        go_ret
        exact ⟨ret_bool (by rw [← HQ.out]; exact (decide_eq_false (by omega)).symm), hb⟩
    · go_enter Tryd.func17, Tryd.ntmps17
      go_wp2
      go_ret
      exact ⟨ret_bool (by rw [← HQ.out]; exact (decide_eq_false (by omega)).symm), hb⟩
  · go_enter Tryd.func17, Tryd.ntmps17
    go_wp2
    go_ret
    exact ⟨ret_bool (by rw [← HQ.out]; exact (decide_eq_false (by omega)).symm), hb⟩

theorem tok_cells {w : World} {g : Nat} {s b t : Int} (h : w.heap[g]? = some (.cells #[nu s, nu b, u8v t] 24)) : w.cell? ⟨g, 0, none⟩ = some (nu s) ∧ w.cell? ⟨g, 1, none⟩ = some (nu b) ∧ w.cell? ⟨g, 2, none⟩ = some (u8v t) := by
  simp [World.cell?, h]

/-- The form of a token. -/
def form (s b t : Nat) : List UInt8 := 116 :: (dg (num s b t) 20).map lt

theorem form_len (s b t : Nat) : (form s b t).length = 21 := by simp [form, dg_len]

/-- The hundred bits of a token. -/
def hund (s b t : Nat) : List Bool := ((bl s 8 ++ bl b 24) ++ bl t 64) ++ bl 0 4

theorem hund_len (s b t : Nat) : (hund s b t).length = 100 := by simp [hund, bl_len]

theorem nb_hund (s b t : Nat) (hs : s < 256) (hb : b < 16777216) (ht : t < 18446744073709551616) : nb (hund s b t) = num s b t := by
  unfold hund num
  rw [nb_append, nb_append, nb_append, nb_bl, nb_bl, nb_bl, nb_bl, bl_len, bl_len, bl_len]
  simp only [Nat.reducePow]
  omega

theorem digit_at (s b t k : Nat) (hs : s < 256) (hb : b < 16777216) (ht : t < 18446744073709551616) (hk : k < 20) : (dg (num s b t) 20)[k]? = some (nb (((hund s b t).drop (5 * k)).take 5)) := by
  rw [dg_at _ _ _ hk, nb_part _ _ _ (by rw [hund_len]; omega), nb_hund s b t hs hb ht, hund_len]
  rw [show (32 : Nat) ^ (20 - 1 - k) = 2 ^ (100 - 5 * k - 5) by rw [show (32 : Nat) = 2 ^ 5 from rfl, ← Nat.pow_mul]; congr 1; omega]

theorem conv_backG {w : World} {base : Nat} {v : Value} {l : List UInt8} {n : Nat} (hl : l.length = n) (hn : 0 < n) (h : w.ownsRow base 5 1 v n (l.map by1)) : (convert 46 9 v).run Tryd.prog w = .ok (.string (tx l)) w := by
  obtain ⟨a, cap, e, h1, h2, h3⟩ := own_rd' h hl
  obtain ⟨g, o, rfl, hg, hc⟩ := h3 (by rw [hl]; exact hn)
  subst e
  exact run_convert_bytes_back w 46 9 5 ⟨g, o, none⟩ cap l Tryd.underlying46 Tryd.underlying5 Tryd.underlying9 (fun j hj => by
    have := hc j hj
    rw [← this]
    unfold Addr.add
    by_cases h0 : j = 0
    · subst h0; simp
    · simp [h0])

/-- The hundred bits are laid. -/
theorem frm_take (D : List Nat) (k d : Nat) (h : D[k]? = some d) : (116 :: D.map lt).take (k + 1 + 1) = (116 :: D.map lt).take (k + 1) ++ [lt d] := by
  obtain ⟨hk, rfl⟩ := List.getElem?_eq_some_iff.1 h
  have h1 : k + 1 < (116 :: D.map lt).length := by simp; omega
  rw [List.take_succ_eq_append_getElem h1]
  simp

theorem form_step (s b t k : Nat) (hs : s < 256) (hb : b < 16777216) (ht : t < 18446744073709551616) (hk : k < 20) : (form s b t).take (k + 1 + 1) = (form s b t).take (k + 1) ++ [lt (nb (((hund s b t).drop (5 * k)).take 5))] :=
  frm_take _ k _ (digit_at s b t k hs hb ht hk)

set_option maxRecDepth 100000 in
set_option maxHeartbeats 4000000 in
theorem refPrint_yes (s b t : Nat) (w : World) (hs : s < 32) (hb1 : 1 ≤ b) (hb : b ≤ 1048576) (ht : t < 18446744073709551616) :
    Calls Tryd.prog 7 #[tok s b t] w fun e w' => e = .returned (.tuple #[.string (tx (form s b t)), nu 0]) ∧ Below w.heap.size w w' := by
  obtain ⟨i0, hi, hz0, hz1, hz2⟩ := info_parts info_byte
  have hM : mayB s b = true := decide_eq_true ⟨by omega, by omega, by omega, by omega⟩
  have cM := may_any s b t (w.alloc (.cells #[nu s, nu b, u8v t] 24))
  rw [hM] at cM
  have hB0 : Hid (Below w.heap.size w (w.alloc (.cells #[nu s, nu b, u8v t] 24))) := (Below.refl _ _).alloc (Nat.le_refl _) _
  have h0 : Hid ((w.alloc (.cells #[nu s, nu b, u8v t] 24)).heap[w.heap.size]? = some (.cells #[nu s, nu b, u8v t] 24)) := heap_alloc_new _ _
  have cP : Hid (∀ (v : Value) (l : List Bool) (x n base : Nat) (w : World), x < 18446744073709551616 → n ≤ 64 → 0 < n → l.length ≤ 1000 → base ≤ w.heap.size → w.ownsRow base 4 1 v l.length (l.map Value.bool) → Calls Tryd.prog 18 #[v, u8v x, nu n] w fun e w' => ∃ v', e = .returned v' ∧ w'.ownsRow base 4 1 v' (l.length + n) ((l ++ bl x n).map Value.bool) ∧ Below base w w') := put_any
  go_enter Tryd.func7, Tryd.ntmps7
  go_wp2_with fail
  refine cM.mono ?_
  rintro e w1 ⟨rfl, hb1'⟩
  have hz : w.heap.size < w1.heap.size := by have := hb1'.size; simp at this; omega
  have hc1 : Hid (w1.heap[w.heap.size]? = some (.cells #[nu s, nu b, u8v t] 24)) := (hb1'.block _ (by simp)).trans h0.out
  have hB1 : Hid (Below w.heap.size w w1) := hB0.out.trans (hb1'.mono (by simp))
  clear cM hM hb1'
  obtain ⟨k0, k1, k2⟩ := tok_cells hc1.out
  have c2 := cP.out (.slice none 0 0) [] s 8 w1.heap.size w1 (by omega) (by omega) (by omega) (by simp) (Nat.le_refl _) (World.ownsRow_nil _ _ _ _)
  go_wp2_with fail
  refine c2.mono ?_
  rintro e w2 ⟨v2, rfl, ho2, hb2⟩
  have hc2 : Hid (w2.heap[w.heap.size]? = some (.cells #[nu s, nu b, u8v t] 24)) := (hb2.block _ hz).trans hc1.out
  have hB2 : Hid (Below w.heap.size w w2) := hB1.out.trans (hb2.mono hB1.out.size)
  clear c2 k0 k1 k2
  obtain ⟨k0, k1, k2⟩ := tok_cells hc2.out
  have c3 := cP.out v2 ([] ++ bl s 8) b 24 w1.heap.size w2 (by omega) (by omega) (by omega) (by simp [bl_len]) hb2.size (by simpa [bl_len] using ho2)
  clear ho2
  go_wp2_with fail
  refine c3.mono ?_
  rintro e w3 ⟨v3, rfl, ho3, hb3⟩
  have hc3 : Hid (w3.heap[w.heap.size]? = some (.cells #[nu s, nu b, u8v t] 24)) := (hb3.block _ hz).trans hc2.out
  have hb13 := hb2.trans hb3
  have hB3 : Hid (Below w.heap.size w w3) := hB1.out.trans (hb13.mono hB1.out.size)
  clear c3 k0 k1 k2 hb2 hb3
  obtain ⟨k0, k1, k2⟩ := tok_cells hc3.out
  have c4 := cP.out v3 ([] ++ bl s 8 ++ bl b 24) t 64 w1.heap.size w3 ht (by omega) (by omega) (by simp [bl_len]) hb13.size (by simpa [bl_len] using ho3)
  clear ho3
  go_wp2_with fail
  refine c4.mono ?_
  rintro e w4 ⟨v4, rfl, ho4, hb4⟩
  have hb14 := hb13.trans hb4
  clear c4 k0 k1 k2 hb13 hb4 hc3 hB3
  have c5 := cP.out v4 ([] ++ bl s 8 ++ bl b 24 ++ bl t 64) 0 4 w1.heap.size w4 (by omega) (by omega) (by omega) (by simp [bl_len]) hb14.size (by simpa [bl_len] using ho4)
  clear ho4
  go_wp2_with fail
  refine c5.mono ?_
  rintro e w5 ⟨v5, rfl, ho5, hb5⟩
  have hb15 := hb14.trans hb5
  have hB5 : Hid (Below w.heap.size w w5) := hB1.out.trans (hb15.mono hB1.out.size)
  have ho6 : w5.ownsRow w1.heap.size 4 1 v5 (hund s b t).length ((hund s b t).map Value.bool) := by
    rw [hund_len]
    simpa [bl_len, hund] using ho5
  have hL := hund_len s b t
  have HF : Hid (∀ k, k < 20 → (form s b t).take (k + 1 + 1) = (form s b t).take (k + 1) ++ [lt (nb (((hund s b t).drop (5 * k)).take 5))]) := fun k hk => form_step s b t k (by omega) (by omega) ht hk
  have hFl := Hid.mk' (form_len s b t)
  have hF1 : Hid ((form s b t).take 1 = [116]) := rfl
  clear c5 ho5 hb5 hb14 hb15 cP hc1 hc2 hB0 hB1 hB2 h0
  generalize hund s b t = L at *
  obtain ⟨F, hFe⟩ : ∃ F, form s b t = F := ⟨_, rfl⟩
  rw [hFe] at hFl hF1
  simp only [hFe] at HF
  have HFE := Hid.mk' hFe
  clear hFe
  obtain ⟨g, cap, rfl, hcap, hcm, hg1, hg2⟩ := own_posB ho6 (by omega)
  have cT : Hid (∀ k wx, k < 20 → Below w5.heap.size w5 wx → Calls Tryd.prog 19 #[.slice (some ⟨g, 0, none⟩) L.length cap, nu ((5 * k : Nat) : Int), nu 5] wx fun e w' => e = .returned (u8v (nb ((L.drop (5 * k)).take 5))) ∧ w' = wx) := fun k wx hk hb => take_any L (5 * k) 5 w1.heap.size g cap wx (by omega) (by omega) (by omega) (own_keptB ho6 hb) hcap hcm
  have hlt5 : Hid (∀ k, nb ((L.drop (5 * k)).take 5) < 32) := fun k => by
    have h1 := nb_lt ((L.drop (5 * k)).take 5)
    have h2 : ((L.drop (5 * k)).take 5).length ≤ 5 := by rw [List.length_take]; omega
    have h3 := Nat.pow_le_pow_right (n := 2) (by decide) h2
    exact Nat.lt_of_lt_of_le h1 (by simpa using h3)
  have hO5 : Hid ((w5.alloc (.cells #[.int .u8 116] 5)).ownsRow w5.heap.size 5 1 (.slice (some ⟨w5.heap.size, 0, none⟩) 1 1) 1 (([116] : List UInt8).map by1)) := World.ownsRow_lit (size := 1) w5 #[.int .u8 116] 1 (Nat.le_refl _) (by decide) rfl
  have hB6 : Hid (Below w5.heap.size w5 (w5.alloc (.cells #[.int .u8 116] 5))) := (Below.refl _ _).alloc (Nat.le_refl _) _
  clear ho6 hcm hg1 hg2 hz
  rw [hL] at cT
  simp only [hL]
  clear hL hcap
  go_wp2
  go_loopw [5, 6] (fun pv iv wr => ∃ k : Nat, k ≤ 20 ∧ iv = nu ((5 * k : Nat) : Int) ∧ wr.ownsRow w5.heap.size 5 1 pv (k + 1) ((F.take (k + 1)).map by1) ∧ Below w5.heap.size w5 wr) (fun _ iv _ => 100 - (intOf iv).toNat)
  case atStart => exact ⟨0, Nat.zero_le _, rfl, by rw [hF1.out]; exact hO5.out, hB6.out⟩
  case round =>
    obtain ⟨k, hk, rfl, hown, hbel⟩ := hrel
    by_cases hp : k < 20
    · have cK := cT.out k wr hp hbel
      have hF := HF.out k hp
      have hd := hlt5.out k
      generalize nb ((L.drop (5 * k)).take 5) = d at *
      have hx := fun w => idx_k .u64 d hd w
      have HS : Hid ((F.take (k + 1 + 1)).map by1 = (F.take (k + 1)).map by1 ++ [by1 (lt d)]) := by
        show _ = _
        rw [hF, List.map_append]; rfl
      clear hF
      generalize lt d = c at *
      have hfive : Hid (((5 * (k + 1) : Nat) : Int) = ((5 * k : Nat) : Int) + 5) := by
        show _ = _
        omega
      have h100 : ((5 * k : Nat) : Int) < 100 := by omega
      have h100' : (0 : Int) ≤ ((5 * k : Nat) : Int) := by omega
      obtain ⟨j, hj⟩ : ∃ j : Int, ((5 * k : Nat) : Int) = j := ⟨_, rfl⟩
      rw [hj] at cK h100 h100' ⊢
      have HJ := Hid.mk' hj
      clear hj
      go_wp2_with fail
      refine cK.mono ?_
      rintro e w' ⟨rfl, hw⟩
      subst w'
      go_wp2_with (at_builtin; refine wpList_append_own _ rfl _ _ 46 rfl w5.heap.size 5 i0 (.int .u8 0) 1 1 Tryd.underlying46 hi hz0 hz1 hz2 rfl (by decide) _ _ _ rfl (hown.alloc _) ⟨wr.heap.size, 0, none⟩ 1 1 [by1 c] rfl rfl (cell_one_new _ _ _) (by simp [Value.oneCell']) (by unfold maxLen; omega) (by omega) (by have := hbel.size; simp; omega) ?_; intro v' w4 hown4 hgrow _; have hbel4 : Below w5.heap.size w5 w4 := Below.grown (hbel.alloc (by exact hbel.size) _) hgrow (by have := hbel.size; simp; omega) (fun k hk => (hown.lt k hk).1))
      go_roundw
      case rel => exact ⟨k + 1, by omega, by rw [hfive.out, HJ.out], by rw [HS.out]; exact hown4, hbel4⟩
      case measure => simp [intOf]; omega
    · obtain rfl : k = 20 := by omega
      simp only [Nat.reduceMul, Int.cast_ofNat_Int]
      rw [List.take_of_length_le (by rw [hFl.out]; decide)] at hown
      have hv := conv_backG hFl.out (by decide) hown
      go_wp2
      go_ret2
      exact ⟨by rw [HFE.out]; rfl, below_to' hB5.out hbel⟩

theorem refPrint_no (s b t : Int) (w : World) (hM : mayB s b = false) :
    Calls Tryd.prog 7 #[tok s b t] w fun e w' => e = .returned (.tuple #[.string ⟨#[]⟩, nu 1]) ∧ Below w.heap.size w w' := by
  have cM := may_any s b t (w.alloc (.cells #[nu s, nu b, u8v t] 24))
  rw [hM] at cM
  have hB0 : Below w.heap.size w (w.alloc (.cells #[nu s, nu b, u8v t] 24)) := (Below.refl _ _).alloc (Nat.le_refl _) _
  go_enter Tryd.func7, Tryd.ntmps7
  go_wp2_with fail
  refine cM.mono ?_
  rintro e w1 ⟨rfl, hb1⟩
  go_wp2
  go_ret2
  exact ⟨rfl, below_to' hB0 hb1⟩
end Tk
end Go.Proofs.YtkkpcngdpnoidaaDoor
