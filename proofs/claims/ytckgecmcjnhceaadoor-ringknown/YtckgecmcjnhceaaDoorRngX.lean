/- A slot that is dropped is missing, all others stay in their order; it may be pushed again: RingDropped out of what the program's calls must answer. -/
import Derived.Test.YtckgecmcjnhceaaDoorRngO
namespace Go.Proofs.YtckgecmcjnhceaaDoor
set_option linter.ambiguousOpen false
open Go.RowKit
namespace Rg
open An Ft Lv
set_option linter.unusedSimpArgs false
set_option linter.unusedVariables false

theorem cell_lt {w : World} {g k : Nat} {v : Value} (h : w.cell? ⟨g, k, none⟩ = some v) : g < w.heap.size := by
  obtain ⟨ob, h1, _⟩ := cells_of_cell h
  exact (Array.getElem?_eq_some_iff.1 h1).1

theorem cut_at (R : List Nat) (k x : Nat) (h : R[k]? = some x) : R = R.take k ++ x :: R.drop (k + 1) ∧ R.eraseIdx k = R.take k ++ R.drop (k + 1) := by
  obtain ⟨h1, rfl⟩ := List.getElem?_eq_some_iff.1 h
  refine ⟨?_, List.eraseIdx_eq_take_drop_succ _ _⟩
  rw [List.getElem_cons_drop, List.take_append_drop]

set_option maxRecDepth 100000 in
set_option maxHeartbeats 8000000 in
theorem ringDropped_yes {Rep : World → Nat → (Nat → Prop) → Arn → Prop} (H : KeepC Rep) (CN : NewC Rep) (CG : GetC Rep) (CP : PushC Rep) (CD : DropC Rep) (CA : AllC Rep) (v : Value) (l : List Int) (which : Int) (w : World) (hR : RdI w v l) (hl : ∀ x ∈ l, I64 x) (hwh : I64 which) :
    Calls Tryd.prog 41 #[v, nu which] w fun e w' => e = .returned (.bool true) ∧ Below w.heap.size w w' := by
  obtain ⟨i0, ji, hz0, hz1, hz2⟩ := info_parts info_int
  have c1 := Hid.mk' (CN w)
  have HH := Hid.mk' H
  have cR : Hid (∀ wx, Below w.heap.size w wx → _) := fun wx hb => row_any v l wx (by
    obtain ⟨a, cap, e, h1, h2, h3⟩ := hR
    refine ⟨a, cap, e, h1, h2, fun h0 => ?_⟩
    obtain ⟨g, o, rfl, hg, hc⟩ := h3 h0
    exact ⟨g, o, rfl, Nat.lt_of_lt_of_le hg hb.size, fun k i hk => (hb.cell (p := ⟨g, o + k, none⟩) hg).trans (hc k i hk)⟩) hl
  have cL : Hid (∀ wx p A v R, Sr Rep w wx p A (blk v) → A.wr ≤ 900000000 → RdO wx v R → R.Nodup → (∀ i ∈ R, i < 32) → _) := fun wx p A v R h1 h2 h3 h4 h5 => laid_any CP w wx p A (blk v) v R h1 h2 h3 (fun _ h => h) h4 h5
  have cW : Hid (∀ wx, _) := fun wx => works_any H CN CP CA wx
  have cA : Hid (∀ wx p A Q R, Sr Rep w wx p A Q → Ring A.sl R → _) := fun wx p A Q R h1 h2 => all_sr H CA w wx p A Q R h1 h2
  have cD : Hid (∀ wx p A Q u v i, Sr Rep w wx p A Q → A.wr ≤ 999999990 → Ring A.sl (u ++ i :: v) → _) := fun wx p A Q u v i h1 h2 h3 => drop_sr CD w wx p A Q u v i h1 h2 h3
  have cP : Hid (∀ wx p A Q l i, Sr Rep w wx p A Q → A.wr ≤ 999999990 → Ring A.sl l → i < 32 → i ∉ l → _) := fun wx p A Q l i h1 h2 h3 h4 h5 => push_sr CP w wx p A Q l i h1 h2 h3 h4 h5
  have cG : Hid (∀ wx p A Q (i : Nat), Sr Rep w wx p A Q → i < 32 → ¬ well A.sl i → (pv A.sl i = -1 ∧ nx A.sl i = -1) → Calls Tryd.prog 62 #[ptr p, nun i] wx fun e w' => e = .returned (.bool false) ∧ Below wx.heap.size wx w') := fun wx p A Q i h1 h2 h3 h4 => by
    have := well_any H CG w wx p A Q i h1 h2 (by rw [h4.1, h4.2]; exact ⟨⟨by decide, by decide⟩, ⟨by decide, by decide⟩⟩)
    rwa [decide_eq_false h3] at this
  obtain ⟨av, cv, rfl, _⟩ := hR
  clear H CN CG CP CD CA hl
  go_enter Tryd.func41, Tryd.ntmps41
  go_wp2_with fail
  refine c1.out.mono ?_
  rintro e w1 ⟨p, F, rfl, hr1, hf1, hb1⟩
  have C2 := Hid.mk' (cR.out w1 hb1)
  have H1 : Hid (Rep w1 p F arn0 ∧ (∀ k, F k → w.heap.size ≤ k) ∧ Below w.heap.size w w1) := ⟨hr1, hf1, hb1⟩
  clear hr1 hf1 hb1 c1 cR
  go_wp2_with fail
  refine C2.out.mono ?_
  rintro e w2 ⟨v2, R, rfl, ho2, hnd, hlt, hb2⟩
  have hS2 := begin_any HH.out H1.out.1 H1.out.2.1 H1.out.2.2 ho2 hb2
  have hfew := nodup_few 32 R hnd hlt
  have C3 := Hid.mk' (cL.out w2 p arn0 v2 R hS2 (by decide) (rdO_own ho2) hnd hlt)
  obtain ⟨n, hn⟩ : ∃ n, R.length = n := ⟨_, rfl⟩
  rw [hn] at ho2 hfew
  obtain ⟨a2, c2, rfl, hc1, hc2, _⟩ := Nm.own_shape ho2
  unfold maxLen at hc2
  obtain ⟨z, hz⟩ : ∃ z, lastI R = z := ⟨_, rfl⟩
  rw [hz] at C3
  have HO2 := Hid.mk' ho2
  have HZ := Hid.mk' hz
  have HN := Hid.mk' hn
  have HND := Hid.mk' hnd
  have HLT := Hid.mk' hlt
  clear ho2 hb2 hS2 C2 cL hz hn hnd hlt
  go_wp2_with fail
  refine C3.out.mono ?_
  rintro e w3 ⟨rfl, A1, a1, hring, _, a4, a5⟩
  have HRG := Hid.mk' hring
  have HS3 := Hid.mk' a4
  have HO3 := Hid.mk' (own_kp HO2.out a5 (fun _ h => h))
  have HW1 : Hid (A1.wr ≤ 96) := by have h := a1; show _ ≤ _; simpa [arn0] using h
  clear a1 hring a4 a5 C3 HO2
  go_wp2_with fail
  refine (cW.out w3).mono ?_
  rintro e w4 ⟨rfl, hb4⟩
  have HS4 := Hid.mk' (HS3.out.below HH.out hb4)
  have HO4 : Hid (w4.ownsRow w1.heap.size 3 1 (.slice a2 n c2) n (R.map nun)) := own_kp HO3.out (Kp.of_below (R := blk (.slice a2 n c2)) hb4) (fun _ h => h)
  have hnI : (n : Int) ≤ 32 := by omega
  clear hb4 HS3 HO3
  by_cases hn0 : n = 0
  · subst hn0
    have HBE := Hid.mk' HS4.out.bel
    clear HS4 HO4 HRG
    go_wp2_with fail
    refine (cW.out w4).mono ?_
    rintro e w5 ⟨rfl, hb5⟩
    have HB5 : Hid (Below w.heap.size w w5) := HBE.out.trans (hb5.mono HBE.out.size)
    clear hb5
    go_wp2
    go_ret
    exact ⟨rfl, HB5.out⟩
  have hn0b : ((n : Int) == 0) = false := by simp; omega
  obtain ⟨kk, hkk, hkn⟩ : ∃ kk : Nat, which % (n : Int) = kk ∧ kk < n := ⟨(which % (n : Int)).toNat, by have := Int.emod_nonneg which (b := (n : Int)) (by omega); omega, by have h1 := Int.emod_nonneg which (b := (n : Int)) (by omega); have h2 := Int.emod_lt_of_pos which (b := (n : Int)) (by omega); omega⟩
  have cK : Hid (∀ wx, Calls Tryd.prog 7 #[nu which, .int .i64 (n : Int)] wx fun e w' => e = .returned (nun kk) ∧ w' = wx) := fun wx => by
    have := pick_anyW which n wx (by omega) (by omega) hwh
    rwa [hkk] at this
  have hkI : (kk : Int) < (n : Int) := by omega
  obtain ⟨x, hx⟩ : ∃ x, R[kk]? = some x := ⟨_, List.getElem?_eq_getElem (by rw [HN.out]; exact hkn)⟩
  have HX := Hid.mk' hx
  obtain ⟨g6, hg6⟩ : ∃ g6, a2 = some ⟨g6, 0, none⟩ := by
    obtain ⟨_, _, e, _, _, h3⟩ := own_rdN HO4.out
    obtain ⟨g, rfl, _, _⟩ := h3 (by rw [HN.out]; omega)
    simp only [Value.slice.injEq] at e
    exact ⟨g, e.1⟩
  subst hg6
  have hg64 : g6 < w4.heap.size := (HO4.out.lt g6 rfl).2
  have HW4 : Hid (w.heap.size ≤ w4.heap.size) := HS4.out.bel.size
  clear hkk hn0 hx cW hwh
  go_wp2_with fail
  refine (cK.out _).mono ?_
  rintro e w9 ⟨rfl, hw9⟩
  subst w9
  clear cK
  go_wp2_with fail
  go_loopw [10, 11] (fun lv iv wr => ∃ (k m : Nat) (a : Option Addr) (c : Nat), k ≤ n ∧ m ≤ 32 ∧ iv = nun k ∧ lv = .slice a m c ∧ Hid (((R.take k).eraseIdx kk).length = m) ∧ Hid (wr.ownsRow w4.heap.size 3 1 (.slice a m c) m (((R.take k).eraseIdx kk).map nun)) ∧ Hid (Below w4.heap.size w4 wr)) (fun _ iv _ => n - (intOf iv).toNat)
  case atStart => exact ⟨0, 0, none, 0, Nat.zero_le _, by omega, rfl, rfl, by show _ = _; simp, by rw [List.take_zero]; exact World.ownsRow_nil _ _ _ _, Below.refl _ _⟩
  case round =>
    obtain ⟨k, m, a, c, hk, hm, rfl, rfl, HM, HO, HB⟩ := hrel
    have hOr : wr.ownsRow w1.heap.size 3 1 (.slice (some ⟨g6, 0, none⟩) n c2) n (R.map nun) := own_kp HO4.out (Kp.of_below (R := blk (.slice (some ⟨g6, 0, none⟩) n c2)) HB.out) (fun _ h => h)
    have HOR := Hid.mk' hOr
    have HCR : Hid (∀ j y, R[j]? = some y → wr.cell? ⟨g6, j, none⟩ = some (nun y)) := fun j y hy => by
      obtain ⟨_, _, e, _, _, h3⟩ := own_rdN hOr
      obtain ⟨g, rfl, _, hc⟩ := h3 (by have := (List.getElem?_eq_some_iff.1 hy).1; omega)
      simp only [Value.slice.injEq, Option.some.injEq, Addr.mk.injEq, and_true] at e
      obtain ⟨rfl, -, -⟩ := e
      exact hc j y hy
    clear hOr
    by_cases hlt : k < n
    · have hkI2 : (k : Int) < (n : Int) := by omega
      obtain ⟨y, hy⟩ : ∃ y, R[k]? = some y := ⟨_, List.getElem?_eq_getElem (by rw [HN.out]; exact hlt)⟩
      have hcy := HCR.out k y hy
      have HST := Hid.mk' (erase_step R kk k y hy)
      clear hy HCR HOR
      by_cases he : k = kk
      · have heb : ((k : Int) != (kk : Int)) = false := by simp [he]
        have HEQ : Hid ((R.take (k + 1)).eraseIdx kk = (R.take k).eraseIdx kk) := by show _ = _; rw [HST.out, if_pos he]
        clear he HST
        go_wp2
        go_roundw
        case rel => exact ⟨k + 1, m, a, c, by omega, hm, by go_num, rfl, by rw [HEQ.out]; exact HM, by rw [HEQ.out]; exact HO, HB⟩
        case measure => simp [intOf]; omega
      · have heb : ((k : Int) != (kk : Int)) = true := by simp; omega
        have HEQ : Hid ((R.take (k + 1)).eraseIdx kk = (R.take k).eraseIdx kk ++ [y]) := by show _ = _; rw [HST.out, if_neg he]
        have hm2 : m + 1 ≤ 32 := by
          have h1 : ((R.take (k + 1)).eraseIdx kk).length ≤ R.length := Nat.le_trans (List.length_eraseIdx_le _ _) (by rw [List.length_take]; omega)
          rw [HEQ.out, List.length_append, HM.out, HN.out] at h1
          simp at h1
          omega
        have HM2 : Hid (((R.take (k + 1)).eraseIdx kk).length = m + 1) := by show _ = _; rw [HEQ.out, List.length_append, HM.out]; rfl
        have HO1 : Hid ((wr.alloc (.cells #[nun y] 3)).ownsRow w4.heap.size 3 1 (.slice a m c) m (((R.take k).eraseIdx kk).map nun)) := HO.out.alloc _
        have HB1 : Hid (Below w4.heap.size w4 (wr.alloc (.cells #[nun y] 3))) := HB.out.alloc HB.out.size _
        clear he HST HM
        go_wp2_with (first | (at_builtin; refine Nm.wpList_append_keep _ rfl _ _ 30 rfl w4.heap.size 3 i0 (.int .i64 0) 1 8 Tryd.underlying30 ji hz0 hz1 hz2 rfl (by decide) _ m _ rfl HO1.out ⟨wr.heap.size, 0, none⟩ 1 1 [nun y] rfl rfl (cell_one_new _ _ _) (by simp [Value.oneCell']) (by unfold maxLen; omega) (by omega) HB1.out.size (by decide) ?_; intro v4 w5 hg4; obtain ⟨ho4, hgr4, _, _⟩ := hg4; obtain ⟨a4, c4, rfl, _⟩ := Nm.own_shape ho4; have HO5 := Hid.mk' ho4; have HB5 : Hid (Below w4.heap.size w4 w5) := (HB1.out.grown hgr4 HB1.out.size (fun r e => (HO1.out.lt r e).1)); clear ho4 hgr4) | fail)
        go_roundw
        case rel => exact ⟨k + 1, m + 1, a4, c4, by omega, hm2, by go_num, rfl, HM2, by rw [HEQ.out, List.map_append]; exact HO5, HB5⟩
        case measure => simp [intOf]; omega
    · have hkI2 : ¬ (k : Int) < (n : Int) := by omega
      have hTK : (R.take k).eraseIdx kk = R.take kk ++ R.drop (kk + 1) := by
        rw [List.take_of_length_le (by rw [HN.out]; omega)]
        exact (cut_at R kk x HX.out).2
      rw [hTK] at HM HO
      have hRR := (cut_at R kk x HX.out).1
      obtain ⟨u, hu⟩ : ∃ u, R.take kk = u := ⟨_, rfl⟩
      obtain ⟨vv, hvv⟩ : ∃ vv, R.drop (kk + 1) = vv := ⟨_, rfl⟩
      rw [hu, hvv] at HM HO hRR
      have hxu : x ∉ u ++ vv := fun e => by
        have h1 := HND.out
        rw [hRR, List.nodup_append, List.nodup_cons] at h1
        rcases List.mem_append.1 e with h | h
        · exact h1.2.2 x h x (by simp) rfl
        · exact h1.2.1.1 h
      have hx3 := HLT.out x (List.mem_of_getElem? HX.out)
      have hcx := HCR.out kk x HX.out
      have hmW := (show m ≤ 32 from hm)
      have HRR := Hid.mk' hRR
      have hSr : Sr Rep w wr p A1 (fun j => blk (.slice (some ⟨g6, 0, none⟩) n c2) j ∨ blk (.slice a m c) j) := Sr.more HH.out HS4.out HB.out (fun j hj => hj.imp id (fun e => blk_own HO.out e))
      have CD1 := cD.out wr p A1 _ u vv x hSr (by have := HW1.out; omega) (by rw [← hRR]; exact HRG.out)
      rw [← hRR, HZ.out] at CD1
      obtain ⟨z2, hz2'⟩ : ∃ z2, lastI (u ++ vv) = z2 := ⟨_, rfl⟩
      rw [hz2'] at CD1
      obtain ⟨Wt, hWt⟩ : ∃ Wt, u ++ vv = Wt := ⟨_, rfl⟩
      rw [hWt] at CD1 HM HO hxu hz2'
      have C4 := Hid.mk' CD1
      have HZ2 := Hid.mk' hz2'
      have KOR : Hid (∀ wx, Kp (fun j => blk (.slice (some ⟨g6, 0, none⟩) n c2) j ∨ blk (.slice a m c) j) wr wx → wx.ownsRow w1.heap.size 3 1 (.slice (some ⟨g6, 0, none⟩) n c2) n (R.map nun) ∧ wx.ownsRow w4.heap.size 3 1 (.slice a m c) m (Wt.map nun) ∧ wx.cell? ⟨g6, kk, none⟩ = some (nun x)) := fun wx hkp => by
        have h1 : wx.ownsRow w1.heap.size 3 1 (.slice (some ⟨g6, 0, none⟩) n c2) n (R.map nun) := own_kp HOR.out hkp (fun _ h => .inl h)
        refine ⟨h1, own_kp HO.out hkp (fun _ h => .inr h), ?_⟩
        have h2 := h1.cellAt (g := g6) (cap := c2) kk (by omega)
        rw [h2, List.getElem?_map, HX.out]
        rfl
      have HXU := Hid.mk' hxu
      clear hTK hRR hu hvv hxu hSr CD1 hWt hz2' HCR HRR HRG HS4 HO4
      go_wp2_with fail
      refine C4.out.mono ?_
      rintro e w5 ⟨rfl, A2, b1, b2, b3, b4, b5, b6⟩
      have HA2 : Hid (A2.wr ≤ 99) := by have h1 := HW1.out; show _ ≤ _; omega
      have HR2 := Hid.mk' b2
      have HNW : Hid (¬ well A2.sl x ∧ (pv A2.sl x = -1 ∧ nx A2.sl x = -1)) := ⟨b3, b4⟩
      have HS5 := Hid.mk' b5
      have HK5 := Hid.mk' b6
      obtain ⟨_, o5, hc5⟩ := KOR.out w5 b6
      have C5 := Hid.mk' (cA.out w5 p A2 _ Wt b5 b2)
      rw [HZ2.out, HM.out] at C5
      clear b1 b2 b3 b4 b5 b6 o5 C4 cD hcx
      go_wp2_with fail
      refine C5.out.mono ?_
      rintro e w6 ⟨v6, rfl, ho6, hb6⟩
      have hK6 : Kp (fun j => blk (.slice (some ⟨g6, 0, none⟩) n c2) j ∨ blk (.slice a m c) j) wr w6 := Kp.trans HK5.out (Kp.of_below hb6)
      obtain ⟨_, o6, hc6⟩ := KOR.out w6 hK6
      have C6 := Hid.mk' (sameN v6 (.slice a m c) Wt w6 (own_rdN ho6) (own_rdN o6))
      obtain ⟨a6, c6, rfl, _⟩ := Nm.own_shape ho6
      have HS6 := Hid.mk' (HS5.out.below HH.out hb6)
      have HK6 := Hid.mk' hK6
      clear ho6 hb6 hK6 o6 C5 HS5 HK5 hc5
      go_wp2_with fail
      refine C6.out.mono ?_
      rintro e w7 ⟨rfl, hb7⟩
      have hK7 : Kp (fun j => blk (.slice (some ⟨g6, 0, none⟩) n c2) j ∨ blk (.slice a m c) j) wr w7 := Kp.trans HK6.out (Kp.of_below hb7)
      have HK7 := Hid.mk' hK7
      have HS7 := Hid.mk' (HS6.out.below HH.out hb7)
      obtain ⟨_, _, hc7⟩ := KOR.out w7 hK7
      have C7 := Hid.mk' (cG.out w7 p A2 _ x HS7.out hx3 HNW.out.1 HNW.out.2)
      clear hb7 hK7 C6 HS6 HK6 hc6
      go_wp2_with fail
      refine C7.out.mono ?_
      rintro e w8 ⟨rfl, hb8⟩
      have hK8 : Kp (fun j => blk (.slice (some ⟨g6, 0, none⟩) n c2) j ∨ blk (.slice a m c) j) wr w8 := Kp.trans HK7.out (Kp.of_below hb8)
      have HK8 := Hid.mk' hK8
      have HS8 := Hid.mk' (HS7.out.below HH.out hb8)
      obtain ⟨_, _, hc8⟩ := KOR.out w8 hK8
      have C8 := cP.out w8 p A2 _ Wt x HS8.out (by have := HA2.out; omega) HR2.out hx3 HXU.out
      rw [HZ2.out] at C8
      have C8 := Hid.mk' C8
      have hbb : (z2 == -1) = ((m : Int) == 0) := by
        have h1 := lastI_none Wt
        rw [HZ2.out] at h1
        rw [Bool.eq_iff_iff]
        simp only [beq_iff_eq]
        rw [h1]
        have h2 := HM.out
        constructor
        · intro e
          rw [e] at h2
          simp at h2
          omega
        · intro e
          exact List.eq_nil_of_length_eq_zero (by omega)
      obtain ⟨bz, hbz⟩ : ∃ bz, ((m : Int) == 0) = bz := ⟨_, rfl⟩
      rw [hbz] at hbb
      have hbn : (bz != bz) = false := by simp
      have CAL0 : Hid (∀ wx p A Q R, Sr Rep w wx p A Q → Ring A.sl R → _) := cA
      clear hb8 hK8 C7 HS7 HK7 hc7 HNW cG cA
      go_wp2_with fail
      refine C8.out.mono ?_
      rintro e w9 ⟨rfl, A3, _, _, b3, _, b5, b6⟩
      have hK9 : Kp (fun j => blk (.slice (some ⟨g6, 0, none⟩) n c2) j ∨ blk (.slice a m c) j) wr w9 := Kp.trans HK8.out b6
      have HK9 := Hid.mk' hK9
      have HBE9 := Hid.mk' b5.bel
      have hc9 := (KOR.out w9 hK9).2.2
      have HLN : Hid ((Wt ++ [x]).length = m + 1) := by show _ = _; rw [List.length_append, HM.out]; rfl
      have CAL : Hid (∀ wx, Below w9.heap.size w9 wx → Calls Tryd.prog 11 #[ptr p, nun x, nu 99] wx fun e w' => ∃ aa ca, e = .returned (.slice aa (m + 1) ca) ∧ w'.cell? ⟨g6, kk, none⟩ = some (nun x) ∧ Hid (w'.ownsRow w9.heap.size 3 1 (.slice aa (m + 1) ca) (m + 1) ((Wt ++ [x]).map nun) ∧ Below w9.heap.size w9 w' ∧ Below wx.heap.size wx w')) := fun wx hb => by
        have := CAL0.out wx p A3 _ (Wt ++ [x]) (b5.below HH.out hb) b3
        rw [lastI_snoc, HLN.out] at this
        refine this.mono ?_
        rintro e w' ⟨v', rfl, ho, hb'⟩
        obtain ⟨aa, ca, rfl, _⟩ := Nm.own_shape ho
        have hb9 : Below w9.heap.size w9 w' := hb.trans (hb'.mono hb.size)
        exact ⟨aa, ca, rfl, (KOR.out w' (Kp.trans hK9 (Kp.of_below hb9))).2.2, own_monoA ho hb.size, hb9, hb'⟩
      clear b3 b5 b6 hK9 C8 HS8 HK8 hc8 CAL0 cP
      go_wp2_with fail
      refine wp_region_held_drew (S := fun w' => w'.cell? ⟨g6, kk, none⟩ = some (nun x)) (by kernel_rfl) hc9 (fun hHeld => ?_)
      refine wpAnyH_take (i := 0) (v := ?_) rfl (by kernel_rfl) (by kernel_rfl) (by kernel_rfl) (fun _ _ _ h => h) (Or.inl ⟨by rfl, ?_⟩) hHeld ?_
      rotate_left
      · (intro w' hS'; go_simp <;> with_reducible rfl)
      simp only [Act.put, List.getElem_toArray, List.getElem_cons_succ, List.getElem_cons_zero, List.setIfInBounds_toArray, List.set]
      refine wpAnyH_take (i := 1) (v := ?_) rfl (by kernel_rfl) (by kernel_rfl) (by kernel_rfl) (fun _ _ _ h => h) (Or.inl ⟨by rfl, ?_⟩) hHeld ?_
      rotate_left
      · (intro w' hS'; go_simp <;> with_reducible rfl)
      simp only [Act.put, List.getElem_toArray, List.getElem_cons_succ, List.getElem_cons_zero, List.setIfInBounds_toArray, List.set]
      refine wpAnyH_take (i := 2) (v := ?_) rfl (by kernel_rfl) (by kernel_rfl) (by kernel_rfl) (fun _ _ _ h => h) (Or.inl ⟨by rfl, ?_⟩) hHeld ?_
      rotate_left
      · (intro w' hS'; go_simp <;> with_reducible rfl)
      simp only [Act.put, List.getElem_toArray, List.getElem_cons_succ, List.getElem_cons_zero, List.setIfInBounds_toArray, List.set]
      refine wpAnyH_take (i := 3) (v := ?_) rfl (by kernel_rfl) (by kernel_rfl) (by kernel_rfl) (fun _ _ _ h => h) (Or.inl ⟨by rfl, ?_⟩) hHeld ?_
      rotate_left
      · (intro w' hS'; go_simp <;> with_reducible rfl)
      simp only [Act.put, List.getElem_toArray, List.getElem_cons_succ, List.getElem_cons_zero, List.setIfInBounds_toArray, List.set]
      refine wpAnyH_take (i := 4) (v := ?_) rfl (by kernel_rfl) (by kernel_rfl) (by kernel_rfl) (fun _ _ _ h => h) (Or.inl ⟨by rfl, ?_⟩) hHeld ?_
      rotate_left
      · (intro w' hS'; go_simp <;> with_reducible rfl)
      simp only [Act.put, List.getElem_toArray, List.getElem_cons_succ, List.getElem_cons_zero, List.setIfInBounds_toArray, List.set]
      refine wpAnyH_take (i := 6) (v := ?_) rfl (by kernel_rfl) (by kernel_rfl) (by kernel_rfl) (fun _ _ _ h => h) (Or.inl ⟨by rfl, ?_⟩) hHeld ?_
      rotate_left
      · (intro w' hS'; go_simp <;> with_reducible rfl)
      simp only [Act.put, List.getElem_toArray, List.getElem_cons_succ, List.getElem_cons_zero, List.setIfInBounds_toArray, List.set]
      refine wpAnyH_take (i := 7) (v := ?_) rfl (by kernel_rfl) (by kernel_rfl) (by kernel_rfl) (fun _ _ _ h => h) (Or.inl ⟨by rfl, ?_⟩) hHeld ?_
      rotate_left
      · (intro w' hS'; go_simp <;> with_reducible rfl)
      simp only [Act.put, List.getElem_toArray, List.getElem_cons_succ, List.getElem_cons_zero, List.setIfInBounds_toArray, List.set]
      refine wpAnyH_take (i := 8) (v := ?_) rfl (by kernel_rfl) (by kernel_rfl) (by kernel_rfl) (fun _ _ _ h => h) (Or.inl ⟨by rfl, ?_⟩) hHeld ?_
      rotate_left
      · (intro w' hS'; go_simp <;> with_reducible rfl)
      simp only [Act.put, List.getElem_toArray, List.getElem_cons_succ, List.getElem_cons_zero, List.setIfInBounds_toArray, List.set]
      refine wpAnyH_take (i := 9) (v := ?_) rfl (by kernel_rfl) (by kernel_rfl) (by kernel_rfl) (fun _ _ _ h => h) (Or.inl ⟨by rfl, ?_⟩) hHeld ?_
      rotate_left
      · (intro w' hS'; go_simp <;> with_reducible rfl)
      simp only [Act.put, List.getElem_toArray, List.getElem_cons_succ, List.getElem_cons_zero, List.setIfInBounds_toArray, List.set]
      refine wpAnyH_take (i := 10) (v := ?_) rfl (by kernel_rfl) (by kernel_rfl) (by kernel_rfl) (fun _ _ _ h => h) (Or.inl ⟨by rfl, ?_⟩) hHeld ?_
      rotate_left
      · (intro w' hS'; go_simp <;> with_reducible rfl)
      simp only [Act.put, List.getElem_toArray, List.getElem_cons_succ, List.getElem_cons_zero, List.setIfInBounds_toArray, List.set]
      refine wpAnyH_ready (rs := [5, 11]) (by kernel_rfl) (by simp) ?_
      refine AllReadyH.cons rfl (fun K hK => ?_) (AllReadyH.cons rfl (fun K hK => ?_) AllReadyH.nil)
      · clear hHeld
        go_simp
        refine (CAL.out _ (Below.refl _ _).drew).mono ?_
        rintro e w10 ⟨aa, ca, rfl, hS10, HQ0⟩
        have HQ10 : Hid (w10.ownsRow w9.heap.size 3 1 (.slice aa (m + 1) ca) (m + 1) ((Wt ++ [x]).map nun) ∧ Below w9.heap.size w9 w10) := ⟨HQ0.out.1, HQ0.out.2.1⟩
        go_wp2_with fail
        refine hK.out _ _ hS10 (fun hHeld => ?_)
        clear hK K
        refine wpAnyH_ready (rs := [11]) (by kernel_rfl) (by simp) ?_
        refine AllReadyH.cons rfl (fun K hK => ?_) AllReadyH.nil
        rw [if_pos (by rfl)]
        have hS10' : (w10.alloc (.cells #[nun x] 3)).cell? ⟨g6, kk, none⟩ = some (nun x) := (World.cell?_alloc_lt _ _ _ (cell_lt hS10)).trans hS10
        go_simp
        refine hK.out _ _ hS10' (fun hHeld => ?_)
        clear hK K
        have HBW : Hid (Below w.heap.size w (w10.alloc (.cells #[nun x] 3))) := (HBE9.out.trans (HQ10.out.2.mono HBE9.out.size)).alloc (Nat.le_trans HBE9.out.size HQ10.out.2.size) _
        have HKW : Hid (Kp (fun j => blk (.slice (some ⟨g6, 0, none⟩) n c2) j ∨ blk (.slice a m c) j) wr (w10.alloc (.cells #[nun x] 3))) := Kp.trans HK9.out (Kp.of_below (HQ10.out.2.alloc HQ10.out.2.size _))
        have HOA : Hid ((w10.alloc (.cells #[nun x] 3)).ownsRow w9.heap.size 3 1 (.slice aa (m + 1) ca) (m + 1) ((Wt ++ [x]).map nun)) := HQ10.out.1.alloc _
        have hk10 : Kp (fun j => blk (.slice (some ⟨g6, 0, none⟩) n c2) j ∨ blk (.slice a m c) j) wr (w10.alloc (.cells #[nun x] 3)) := HKW.out
        have HOW : Hid ((w10.alloc (.cells #[nun x] 3)).ownsRow w4.heap.size 3 1 (.slice a m c) m (Wt.map nun)) := (KOR.out _ hk10).2.1
        have HCW := Hid.mk' (KOR.out _ hk10).2.2
        have HLE : Hid (w4.heap.size ≤ (w10.alloc (.cells #[nun x] 3)).heap.size) := Nat.le_trans HB.out.size hk10.size
        have HG6 : Hid (g6 < (w10.alloc (.cells #[nun x] 3)).heap.size ∧ some g6 ≠ (Value.slice a m c).ownBlock) := ⟨Nat.lt_of_lt_of_le hg64 HLE.out, fun e => by have := (HOW.out.lt g6 e.symm).1; omega⟩
        have HNA : Hid ((Value.slice aa (m + 1) ca).ownBlock = none ∨ (Value.slice aa (m + 1) ca).ownBlock ≠ (Value.slice a m c).ownBlock) := by
          refine .inr (fun e => ?_)
          cases hq : (Value.slice a m c).ownBlock with
          | none =>
            rw [hq] at e
            have h1 := own_rdN HOA.out
            obtain ⟨a', c', e', _, _, h3⟩ := h1
            obtain ⟨g', rfl, _⟩ := h3 (by simp)
            simp only [Value.slice.injEq] at e'
            obtain ⟨rfl, -, -⟩ := e'
            simp [Value.ownBlock] at e
          | some q =>
            rw [hq] at e
            have h1 := (HOA.out.lt q e).1
            have h2 := (HO.out.lt q hq).2
            have h3 := HK9.out.size
            omega
        have HLW : Hid (∀ r, (Value.slice a m c).ownBlock = some r → w.heap.size ≤ r) := fun r e => Nat.le_trans HW4.out (HOW.out.lt r e).1
        clear hk10
        refine wpAnyH_ready (rs := [12]) (by kernel_rfl) (by simp) ?_
        refine AllReadyH.cons rfl (fun K hK => ?_) AllReadyH.nil
        rw [if_pos (by rfl)]
        simp only [List.getElem_toArray, List.getElem_cons_succ, List.getElem_cons_zero]
        refine wp_append_lies _ _ _ 30 rfl w4.heap.size 3 i0 (.int .i64 0) 1 8 Tryd.underlying30 ji hz0 hz1 hz2 rfl (by decide) (.slice a m c) m (Wt.map nun) rfl HOW.out ⟨w10.heap.size, 0, none⟩ 1 1 [nun x] rfl rfl (cell_one_new _ _ _) (by simp [Value.oneCell']) (by decide) (by unfold maxLen; omega) (by omega) HLE.out _ rfl ?_
        intro g4 c4 w11 hs4 hg4 _ _
        have hS11 : w11.cell? ⟨g6, kk, none⟩ = some (nun x) := (World.cell?_of_block (a := ⟨g6, kk, none⟩) (hg4.block g6 HG6.out.1 (fun e => HG6.out.2 e))).trans HCW.out
        have C13 := Hid.mk' (sameN (.slice aa (m + 1) ca) (.slice (some ⟨g4, 0, none⟩) (m + 1) c4) (Wt ++ [x]) w11 (own_rdN (HOA.out.kept hg4 HNA.out)) (own_rdN (by rw [List.map_append]; exact hs4)))
        have HB11 : Hid (Below w.heap.size w w11) := HBW.out.grown hg4 HBW.out.size (fun r e => HLW.out r e)
        refine hK.out _ _ hS11 (fun hHeld => ?_)
        clear hK K hs4 hg4
        refine wpAnyH_ready (rs := [13]) (by kernel_rfl) (by simp) ?_
        refine AllReadyH.cons rfl (fun K hK => ?_) AllReadyH.nil
        go_simp
        refine C13.out.mono ?_
        rintro e w12 ⟨rfl, hb12⟩
        have hS12 : w12.cell? ⟨g6, kk, none⟩ = some (nun x) := (hb12.cell (p := ⟨g6, kk, none⟩) (cell_lt hS11)).trans hS11
        have HB12 : Hid (Below w.heap.size w w12) := HB11.out.trans (hb12.mono HB11.out.size)
        go_wp2_with fail
        refine hK.out _ _ hS12 (fun hHeld => ?_)
        clear hK K hb12
        refine wpAnyH_take (i := 14) (v := ?_) rfl (by kernel_rfl) (by kernel_rfl) (by kernel_rfl) (fun _ _ _ h => h) (Or.inl ⟨by rfl, ?_⟩) hHeld ?_
        rotate_left
        · (intro w' hS'; go_simp <;> with_reducible rfl)
        simp only [Act.put, List.getElem_toArray, List.getElem_cons_succ, List.getElem_cons_zero, List.setIfInBounds_toArray, List.set]
        refine wpAnyH_take (i := 15) (v := ?_) rfl (by kernel_rfl) (by kernel_rfl) (by kernel_rfl) (fun _ _ _ h => h) (Or.inl ⟨by rfl, ?_⟩) hHeld ?_
        rotate_left
        · (intro w' hS'; go_simp <;> with_reducible rfl)
        simp only [Act.put, List.getElem_toArray, List.getElem_cons_succ, List.getElem_cons_zero, List.setIfInBounds_toArray, List.set]
        refine wpAnyH_done (by kernel_rfl) ?_ _
        go_wp2
        go_ret
        exact ⟨rfl, HB12.out⟩
      · clear hHeld
        rw [if_pos (by rfl)]
        have hS9' : (w9.drew.alloc (.cells #[nun x] 3)).cell? ⟨g6, kk, none⟩ = some (nun x) := (World.cell?_alloc_lt _ _ _ (cell_lt hc9)).trans hc9
        go_simp
        refine hK.out _ _ hS9' (fun hHeld => ?_)
        clear hK K
        refine wpAnyH_ready (rs := [5]) (by kernel_rfl) (by simp) ?_
        refine AllReadyH.cons rfl (fun K hK => ?_) AllReadyH.nil
        go_simp
        refine (CAL.out _ ((Below.refl _ _).drew.alloc (Nat.le_refl _) _)).mono ?_
        rintro e w10 ⟨aa, ca, rfl, hS10, HQ0⟩
        have HQ10 : Hid (w10.ownsRow w9.heap.size 3 1 (.slice aa (m + 1) ca) (m + 1) ((Wt ++ [x]).map nun) ∧ Below w9.heap.size w9 w10) := ⟨HQ0.out.1, HQ0.out.2.1⟩
        go_wp2_with fail
        refine hK.out _ _ hS10 (fun hHeld => ?_)
        clear hK K
        have HBW : Hid (Below w.heap.size w w10) := HBE9.out.trans (HQ10.out.2.mono HBE9.out.size)
        have HKW : Hid (Kp (fun j => blk (.slice (some ⟨g6, 0, none⟩) n c2) j ∨ blk (.slice a m c) j) wr w10) := Kp.trans HK9.out (Kp.of_below HQ10.out.2)
        have HOA : Hid (w10.ownsRow w9.heap.size 3 1 (.slice aa (m + 1) ca) (m + 1) ((Wt ++ [x]).map nun)) := HQ10.out.1
        have hk10 : Kp (fun j => blk (.slice (some ⟨g6, 0, none⟩) n c2) j ∨ blk (.slice a m c) j) wr w10 := HKW.out
        have HOW : Hid (w10.ownsRow w4.heap.size 3 1 (.slice a m c) m (Wt.map nun)) := (KOR.out _ hk10).2.1
        have HCW := Hid.mk' (KOR.out _ hk10).2.2
        have HLE : Hid (w4.heap.size ≤ w10.heap.size) := Nat.le_trans HB.out.size hk10.size
        have HG6 : Hid (g6 < w10.heap.size ∧ some g6 ≠ (Value.slice a m c).ownBlock) := ⟨Nat.lt_of_lt_of_le hg64 HLE.out, fun e => by have := (HOW.out.lt g6 e.symm).1; omega⟩
        have HNA : Hid ((Value.slice aa (m + 1) ca).ownBlock = none ∨ (Value.slice aa (m + 1) ca).ownBlock ≠ (Value.slice a m c).ownBlock) := by
          refine .inr (fun e => ?_)
          cases hq : (Value.slice a m c).ownBlock with
          | none =>
            rw [hq] at e
            have h1 := own_rdN HOA.out
            obtain ⟨a', c', e', _, _, h3⟩ := h1
            obtain ⟨g', rfl, _⟩ := h3 (by simp)
            simp only [Value.slice.injEq] at e'
            obtain ⟨rfl, -, -⟩ := e'
            simp [Value.ownBlock] at e
          | some q =>
            rw [hq] at e
            have h1 := (HOA.out.lt q e).1
            have h2 := (HO.out.lt q hq).2
            have h3 := HK9.out.size
            omega
        have HLW : Hid (∀ r, (Value.slice a m c).ownBlock = some r → w.heap.size ≤ r) := fun r e => Nat.le_trans HW4.out (HOW.out.lt r e).1
        clear hk10
        have HNEWS : Hid (∀ j u, [nun x][j]? = some u → w10.cell? ((⟨w9.heap.size, 0, none⟩ : Addr).add j) = some u) := fun j u hj => by
          cases j with
          | zero => exact ((HQ0.out.2.2).cell (p := ⟨w9.heap.size, 0, none⟩) (by show w9.heap.size < (w9.drew.alloc (.cells #[nun x] 3)).heap.size; simp)).trans (cell_one_new w9.drew _ _ 0 u hj)
          | succ j => simp at hj
        refine wpAnyH_ready (rs := [12]) (by kernel_rfl) (by simp) ?_
        refine AllReadyH.cons rfl (fun K hK => ?_) AllReadyH.nil
        rw [if_pos (by rfl)]
        simp only [List.getElem_toArray, List.getElem_cons_succ, List.getElem_cons_zero]
        refine wp_append_lies w10 _ _ 30 rfl w4.heap.size 3 i0 (.int .i64 0) 1 8 Tryd.underlying30 ji hz0 hz1 hz2 rfl (by decide) (.slice a m c) m (Wt.map nun) rfl HOW.out ⟨w9.heap.size, 0, none⟩ 1 1 [nun x] rfl rfl HNEWS.out (by simp [Value.oneCell']) (by decide) (by unfold maxLen; omega) (by omega) HLE.out _ rfl ?_
        intro g4 c4 w11 hs4 hg4 _ _
        have hS11 : w11.cell? ⟨g6, kk, none⟩ = some (nun x) := (World.cell?_of_block (a := ⟨g6, kk, none⟩) (hg4.block g6 HG6.out.1 (fun e => HG6.out.2 e))).trans HCW.out
        have C13 := Hid.mk' (sameN (.slice aa (m + 1) ca) (.slice (some ⟨g4, 0, none⟩) (m + 1) c4) (Wt ++ [x]) w11 (own_rdN (HOA.out.kept hg4 HNA.out)) (own_rdN (by rw [List.map_append]; exact hs4)))
        have HB11 : Hid (Below w.heap.size w w11) := HBW.out.grown hg4 HBW.out.size (fun r e => HLW.out r e)
        refine hK.out _ _ hS11 (fun hHeld => ?_)
        clear hK K hs4 hg4
        refine wpAnyH_ready (rs := [13]) (by kernel_rfl) (by simp) ?_
        refine AllReadyH.cons rfl (fun K hK => ?_) AllReadyH.nil
        go_simp
        refine C13.out.mono ?_
        rintro e w12 ⟨rfl, hb12⟩
        have hS12 : w12.cell? ⟨g6, kk, none⟩ = some (nun x) := (hb12.cell (p := ⟨g6, kk, none⟩) (cell_lt hS11)).trans hS11
        have HB12 : Hid (Below w.heap.size w w12) := HB11.out.trans (hb12.mono HB11.out.size)
        go_wp2_with fail
        refine hK.out _ _ hS12 (fun hHeld => ?_)
        clear hK K hb12
        refine wpAnyH_take (i := 14) (v := ?_) rfl (by kernel_rfl) (by kernel_rfl) (by kernel_rfl) (fun _ _ _ h => h) (Or.inl ⟨by rfl, ?_⟩) hHeld ?_
        rotate_left
        · (intro w' hS'; go_simp <;> with_reducible rfl)
        simp only [Act.put, List.getElem_toArray, List.getElem_cons_succ, List.getElem_cons_zero, List.setIfInBounds_toArray, List.set]
        refine wpAnyH_take (i := 15) (v := ?_) rfl (by kernel_rfl) (by kernel_rfl) (by kernel_rfl) (fun _ _ _ h => h) (Or.inl ⟨by rfl, ?_⟩) hHeld ?_
        rotate_left
        · (intro w' hS'; go_simp <;> with_reducible rfl)
        simp only [Act.put, List.getElem_toArray, List.getElem_cons_succ, List.getElem_cons_zero, List.setIfInBounds_toArray, List.set]
        refine wpAnyH_done (by kernel_rfl) ?_ _
        go_wp2
        go_ret
        exact ⟨rfl, HB12.out⟩
end Rg
end Go.Proofs.YtckgecmcjnhceaaDoor
