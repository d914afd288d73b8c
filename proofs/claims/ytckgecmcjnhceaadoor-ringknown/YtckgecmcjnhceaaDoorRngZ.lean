/- Two rings, spliced, and taken apart one by one: RingSpliced out of what the program's calls must answer. -/
import Derived.Test.YtckgecmcjnhceaaDoorRngY
namespace Go.Proofs.YtckgecmcjnhceaaDoor
set_option linter.ambiguousOpen false
open Go.RowKit
namespace Rg
open An Ft Lv
set_option linter.unusedSimpArgs false
set_option linter.unusedVariables false

set_option maxRecDepth 100000 in
set_option maxHeartbeats 8000000 in
theorem ringSpliced_yes {Rep : World → Nat → (Nat → Prop) → Arn → Prop} (H : KeepC Rep) (CN : NewC Rep) (CP : PushC Rep) (CD : DropC Rep) (CS : SpliceC Rep) (CA : AllC Rep) (v u : Value) (l m : List Int) (cut : Int) (w : World) (hR : RdI w v l) (hM : RdI w u m) (hl : ∀ x ∈ l, I64 x) (hm : ∀ x ∈ m, I64 x) (hcut : I64 cut) :
    Calls Tryd.prog 42 #[v, u, nu cut] w fun e w' => e = .returned (.bool true) ∧ Below w.heap.size w w' := by
  obtain ⟨i0, ji, hz0, hz1, hz2⟩ := info_parts info_int
  have c1 := Hid.mk' (CN w)
  have HH := Hid.mk' H
  have cR : Hid (∀ wx, Below w.heap.size w wx → _) := fun wx hb => row_any v l wx (by
    obtain ⟨a, cap, e, h1, h2, h3⟩ := hR
    refine ⟨a, cap, e, h1, h2, fun h0 => ?_⟩
    obtain ⟨g, o, rfl, hg, hc⟩ := h3 h0
    exact ⟨g, o, rfl, Nat.lt_of_lt_of_le hg hb.size, fun k i hk => (hb.cell (p := ⟨g, o + k, none⟩) hg).trans (hc k i hk)⟩) hl
  have cL : Hid (∀ wx p A Q v R, Sr Rep w wx p A Q → A.wr ≤ 900000000 → RdO wx v R → (∀ j, blk v j → Q j) → R.Nodup → (∀ i ∈ R, i < 32) → _) := fun wx p A Q v R h1 h2 h3 h3' h4 h5 => laid_any CP w wx p A Q v R h1 h2 h3 h3' h4 h5
  have cW : Hid (∀ wx, _) := fun wx => works_any H CN CP CA wx
  have cA : Hid (∀ wx p A Q R, Sr Rep w wx p A Q → Ring A.sl R → _) := fun wx p A Q R h1 h2 => all_sr H CA w wx p A Q R h1 h2
  have cD : Hid (∀ wx p A Q u v i, Sr Rep w wx p A Q → A.wr ≤ 999999990 → Ring A.sl (u ++ i :: v) → _) := fun wx p A Q u v i h1 h2 h3 => drop_sr CD w wx p A Q u v i h1 h2 h3
  have cS : Hid (∀ wx p A Q l m, Sr Rep w wx p A Q → A.wr ≤ 999999990 → Ring A.sl l → Ring A.sl m → (∀ x ∈ l, x ∉ m) → _) := fun wx p A Q l m h1 h2 h3 h4 h5 => splice_sr CS w wx p A Q l m h1 h2 h3 h4 h5
  obtain ⟨av, cv, rfl, _⟩ := hR
  have HM := Hid.mk' hM
  obtain ⟨am, cm, rfl, hM1, hM2, hM3⟩ := hM
  obtain ⟨N, hN⟩ : ∃ N, m.length = N := ⟨_, rfl⟩
  rw [hN] at hM1 hM3
  rw [hN]
  unfold maxLen at hM2
  have HNN := Hid.mk' hN
  have HM3 := Hid.mk' hM3
  have Hm := Hid.mk' hm
  clear H CN CP CD CS CA hl hN hM3 hm
  go_enter Tryd.func42, Tryd.ntmps42
  go_wp2_with fail
  refine c1.out.mono ?_
  rintro e w1 ⟨p, F, rfl, hr1, hf1, hb1⟩
  have C2 := Hid.mk' (cR.out w1 hb1)
  have H1 : Hid (Rep w1 p F arn0 ∧ (∀ k, F k → w.heap.size ≤ k) ∧ Below w.heap.size w w1) := ⟨hr1, hf1, hb1⟩
  clear hr1 hf1 hb1 c1 cR
  go_wp2_with fail
  refine C2.out.mono ?_
  rintro e w2 ⟨v2, R, rfl, ho2, hnd, hlt, hb2⟩
  have hS2 := begin_any HH.out H1.out.1 H1.out.2.1 H1.out.2.2 ho2 hb2
  have hfew := nodup_few 32 R hnd hlt
  obtain ⟨n, hn⟩ : ∃ n, R.length = n := ⟨_, rfl⟩
  rw [hn] at ho2 hfew
  obtain ⟨a2, c2, rfl, hc1, hc2, _⟩ := Nm.own_shape ho2
  unfold maxLen at hc2
  obtain ⟨kk, hkk, hkn⟩ : ∃ kk : Nat, cut % ((n + 1 : Nat) : Int) = kk ∧ kk ≤ n := ⟨(cut % ((n + 1 : Nat) : Int)).toNat, by have := Int.emod_nonneg cut (b := ((n + 1 : Nat) : Int)) (by omega); omega, by have h1 := Int.emod_nonneg cut (b := ((n + 1 : Nat) : Int)) (by omega); have h2 := Int.emod_lt_of_pos cut (b := ((n + 1 : Nat) : Int)) (by omega); omega⟩
  have cK : Hid (∀ wx, Calls Tryd.prog 7 #[nu cut, .int .i64 ((n : Int) + 1)] wx fun e w' => e = .returned (nun kk) ∧ w' = wx) := fun wx => by
    have := pick_anyW cut (n + 1) wx (by omega) (by omega) hcut
    rw [hkk] at this
    exact this
  have hkI : (kk : Int) ≤ (n : Int) := by omega
  have hnI : (n : Int) ≤ 32 := by omega
  have HO2 := Hid.mk' ho2
  have HS2 := Hid.mk' hS2
  have HN := Hid.mk' hn
  have HND := Hid.mk' hnd
  have HLT := Hid.mk' hlt
  have CL1 := Hid.mk' (cL.out w2 p arn0 _ (.slice a2 kk c2) (R.take kk) hS2 (by decide) (rdO_take ho2 kk hkn) (fun j hj => by cases a2 <;> exact hj) (hnd.sublist (List.take_sublist _ _)) (fun i hi => hlt i (List.mem_of_mem_take hi)))
  have hsl1 := slice_toR a2 n c2 kk (by omega)
  have hsl2 := fun wx => slice_rest ho2 kk hkn wx
  clear ho2 hb2 hS2 C2 hn hnd hlt hkk hcut
  go_wp2_with fail
  refine (cK.out _).mono ?_
  rintro e w9 ⟨rfl, hw9⟩
  subst w9
  clear cK
  go_wp2_with fail
  refine CL1.out.mono ?_
  rintro e w3 ⟨rfl, A1, a1, hring1, _, a4, a5⟩
  have HW1 : Hid (A1.wr ≤ 96) := by have h := a1; show _ ≤ _; simpa [arn0] using h
  have ho3 := own_kp HO2.out a5 (fun _ h => h)
  have HO3 := Hid.mk' ho3
  have HR1 := Hid.mk' hring1
  have hdis : ∀ x ∈ R.take kk, x ∉ R.drop kk := fun x h1 h2 => by
    have h3 := HND.out
    rw [← List.take_append_drop kk R, List.nodup_append] at h3
    exact h3.2.2 x h1 x h2 rfl
  have HDI := Hid.mk' hdis
  have CL2 := Hid.mk' (cL.out w3 p A1 _ _ (R.drop kk) a4 (by have := HW1.out; omega) (rdO_rest ho3 kk hkn).1 (rdO_rest ho3 kk hkn).2 (HND.out.sublist (List.drop_sublist _ _)) (fun i hi => HLT.out i (List.mem_of_mem_drop hi)))
  have hsl2 := fun wx => slice_rest ho3 kk hkn wx
  clear a1 hring1 a4 a5 ho3 hdis CL1 HO2 HS2 hsl1
  go_wp2_with fail
  refine CL2.out.mono ?_
  rintro e w4 ⟨rfl, A2, a1, hring2, hold, a4, a5⟩
  have HW2 : Hid (A2.wr ≤ 192) := by have h := HW1.out; show _ ≤ _; omega
  have HO4 := Hid.mk' (own_kp HO3.out a5 (fun _ h => h))
  have HR2 : Hid (Ring A2.sl (R.take kk) ∧ Ring A2.sl (R.drop kk)) := ⟨hold _ HR1.out HDI.out, hring2⟩
  have HS4 := Hid.mk' a4
  clear a1 hring2 hold a4 a5 CL2 HO3 HR1 HW1 hsl2 cL
  go_wp2_with fail
  refine (cW.out w4).mono ?_
  rintro e w5 ⟨rfl, hb5⟩
  have hS5 := HS4.out.below HH.out hb5
  have HO5 : Hid (w5.ownsRow w1.heap.size 3 1 (.slice a2 n c2) n (R.map nun)) := own_kp HO4.out (Kp.of_below (R := blk (.slice a2 n c2)) hb5) (fun _ h => h)
  have CS1 := cS.out w5 p A2 _ (R.take kk) (R.drop kk) hS5 (by have := HW2.out; omega) HR2.out.1 HR2.out.2 HDI.out
  rw [List.take_append_drop] at CS1
  obtain ⟨z, hz⟩ : ∃ z, lastI R = z := ⟨_, rfl⟩
  rw [hz] at CS1
  have CS1 := Hid.mk' CS1
  have HZ := Hid.mk' hz
  clear hb5 hS5 HS4 HO4 HR2 cW cS HDI hz
  go_wp2_with fail
  refine CS1.out.mono ?_
  rintro e w6 ⟨rfl, A3, b1, b2, b3, b4⟩
  have HW3 : Hid (A3.wr ≤ 196) := by have h := HW2.out; show _ ≤ _; omega
  have HO6 := Hid.mk' (own_kp HO5.out b4 (fun _ h => h))
  have HR3 := Hid.mk' b2
  have HS6 := Hid.mk' b3
  have C5 := cA.out w6 p A3 _ R b3 b2
  rw [HZ.out, HN.out] at C5
  have C5 := Hid.mk' C5
  clear b1 b2 b3 b4 CS1 HO5 HW2
  go_wp2_with fail
  refine C5.out.mono ?_
  rintro e w7 ⟨v7, rfl, ho7, hb7⟩
  have hO7 : w7.ownsRow w1.heap.size 3 1 (.slice a2 n c2) n (R.map nun) := own_kp HO6.out (Kp.of_below (R := blk (.slice a2 n c2)) hb7) (fun _ h => h)
  have C6 := Hid.mk' (sameN v7 (.slice a2 n c2) R w7 (own_rdN ho7) (own_rdN hO7))
  obtain ⟨a7, c7, rfl, _⟩ := Nm.own_shape ho7
  have HS7 := Hid.mk' (HS6.out.below HH.out hb7)
  have HO7 := Hid.mk' hO7
  clear ho7 hb7 hO7 C5 HS6 HO6
  go_wp2_with fail
  refine C6.out.mono ?_
  rintro e w8 ⟨rfl, hb8⟩
  have HS8 := Hid.mk' (HS7.out.below HH.out hb8)
  have HO8 : Hid (w8.ownsRow w1.heap.size 3 1 (.slice a2 n c2) n (R.map nun)) := own_kp HO7.out (Kp.of_below (R := blk (.slice a2 n c2)) hb8) (fun _ h => h)
  have hbb : (z == -1) = ((n : Int) == 0) := by
    have h1 := lastI_none R
    rw [HZ.out] at h1
    rw [Bool.eq_iff_iff]
    simp only [beq_iff_eq]
    rw [h1]
    have h2 := HN.out
    constructor
    · intro e
      rw [e] at h2
      simp at h2
      omega
    · intro e
      exact List.eq_nil_of_length_eq_zero (by omega)
  obtain ⟨bz, hbz⟩ : ∃ bz, ((n : Int) == 0) = bz := ⟨_, rfl⟩
  rw [hbz] at hbb
  have hbn : (bz != bz) = false := by simp
  clear hb8 C6 HS7 HO7
  go_wp2_with fail
  go_loopw [8, 14, 16, 17] (fun sv lv nv iv wr => ∃ (k q : Nat) (z : Int), k ≤ N ∧ q ≤ n ∧ iv = nun k ∧ nv = nun q ∧ lv = nu z ∧ sv = .slice a2 q c2 ∧ Hid (∃ (A : Arn) (Rk : List Nat), Rk.length = q ∧ lastI Rk = z ∧ Ring A.sl Rk ∧ A.wr ≤ 196 + 3 * (n - q) ∧ Sr Rep w wr p A (blk (.slice a2 n c2)) ∧ wr.ownsRow w1.heap.size 3 1 (.slice a2 q c2) q (Rk.map nun))) (fun _ _ _ iv _ => N - (intOf iv).toNat)
  case atStart => exact ⟨0, n, z, Nat.zero_le _, Nat.le_refl _, rfl, rfl, rfl, rfl, A3, R, HN.out, HZ.out, HR3.out, by have := HW3.out; omega, HS8.out, HO8.out⟩
  case round =>
    clear HR3 HS8 HO8 HW3 HZ hbb hbz hbn HN HND HLT
    obtain ⟨k, q, z, hk, hq, rfl, rfl, rfl, rfl, HI⟩ := hrel
    by_cases hlt : k < N
    · have hkI2 : (k : Int) < (N : Int) := by omega
      by_cases hq0 : q = 0
      · subst hq0
        have HB := Hid.mk' HI.out.choose_spec.choose_spec.2.2.2.2.1.bel
        go_wp2
        go_ret
        exact ⟨rfl, HB.out⟩
      · have hqI : (0 : Int) < (q : Int) := by omega
        obtain ⟨A, Rk, hn, hz, hring, hwr, hS, hO⟩ := HI.out
        obtain ⟨y, hy⟩ : ∃ y, m[k]? = some y := ⟨_, List.getElem?_eq_getElem (by rw [HNN.out]; exact hlt)⟩
        have hyI := Hm.out y (List.mem_of_getElem? hy)
        obtain ⟨gm, om, hgm, hgl, hgc⟩ := HM3.out (by omega)
        have hcy : wr.cell? ⟨gm, om + k, none⟩ = some (nu y) := (hS.bel.cell (p := ⟨gm, om + k, none⟩) hgl).trans (hgc k y hy)
        obtain ⟨g6, hg6⟩ : ∃ g6, a2 = some ⟨g6, 0, none⟩ := by
          rcases own_head hO with ⟨_, e, _⟩ | h
          · exact absurd e hq0
          · exact h
        subst hgm hg6
        obtain ⟨kk2, hkk, hkn2⟩ : ∃ kk : Nat, y % (q : Int) = kk ∧ kk < q := ⟨(y % (q : Int)).toNat, by have := Int.emod_nonneg y (b := (q : Int)) (by omega); omega, by have h1 := Int.emod_nonneg y (b := (q : Int)) (by omega); have h2 := Int.emod_lt_of_pos y (b := (q : Int)) (by omega); omega⟩
        have cK : Hid (∀ wx, Calls Tryd.prog 7 #[nu y, nun q] wx fun e w' => e = .returned (nun kk2) ∧ w' = wx) := fun wx => by
          have := pick_anyW y q wx (by omega) (by omega) hyI
          rwa [hkk] at this
        have hkI3 : (kk2 : Int) < (q : Int) := by omega
        obtain ⟨x, hx⟩ : ∃ x, Rk[kk2]? = some x := ⟨_, List.getElem?_eq_getElem (by rw [hn]; exact hkn2)⟩
        have hcx : wr.cell? ⟨g6, kk2, none⟩ = some (nun x) := by
          have h2 := hO.cellAt (g := g6) (cap := c2) kk2 (by omega)
          rw [h2, List.getElem?_map, hx]
          rfl
        have hcut := cut_at Rk kk2 x hx
        have CD1 := cD.out wr p A _ (Rk.take kk2) (Rk.drop (kk2 + 1)) x hS (by omega) (by rw [← hcut.1]; exact hring)
        rw [← hcut.1, ← hcut.2, hz] at CD1
        obtain ⟨z2, hz2'⟩ : ∃ z2, lastI (Rk.eraseIdx kk2) = z2 := ⟨_, rfl⟩
        rw [hz2'] at CD1
        have C4 := Hid.mk' CD1
        have HX : Hid (Rk.length = q ∧ lastI (Rk.eraseIdx kk2) = z2 ∧ (Rk.eraseIdx kk2).length = q - 1) := ⟨hn, hz2', by rw [List.length_eraseIdx_of_lt (by omega), hn]⟩
        have HOr := Hid.mk' hO
        have hsl1 := slice_toR (some ⟨g6, 0, none⟩) q c2 kk2 (by omega)
        have hsl2 : ∀ wx, (Instr.slice 30 (.slice (some ⟨g6, 0, none⟩) q c2) (some (.int .i64 ((kk2 : Int) + 1))) none none).run Tryd.prog wx = .ok (.slice (rest (some ⟨g6, 0, none⟩) c2 (kk2 + 1)) (q - (kk2 + 1)) (c2 - (kk2 + 1))) wx := fun wx => slice_rest hO (kk2 + 1) (by omega) wx
        have HBS := Hid.mk' H1.out.2.2
        have HSZ : Hid (w.heap.size ≤ w1.heap.size) := H1.out.2.2.size
        have HWR : Hid (A.wr ≤ 196 + 3 * (n - q)) := hwr
        clear hn hz hring hwr hS hO hy hyI hgl hgc hkk hx hcut CD1 hz2' HI
        go_wp2_with fail
        refine (cK.out _).mono ?_
        rintro e w9 ⟨rfl, hw9⟩
        subst w9
        clear cK
        go_wp2_with fail
        refine C4.out.mono ?_
        rintro e w10 ⟨rfl, A4, b1, b2, _, _, b5, b6⟩
        have hO10 : w10.drew.ownsRow w1.heap.size 3 1 (.slice (some ⟨g6, 0, none⟩) q c2) q (Rk.map nun) := own_kp (own_kp HOr.out b6 (fun j hj => hj)) (Kp.of_below (R := blk (.slice (some ⟨g6, 0, none⟩) q c2)) (Below.refl _ _).drew) (fun _ h => h)
        obtain ⟨w11, hrun, ho11, hg11⟩ := cut_out hO10 kk2 hkn2 (by omega) (by have h1 := HOr.out.lt g6 rfl; have h2 : wr.heap.size ≤ w10.drew.heap.size := b6.size; omega) 30
        have hS11 := Sr.grown HH.out (n := q) (m := n) (b5.below HH.out (Below.refl _ _).drew) hg11 (fun r e => ⟨Nat.le_trans HSZ.out (hO10.lt r e).1, by simpa [Value.ownBlock, blk, eq_comm] using e⟩)
        have HS11 := Hid.mk' hS11
        have HO11 := Hid.mk' ho11
        have HR4 := Hid.mk' b2
        have HW4 : Hid (A4.wr ≤ 196 + 3 * (n - (q - 1))) := by have h := HWR.out; show _ ≤ _; omega
        have C5 := cA.out w11 p A4 _ (Rk.eraseIdx kk2) hS11 b2
        rw [HX.out.2.1, HX.out.2.2] at C5
        have C5 := Hid.mk' C5
        have hq1 : ((q : Int) - 1) = ((q - 1 : Nat) : Int) := by omega
        clear b1 b2 b5 b6 hO10 ho11 hg11 hS11 C4 HWR
        go_wp2_with fail
        refine wp_region_held_drew (S := fun _ => True) (by kernel_rfl) trivial (fun hHeld => ?_)
        have hwrp : IntKind.i64.wrap ((kk2 : Int) + 1) = (kk2 : Int) + 1 := by rw [IntKind.wrap_i64]; omega
        refine wpAnyH_take (i := 0) (v := ?_) rfl (by kernel_rfl) (by kernel_rfl) (by kernel_rfl) (fun _ _ _ h => h) (Or.inl ⟨by rfl, ?_⟩) hHeld ?_
        rotate_left
        · (intro w' hS'; go_simp <;> with_reducible rfl)
        simp only [Act.put, List.getElem_toArray, List.getElem_cons_succ, List.getElem_cons_zero, List.setIfInBounds_toArray, List.set]
        refine wpAnyH_take (i := 1) (v := ?_) rfl (by kernel_rfl) (by kernel_rfl) (by kernel_rfl) (fun _ _ _ h => h) (Or.inl ⟨by rfl, ?_⟩) hHeld ?_
        rotate_left
        · (intro w' hS'; go_simp <;> with_reducible rfl)
        simp only [Act.put, List.getElem_toArray, List.getElem_cons_succ, List.getElem_cons_zero, List.setIfInBounds_toArray, List.set]
        refine wpAnyH_take (i := 3) (v := ?_) rfl (by kernel_rfl) (by kernel_rfl) (by kernel_rfl) (fun _ _ _ h => h) (Or.inl ⟨by rfl, ?_⟩) hHeld ?_
        rotate_left
        · (intro w' hS'; go_simp <;> with_reducible rfl)
        simp only [Act.put, List.getElem_toArray, List.getElem_cons_succ, List.getElem_cons_zero, List.setIfInBounds_toArray, List.set]
        refine wpAnyH_take (i := 4) (v := ?_) rfl (by kernel_rfl) (by kernel_rfl) (by kernel_rfl) (fun _ _ _ h => h) (Or.inl ⟨by rfl, ?_⟩) hHeld ?_
        rotate_left
        · (intro w' hS'; go_simp <;> with_reducible rfl)
        simp only [Act.put, List.getElem_toArray, List.getElem_cons_succ, List.getElem_cons_zero, List.setIfInBounds_toArray, List.set]
        refine wpAnyH_take (i := 5) (v := .int .i64 ((kk2 : Int) + 1)) rfl (by kernel_rfl) (by kernel_rfl) (by kernel_rfl) (fun _ _ _ h => h) (Or.inl ⟨by rfl, ?_⟩) hHeld ?_
        · (intro w' hS'; go_simp)
        simp only [Act.put, List.getElem_toArray, List.getElem_cons_succ, List.getElem_cons_zero, List.setIfInBounds_toArray, List.set]
        refine wpAnyH_take (i := 2) (v := ?_) rfl (by kernel_rfl) (by kernel_rfl) (by kernel_rfl) (fun _ _ _ h => h) (Or.inl ⟨by rfl, ?_⟩) hHeld ?_
        rotate_left
        · (intro w' hS'; go_simp <;> with_reducible rfl)
        simp only [Act.put, List.getElem_toArray, List.getElem_cons_succ, List.getElem_cons_zero, List.setIfInBounds_toArray, List.set]
        refine wpAnyH_take (i := 6) (v := .slice (rest (some ⟨g6, 0, none⟩) c2 (kk2 + 1)) (q - (kk2 + 1)) (c2 - (kk2 + 1))) rfl (by kernel_rfl) (by kernel_rfl) (by kernel_rfl) (fun _ _ _ h => h) (Or.inl ⟨by rfl, ?_⟩) hHeld ?_
        · (intro w' hS'; go_simp)
        simp only [Act.put, List.getElem_toArray, List.getElem_cons_succ, List.getElem_cons_zero, List.setIfInBounds_toArray, List.set]
        refine wpAnyH_ready (rs := [7]) (by kernel_rfl) (by simp) ?_
        refine AllReadyH.cons rfl (fun K hK => ?_) AllReadyH.nil
        rw [if_pos (by rfl)]
        simp only [List.getElem_toArray, List.getElem_cons_succ, List.getElem_cons_zero]
        refine wp_append_run (v := .slice (some ⟨g6, 0, none⟩) kk2 c2) (u := .slice (rest (some ⟨g6, 0, none⟩) c2 (kk2 + 1)) (q - (kk2 + 1)) (c2 - (kk2 + 1))) (.tmp 113) (.tmp 117) rfl rfl rfl hrun ?_
        refine hK.out _ _ trivial (fun hHeld => ?_)
        clear hK K
        refine wpAnyH_take (i := 8) (v := ?_) rfl (by kernel_rfl) (by kernel_rfl) (by kernel_rfl) (fun _ _ _ h => h) (Or.inl ⟨by rfl, ?_⟩) hHeld ?_
        rotate_left
        · (intro w' hS'; go_simp <;> with_reducible rfl)
        simp only [Act.put, List.getElem_toArray, List.getElem_cons_succ, List.getElem_cons_zero, List.setIfInBounds_toArray, List.set]
        refine wpAnyH_done (by kernel_rfl) ?_ _
        go_wp2_with fail
        refine C5.out.mono ?_
        rintro e w12 ⟨v12, rfl, ho12, hb12⟩
        have hO12 : w12.ownsRow w1.heap.size 3 1 (.slice (some ⟨g6, 0, none⟩) (q - 1) c2) (q - 1) ((Rk.eraseIdx kk2).map nun) := own_kp HO11.out (Kp.of_below (R := blk (.slice (some ⟨g6, 0, none⟩) (q - 1) c2)) hb12) (fun _ h => h)
        have C6 := Hid.mk' (sameN v12 (.slice (some ⟨g6, 0, none⟩) (q - 1) c2) (Rk.eraseIdx kk2) w12 (own_rdN ho12) (own_rdN hO12))
        obtain ⟨a12, c12, rfl, _⟩ := Nm.own_shape ho12
        have HS12 := Hid.mk' (HS11.out.below HH.out hb12)
        have HO12 := Hid.mk' hO12
        clear ho12 hb12 hO12 C5 HS11 HO11
        go_wp2_with fail
        refine C6.out.mono ?_
        rintro e w13 ⟨rfl, hb13⟩
        have HS13 := Hid.mk' (HS12.out.below HH.out hb13)
        have HO13 : Hid (w13.ownsRow w1.heap.size 3 1 (.slice (some ⟨g6, 0, none⟩) (q - 1) c2) (q - 1) ((Rk.eraseIdx kk2).map nun)) := own_kp HO12.out (Kp.of_below (R := blk (.slice (some ⟨g6, 0, none⟩) (q - 1) c2)) hb13) (fun _ h => h)
        clear hb13 C6 HS12 HO12
        go_wp2
        go_roundw
        case rel => exact ⟨k + 1, q - 1, z2, by omega, by omega, by go_num, by go_num, rfl, rfl, A4, Rk.eraseIdx kk2, HX.out.2.2, HX.out.2.1, HR4.out, HW4.out, HS13.out, HO13.out⟩
        case measure => simp [intOf]; omega
    · have hkI2 : ¬ (k : Int) < (N : Int) := by omega
      have HB := Hid.mk' HI.out.choose_spec.choose_spec.2.2.2.2.1.bel
      go_wp2
      go_ret
      exact ⟨rfl, HB.out⟩
end Rg
end Go.Proofs.YtckgecmcjnhceaaDoor
