import Derived.Test.YthabnombfbehkaaDoorTreO
import Derived.Test.YthabnombfbehkaaDoorTrM
/- The program's trees: Cut. -/
namespace Go.Proofs.YthabnombfbehkaaDoor
set_option linter.ambiguousOpen false
open Go.RowKit
namespace Tr
open An Rg Ft Lv
set_option linter.unusedSimpArgs false
set_option linter.unusedVariables false

theorem cut_used (S : List Slt) (l i us ub : Int) (h : usedE S i ≠ 0) : cutU S l i us ub = ⟨usedE S i, -1, S, l⟩ := if_pos h

theorem cut_gone (S : List Slt) (l i us ub : Int) (h : usedE S i = 0) (h0 : ub ≠ 0) (hp : ¬ isUp S us ub) : cutU S l i us ub = ⟨10, -1, S, l⟩ := by
  unfold cutU
  rw [if_neg (by omega), if_pos ⟨h0, hp⟩]

theorem cut_ring (S : List Slt) (l i us ub : Int) (h : usedE S i = 0) (hp : ub ≠ 0 → isUp S us ub) : cutU S l i us ub = if (drop S (ringOf S l us ub) i).no ≠ 0 then ⟨(drop S (ringOf S l us ub) i).no, (drop S (ringOf S l us ub) i).pl, S, l⟩ else if ub = 0 then ⟨0, -1, (drop S (ringOf S l us ub) i).sl, (drop S (ringOf S l us ub) i).ans⟩ else ⟨0, -1, setK (drop S (ringOf S l us ub) i).sl us (drop S (ringOf S l us ub) i).ans, l⟩ := by
  unfold cutU
  rw [if_neg (by omega), if_neg (fun q => q.2 (hp q.1))]
  split
  · rfl
  · by_cases h0 : ub = 0
    · rw [if_pos h0, if_pos h0]
      unfold ringOf
      rw [if_pos h0]
    · rw [if_neg h0, if_neg h0]
      unfold ringOf
      rw [if_neg h0]

section
variable {Rep : World → Nat → (Nat → Prop) → Arn → Prop}

theorem isRoot_a (C : ArC Rep) {w0 w : World} {p q lb : Nat} {F0 : Nat → Prop} {A : Arn} {l us ub : Int} (h : Am Rep w0 w p q F0 A l lb us ub) :
    Calls Tryd.prog 24 #[lkU us ub] w fun e w' => e = .returned (.bool (ub == 0)) ∧ Am Rep w0 w' p q F0 A l lb us ub := by
  refine (isRoot_p us ub w).mono ?_
  rintro e w' ⟨rfl, hb⟩
  exact ⟨rfl, h.below C.keep hb⟩

theorem isThere_a (C : ArC Rep) {w0 w : World} {p q lb : Nat} {F0 : Nat → Prop} {A : Arn} {l us ub : Int} (hg : An.Good A) (h : Am Rep w0 w p q F0 A l lb us ub) :
    Calls Tryd.prog 25 #[ptr q, lkU us ub] w fun e w' => e = .returned (.bool (decide (isUp A.sl us ub))) ∧ Am Rep w0 w' p q F0 A l lb us ub := by
  obtain ⟨F, h1, _⟩ := id h
  refine (isThere_p C w p q F A l us ub h1 hg).mono ?_
  rintro e w' ⟨rfl, hb⟩
  exact ⟨rfl, h.below C.keep hb⟩

set_option maxRecDepth 100000 in
set_option maxHeartbeats 4000000 in
theorem cut_p (C : ArC Rep) (w : World) (p q : Nat) (F : Nat → Prop) (A : Arn) (l i : Int) (h : RepT Rep w p q F A l) (hg : An.Good A) (hwr : A.wr ≤ 999999980) :
    Calls Tryd.prog 6 #[ptr q, nu i] w fun e w' => e = .returned (errP (cutT A.sl l i).no (cutT A.sl l i).pl) ∧ ∃ n, n ≤ 8 ∧ ((cutT A.sl l i).no ≠ 0 → n = 0) ∧ LeftT (RepT Rep) w w' p q F ⟨(cutT A.sl l i).sl, A.fr, A.wr + n⟩ (cutT A.sl l i).last := by
  have cU := Hid.mk' (checkUsed_p C w p q F A l i h hg)
  have HL0' : Hid (∀ wx, Below w.heap.size w wx → LeftT (RepT Rep) w wx p q F ⟨A.sl, A.fr, A.wr + 0⟩ l) := fun wx hx => leftT_self C.keep h hx
  unfold cutT
  obtain ⟨R, hR⟩ : ∃ R, cutU A.sl l i (at' A.sl i).s.us (at' A.sl i).s.ub = R := ⟨_, rfl⟩
  rw [hR]
  by_cases hu : usedE A.sl i = 0
  · rw [hu] at cU
    have e0 : errE 0 = .nilIface := rfl
    rw [e0] at cU
    have hti := used_there hu
    have cs : Hid (∀ wx, Below w.heap.size w wx → Calls Tryd.prog 23 #[ptr q, nu i] wx fun e w' => e = .returned (.tuple #[(at' A.sl i).v, .bool true]) ∧ Below w.heap.size w w') := fun wx hb => by
      have := slot_h C w p q F A l i h hg wx hb
      rw [decide_eq_true hti, at_there hti] at this
      exact this
    obtain ⟨x, hx⟩ : ∃ x, at' A.sl i = x := ⟨_, rfl⟩
    rw [hx] at cs hR
    have HAM : Hid (∀ wx, Below w.heap.size w wx → Am Rep w (wx.alloc (.cells #[nu x.s.us, nu x.s.ub] 48)) p q F A l wx.heap.size x.s.us x.s.ub) := fun wx hb => by
      have hb2 : Below w.heap.size w (wx.alloc (.cells #[nu x.s.us, nu x.s.ub] 48)) := hb.alloc hb.size _
      exact ⟨F, h.below C.keep hb2, Keep.of_below hb2, Goes.refl _ _, lnl_new _ _ _, fun e => by have := h.lt C.keep _ e; have := hb.size; omega, hb.size⟩
    obtain ⟨us, hus⟩ : ∃ us, x.s.us = us := ⟨_, rfl⟩
    obtain ⟨ub, hub⟩ : ∃ ub, x.s.ub = ub := ⟨_, rfl⟩
    rw [hus, hub] at HAM hR
    have cRt : Hid (∀ wx lb, Am Rep w wx p q F A l lb us ub → Calls Tryd.prog 24 #[lkU us ub] wx fun e w' => e = .returned (.bool (ub == 0)) ∧ Am Rep w w' p q F A l lb us ub) := fun wx lb hx => isRoot_a C hx
    by_cases h0 : ub = 0
    · have hb0 : (ub == 0) = true := by simpa using h0
      simp only [hb0] at cRt
      have hRR := cut_ring A.sl l i us ub hu (fun q => absurd h0 q)
      rw [hR, if_pos h0] at hRR
      obtain ⟨rr, hrr⟩ : ∃ rr, ringOf A.sl l us ub = rr := ⟨_, rfl⟩
      obtain ⟨P, hP⟩ : ∃ P, drop A.sl rr i = P := ⟨_, rfl⟩
      rw [hrr, hP] at hRR
      have cR : Hid (∀ wx lb, Am Rep w wx p q F A l lb us ub → Calls Tryd.prog 27 #[ptr q, lkU us ub] wx fun e w' => e = .returned (nu rr) ∧ (w'.cell? ⟨q, 0, none⟩ = some (ptr p) ∧ w'.cell? ⟨lb, 0, none⟩ = some (nu us) ∧ w'.cell? ⟨lb, 1, none⟩ = some (nu ub)) ∧ Hid (Am Rep w w' p q F A l lb us ub)) := fun wx lb hx => by
        have := lastBelow_a C hg (fun z => absurd h0 z) hx
        rw [hrr] at this
        exact this
      obtain ⟨ev, hev⟩ : ∃ ev, errP P.no P.pl = ev := ⟨_, rfl⟩
      have cP : Hid (∀ wx lb, Hid (Am Rep w wx p q F A l lb us ub) → Calls Tryd.prog 26 #[ptr p, nu rr, nu i] wx fun e w' => e = .returned (.tuple #[nu P.ans, ev]) ∧ (w'.cell? ⟨q, 0, none⟩ = some (ptr p) ∧ w'.cell? ⟨lb, 0, none⟩ = some (nu us) ∧ w'.cell? ⟨lb, 1, none⟩ = some (nu ub)) ∧ Hid (∃ n, n ≤ 3 ∧ (P.no ≠ 0 → n = 0) ∧ Am Rep w w' p q F ⟨P.sl, A.fr, A.wr + n⟩ l lb us ub)) := fun wx lb hx => by
        have := drop_a C hg (by omega) rr i hx.out
        rw [hP, hev] at this
        exact this
      have hlP : P.sl.length = A.sl.length := by rw [← hP]; exact drop_len _ _ _
      have HPL : Hid (P.no = 0 → P.pl = -1) := fun z => by rw [← hP] at z ⊢; exact drop_pl _ _ _ z
      have HPS : Hid (P.no ≠ 0 → P.sl = A.sl) := fun z => by rw [← hP] at z ⊢; exact drop_sl _ _ _ z
      have HEV := Hid.mk' hev
      have HRR := Hid.mk' hRR
      have HKC := Hid.mk' C.keep
      have cS : Hid (∀ wx lb (A2 : Arn), A2.sl.length = A.sl.length → A2.wr ≤ 999999989 → Am Rep w wx p q F ⟨A2.sl, A.fr, A2.wr⟩ l lb us ub → Calls Tryd.prog 28 #[ptr q, lkU us ub, nu P.ans] wx fun e w' => (∃ u, e = .returned u) ∧ LeftT (RepT Rep) w w' p q F ⟨A2.sl, A.fr, A2.wr⟩ P.ans) := fun wx lb A2 h1 h2 hx => by
        have := setLast_a C (good_sl hg h1) (by show A2.wr ≤ _; omega) P.ans (fun z => absurd h0 z) hx
        rw [if_pos h0, if_pos h0] at this
        exact this
      clear hP hrr hev hRR hg C
      clear h hu e0 hR hx hti h0
      go_enter Tryd.func6, Tryd.ntmps6
      go_wp2_with fail
      refine cU.out.mono ?_
      rintro e w0 ⟨rfl, hb0'⟩
      have HB0 := Hid.mk' hb0'
      clear hb0' cU
      go_wp2_with fail
      refine (cs.out _ HB0.out).mono ?_
      rintro e w1 ⟨rfl, hb1⟩
      have HB1 := Hid.mk' hb1
      have HZ := Hid.mk' (lone_zero w1)
      have HBZ : Hid (Below w.heap.size w (w1.alloc (.cells sltZ 54))) := HB1.out.alloc HB1.out.size _
      clear hb1 cs
      go_upto_region 6 with (first | (refine wpList_store_lone rfl _ _ rfl w1.heap.size rfl x rfl slt0 HZ.out ?_; intro w2 hl2 hg2 hs2; have HB2 : Hid (Below w.heap.size w w2) := (HBZ.out.grown hg2 HBZ.out.size (fun r e => by cases e; exact HB1.out.size)); have hc7 := hl2.cells.2.2.2.2.2.2.2.1; have hc8 := hl2.cells.2.2.2.2.2.2.2.2.1; rw [hus] at hc7; rw [hub] at hc8; clear hl2 hg2 hs2) | fail)
      have HA3 := Hid.mk' (HAM.out w2 HB2.out)
      clear HAM HB2 HZ HBZ HB1 HB0 hc7 hc8
      obtain ⟨lb, hlb⟩ : ∃ lb, w2.heap.size = lb := ⟨_, rfl⟩
      rw [hlb] at HA3
      simp only [hlb]
      clear hlb
      generalize w2.alloc (.cells #[nu us, nu ub] 48) = w3 at *
      obtain ⟨_, y0, y1⟩ := HA3.out.read
      go_upto_region 8 with (first | (go_at_call 24; refine (cRt.out _ _ HA3.out).mono ?_; rintro e w4 ⟨rfl, ha4⟩; have HA4 := Hid.mk' ha4; clear ha4) | fail)
      clear cRt HA3 y0 y1
      have HTD : Hid (Am Rep w w4.drew p q F A l lb us ub) := HA4.out.drew HKC.out
      have HSD : Hid (w4.drew.cell? ⟨q, 0, none⟩ = some (ptr p) ∧ w4.drew.cell? ⟨lb, 0, none⟩ = some (nu us) ∧ w4.drew.cell? ⟨lb, 1, none⟩ = some (nu ub)) := HTD.out.read
      obtain ⟨z0, z1, z2⟩ := HA4.out.read
      go_region_held3 (fun w' => w'.cell? ⟨q, 0, none⟩ = some (ptr p) ∧ w'.cell? ⟨lb, 0, none⟩ = some (nu us) ∧ w'.cell? ⟨lb, 1, none⟩ = some (nu ub)) (first | assumption | exact HSD.out | exact hs5 | exact hs6 | fail) (first | (go_at_call 27; with_reducible refine (cR.out _ _ HTD.out).mono ?_; rintro e w5 ⟨rfl, hs5, hQ5⟩) | (go_at_call 26; with_reducible refine (cP.out _ _ hQ5).mono ?_; rintro e w6 ⟨rfl, hs6, hQ6⟩) | fail)
      clear cR cP HTD HSD hQ5 hs5 z0 z1 z2 HA4
      obtain ⟨n, hn3, hn0, ha6⟩ := hQ6.out
      clear hQ6
      by_cases hno : P.no = 0
      · obtain rfl : ev = .nilIface := by rw [← HEV.out, hno, HPL.out hno]; rfl
        have HR2 : Hid (R = _) := HRR.out.trans (if_neg (fun z => z hno))
        clear HRR HEV HPL HPS hno hn0
        have HA6 := Hid.mk' ha6
        clear ha6
        obtain ⟨y0, y1, y2⟩ := hs6
        have c8 := Hid.mk' (cS.out w6 _ ⟨P.sl, A.fr, A.wr + n⟩ hlP (by show A.wr + n ≤ _; omega) HA6.out)
        clear cS HA6
        go_wp2_with fail
        refine c8.out.mono ?_
        rintro e w8 ⟨⟨u8, rfl⟩, hl8⟩
        have HL8 := Hid.mk' hl8
        clear hl8 c8
        go_wp2
        go_ret
        rw [HR2.out]
        exact ⟨rfl, n, by omega, fun z => absurd rfl z, HL8.out⟩
      · obtain ⟨t, v, hev⟩ := errP_no P.no P.pl hno
        have HR2 : Hid (R = _) := HRR.out.trans (if_pos hno)
        have HE2 : Hid (ev = errP P.no P.pl) := HEV.out.symm
        obtain rfl : ev = .iface t v := by rw [← HEV.out, hev]
        have hz := hn0 hno
        subst hz
        have HL6 : Hid (LeftT (RepT Rep) w w6 p q F ⟨A.sl, A.fr, A.wr + 0⟩ l) := by have := ha6.left; rw [HPS.out hno] at this; exact this
        clear HRR HEV HPL HPS hno hn0 ha6 hev hs6
        go_wp2
        go_ret
        rw [HR2.out]
        exact ⟨by rw [← HE2.out]; rfl, 0, by omega, fun _ => rfl, HL6.out⟩
    · have hb0 : (ub == 0) = false := by simpa using h0
      simp only [hb0] at cRt
      have cT : Hid (∀ wx lb, Am Rep w wx p q F A l lb us ub → Calls Tryd.prog 25 #[ptr q, lkU us ub] wx fun e w' => e = .returned (.bool (decide (isUp A.sl us ub))) ∧ Am Rep w w' p q F A l lb us ub) := fun wx lb hx => isThere_a C hg hx
      by_cases hp : isUp A.sl us ub
      · simp only [decide_eq_true hp] at cT
        have hRR := cut_ring A.sl l i us ub hu (fun _ => hp)
        rw [hR, if_neg h0] at hRR
        obtain ⟨rr, hrr⟩ : ∃ rr, ringOf A.sl l us ub = rr := ⟨_, rfl⟩
        obtain ⟨P, hP⟩ : ∃ P, drop A.sl rr i = P := ⟨_, rfl⟩
        rw [hrr, hP] at hRR
        have cR : Hid (∀ wx lb, Am Rep w wx p q F A l lb us ub → Calls Tryd.prog 27 #[ptr q, lkU us ub] wx fun e w' => e = .returned (nu rr) ∧ (w'.cell? ⟨q, 0, none⟩ = some (ptr p) ∧ w'.cell? ⟨lb, 0, none⟩ = some (nu us) ∧ w'.cell? ⟨lb, 1, none⟩ = some (nu ub)) ∧ Hid (Am Rep w w' p q F A l lb us ub)) := fun wx lb hx => by
          have := lastBelow_a C hg (fun _ => hp.1) hx
          rw [hrr] at this
          exact this
        obtain ⟨ev, hev⟩ : ∃ ev, errP P.no P.pl = ev := ⟨_, rfl⟩
        have cP : Hid (∀ wx lb, Hid (Am Rep w wx p q F A l lb us ub) → Calls Tryd.prog 26 #[ptr p, nu rr, nu i] wx fun e w' => e = .returned (.tuple #[nu P.ans, ev]) ∧ (w'.cell? ⟨q, 0, none⟩ = some (ptr p) ∧ w'.cell? ⟨lb, 0, none⟩ = some (nu us) ∧ w'.cell? ⟨lb, 1, none⟩ = some (nu ub)) ∧ Hid (∃ n, n ≤ 3 ∧ (P.no ≠ 0 → n = 0) ∧ Am Rep w w' p q F ⟨P.sl, A.fr, A.wr + n⟩ l lb us ub)) := fun wx lb hx => by
          have := drop_a C hg (by omega) rr i hx.out
          rw [hP, hev] at this
          exact this
        have hlP : P.sl.length = A.sl.length := by rw [← hP]; exact drop_len _ _ _
        have HPL : Hid (P.no = 0 → P.pl = -1) := fun z => by rw [← hP] at z ⊢; exact drop_pl _ _ _ z
        have HPS : Hid (P.no ≠ 0 → P.sl = A.sl) := fun z => by rw [← hP] at z ⊢; exact drop_sl _ _ _ z
        have HEV := Hid.mk' hev
        have HRR := Hid.mk' hRR
        have HKC := Hid.mk' C.keep
        have cS : Hid (∀ wx lb (A2 : Arn), A2.sl.length = A.sl.length → A2.wr ≤ 999999989 → Am Rep w wx p q F ⟨A2.sl, A.fr, A2.wr⟩ l lb us ub → Calls Tryd.prog 28 #[ptr q, lkU us ub, nu P.ans] wx fun e w' => (∃ u, e = .returned u) ∧ LeftT (RepT Rep) w w' p q F ⟨setK A2.sl us P.ans, A.fr, A2.wr + 1⟩ l) := fun wx lb A2 h1 h2 hx => by
          have := setLast_a C (good_sl hg h1) (by show A2.wr ≤ _; omega) P.ans (fun _ => hp.1) hx
          rw [if_neg h0, if_neg h0] at this
          exact this
        clear hP hrr hev hRR hg C
        clear h hu e0 hR hx hti h0 hp
        go_enter Tryd.func6, Tryd.ntmps6
        go_wp2_with fail
        refine cU.out.mono ?_
        rintro e w0 ⟨rfl, hb0'⟩
        have HB0 := Hid.mk' hb0'
        clear hb0' cU
        go_wp2_with fail
        refine (cs.out _ HB0.out).mono ?_
        rintro e w1 ⟨rfl, hb1⟩
        have HB1 := Hid.mk' hb1
        have HZ := Hid.mk' (lone_zero w1)
        have HBZ : Hid (Below w.heap.size w (w1.alloc (.cells sltZ 54))) := HB1.out.alloc HB1.out.size _
        clear hb1 cs
        go_upto_region 6 with (first | (refine wpList_store_lone rfl _ _ rfl w1.heap.size rfl x rfl slt0 HZ.out ?_; intro w2 hl2 hg2 hs2; have HB2 : Hid (Below w.heap.size w w2) := (HBZ.out.grown hg2 HBZ.out.size (fun r e => by cases e; exact HB1.out.size)); have hc7 := hl2.cells.2.2.2.2.2.2.2.1; have hc8 := hl2.cells.2.2.2.2.2.2.2.2.1; rw [hus] at hc7; rw [hub] at hc8; clear hl2 hg2 hs2) | fail)
        have HA3 := Hid.mk' (HAM.out w2 HB2.out)
        clear HAM HB2 HZ HBZ HB1 HB0 hc7 hc8
        obtain ⟨lb, hlb⟩ : ∃ lb, w2.heap.size = lb := ⟨_, rfl⟩
        rw [hlb] at HA3
        simp only [hlb]
        clear hlb
        generalize w2.alloc (.cells #[nu us, nu ub] 48) = w3 at *
        obtain ⟨_, y0, y1⟩ := HA3.out.read
        go_upto_region 8 with (first | (go_at_call 24; refine (cRt.out _ _ HA3.out).mono ?_; rintro e w9 ⟨rfl, ha9⟩; have HA9 := Hid.mk' ha9; obtain ⟨_, y3, y4⟩ := ha9.read; clear ha9) | (go_at_call 25; refine (cT.out _ _ HA9.out).mono ?_; rintro e w4 ⟨rfl, ha4⟩; have HA4 := Hid.mk' ha4; clear ha4) | fail)
        clear cRt cT HA3 y0 y1 y3 y4 HA9
        have HTD : Hid (Am Rep w w4.drew p q F A l lb us ub) := HA4.out.drew HKC.out
        have HSD : Hid (w4.drew.cell? ⟨q, 0, none⟩ = some (ptr p) ∧ w4.drew.cell? ⟨lb, 0, none⟩ = some (nu us) ∧ w4.drew.cell? ⟨lb, 1, none⟩ = some (nu ub)) := HTD.out.read
        obtain ⟨z0, z1, z2⟩ := HA4.out.read
        go_region_held3 (fun w' => w'.cell? ⟨q, 0, none⟩ = some (ptr p) ∧ w'.cell? ⟨lb, 0, none⟩ = some (nu us) ∧ w'.cell? ⟨lb, 1, none⟩ = some (nu ub)) (first | assumption | exact HSD.out | exact hs5 | exact hs6 | fail) (first | (go_at_call 27; with_reducible refine (cR.out _ _ HTD.out).mono ?_; rintro e w5 ⟨rfl, hs5, hQ5⟩) | (go_at_call 26; with_reducible refine (cP.out _ _ hQ5).mono ?_; rintro e w6 ⟨rfl, hs6, hQ6⟩) | fail)
        clear cR cP HTD HSD hQ5 hs5 z0 z1 z2 HA4
        obtain ⟨n, hn3, hn0, ha6⟩ := hQ6.out
        clear hQ6
        by_cases hno : P.no = 0
        · obtain rfl : ev = .nilIface := by rw [← HEV.out, hno, HPL.out hno]; rfl
          have HR2 : Hid (R = _) := HRR.out.trans (if_neg (fun z => z hno))
          clear HRR HEV HPL HPS hno hn0
          have HA6 := Hid.mk' ha6
          clear ha6
          obtain ⟨y0, y1, y2⟩ := hs6
          have c8 := Hid.mk' (cS.out w6 _ ⟨P.sl, A.fr, A.wr + n⟩ hlP (by show A.wr + n ≤ _; omega) HA6.out)
          clear cS HA6
          go_wp2_with fail
          refine c8.out.mono ?_
          rintro e w8 ⟨⟨u8, rfl⟩, hl8⟩
          have HL8 := Hid.mk' hl8
          clear hl8 c8
          go_wp2
          go_ret
          rw [HR2.out]
          exact ⟨rfl, n + 1, by omega, fun z => absurd rfl z, HL8.out⟩
        · obtain ⟨t, v, hev⟩ := errP_no P.no P.pl hno
          have HR2 : Hid (R = _) := HRR.out.trans (if_pos hno)
          have HE2 : Hid (ev = errP P.no P.pl) := HEV.out.symm
          obtain rfl : ev = .iface t v := by rw [← HEV.out, hev]
          have hz := hn0 hno
          subst hz
          have HL6 : Hid (LeftT (RepT Rep) w w6 p q F ⟨A.sl, A.fr, A.wr + 0⟩ l) := by have := ha6.left; rw [HPS.out hno] at this; exact this
          clear HRR HEV HPL HPS hno hn0 ha6 hev hs6
          go_wp2
          go_ret
          rw [HR2.out]
          exact ⟨by rw [← HE2.out]; rfl, 0, by omega, fun _ => rfl, HL6.out⟩
      · simp only [decide_eq_false hp] at cT
        have hRR := cut_gone A.sl l i us ub hu h0 hp
        rw [hR] at hRR
        subst hRR
        dsimp only
        have hpe : errP 10 (-1) = .iface 60 (.int .i64 10) := rfl
        rw [hpe]
        have HEN : Hid (∀ wx lb, Am Rep w wx p q F A l lb us ub → LeftT (RepT Rep) w wx p q F ⟨A.sl, A.fr, A.wr + 0⟩ l) := fun wx lb hx => hx.left
        clear h hu e0 hR hx hti h0 hp hpe
        go_enter Tryd.func6, Tryd.ntmps6
        go_wp2_with fail
        refine cU.out.mono ?_
        rintro e w0 ⟨rfl, hb0'⟩
        have HB0 := Hid.mk' hb0'
        clear hb0' cU
        go_wp2_with fail
        refine (cs.out _ HB0.out).mono ?_
        rintro e w1 ⟨rfl, hb1⟩
        have HB1 := Hid.mk' hb1
        have HZ := Hid.mk' (lone_zero w1)
        have HBZ : Hid (Below w.heap.size w (w1.alloc (.cells sltZ 54))) := HB1.out.alloc HB1.out.size _
        clear hb1 cs
        go_upto_region 6 with (first | (refine wpList_store_lone rfl _ _ rfl w1.heap.size rfl x rfl slt0 HZ.out ?_; intro w2 hl2 hg2 hs2; have HB2 : Hid (Below w.heap.size w w2) := (HBZ.out.grown hg2 HBZ.out.size (fun r e => by cases e; exact HB1.out.size)); have hc7 := hl2.cells.2.2.2.2.2.2.2.1; have hc8 := hl2.cells.2.2.2.2.2.2.2.2.1; rw [hus] at hc7; rw [hub] at hc8; clear hl2 hg2 hs2) | fail)
        have HA3 := Hid.mk' (HAM.out w2 HB2.out)
        clear HAM HB2 HZ HBZ HB1 HB0 hc7 hc8
        obtain ⟨lb, hlb⟩ : ∃ lb, w2.heap.size = lb := ⟨_, rfl⟩
        rw [hlb] at HA3
        simp only [hlb]
        clear hlb
        generalize w2.alloc (.cells #[nu us, nu ub] 48) = w3 at *
        obtain ⟨_, y0, y1⟩ := HA3.out.read
        go_wp2_with (first | (go_at_call 24; refine (cRt.out _ _ HA3.out).mono ?_; rintro e w9 ⟨rfl, ha9⟩; have HA9 := Hid.mk' ha9; obtain ⟨_, y3, y4⟩ := ha9.read; clear ha9) | (go_at_call 25; refine (cT.out _ _ HA9.out).mono ?_; rintro e w4 ⟨rfl, ha4⟩; have HA4 := Hid.mk' ha4; clear ha4) | fail)
        go_ret
        exact ⟨rfl, 0, by omega, fun _ => rfl, HEN.out _ _ HA4.out⟩
  · have hRR := cut_used A.sl l i (at' A.sl i).s.us (at' A.sl i).s.ub hu
    rw [hR] at hRR
    subst hRR
    dsimp only
    rw [errE_no _ hu] at cU
    have hpe : errP (usedE A.sl i) (-1) = errE (usedE A.sl i) := rfl
    rw [hpe, errE_no _ hu]
    generalize usedE A.sl i = u at *
    clear h hu hR hpe hg C
    go_enter Tryd.func6, Tryd.ntmps6
    go_wp2_with fail
    refine cU.out.mono ?_
    rintro e w1 ⟨rfl, ha1⟩
    have HA1 := Hid.mk' ha1
    clear ha1 cU
    go_wp2
    go_ret
    exact ⟨rfl, 0, by omega, fun _ => rfl, HL0'.out _ HA1.out⟩
end
end Tr
end Go.Proofs.YthabnombfbehkaaDoor
