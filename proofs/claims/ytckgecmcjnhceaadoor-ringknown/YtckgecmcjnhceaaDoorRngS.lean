/- The document's rings: Push, Drop, Splice. -/
import Derived.Test.YtckgecmcjnhceaaDoorRngR
namespace Go.Proofs.YtckgecmcjnhceaaDoor
set_option linter.ambiguousOpen false
open Go.RowKit
namespace Rg
open An Ft Lv
set_option linter.unusedSimpArgs false
set_option linter.unusedVariables false

set_option maxRecDepth 100000 in
set_option maxHeartbeats 2000000 in
theorem push_ref (base : Nat) (w : World) (g b cap : Nat) (fv : Value) (A : Arn) (last i : Int) (h : RAn base w g (.slice (some ⟨b, 0, none⟩) 32 cap) fv A) (hl : A.sl.length = 32) (hc : 32 ≤ cap ∧ cap ≤ 9223372036854775807) :
    Calls Tryd.prog 32 #[ptr g, nu last, nu i] w fun e w' => e = .returned (.tuple #[nu (push A.sl last i).ans, nun (push A.sl last i).no, nu (push A.sl last i).pl]) ∧ RAn base w' g (.slice (some ⟨b, 0, none⟩) 32 cap) fv ⟨(push A.sl last i).sl, A.fr, A.wr⟩ ∧ Keep (fun j => j = b) w w' := by
  have HA := Hid.mk' h
  have cT : Hid (∀ j, _) := fun j => there_ref j w
  obtain ⟨X, hX⟩ : ∃ X, push A.sl last i = X := ⟨_, rfl⟩
  rw [hX]
  have q0 := h.cells.1
  have hc' := hc
  obtain ⟨hc1, hc2⟩ := hc'
  have c1 := Hid.mk' (cT.out i)
  by_cases ht : there i
  · rw [decide_eq_true ht] at c1
    have c2 := Hid.mk' (cT.out last)
    by_cases hm : last = -1
    · have hx : X = ⟨i, 0, -1, link A.sl i i⟩ := by rw [← hX, push, if_neg (by omega), if_pos hm]
      subst hx
      subst hm
      have c3 := Hid.mk' (link_ref base w g b cap fv A i i h hl hc ht ht)
      clear h hX hl hc ht cT q0 hc1 hc2 c2
      go_enter Tryd.func32, Tryd.ntmps32
      go_wp2_with fail
      refine c1.out.mono ?_
      rintro e w1 ⟨rfl, hw1⟩
      subst w1
      go_wp2_with fail
      refine c3.out.mono ?_
      rintro e w1 ⟨⟨u, rfl⟩, h1, k1⟩
      have H1 := Hid.mk' h1
      have K1 := Hid.mk' k1
      clear h1 k1
      go_wp2
      go_ret3
      exact ⟨rfl, H1.out, K1.out⟩
    · have hmb : (last != -1) = true := by simpa using hm
      have hmc : (last == -1) = false := by simpa using hm
      by_cases hlt : there last
      · rw [decide_eq_true hlt] at c2
        have c3 := Hid.mk' (well_ref base w g b cap fv A last h hl hc)
        by_cases hw : well A.sl last
        · rw [decide_eq_true hw] at c3
          obtain ⟨k, rfl⟩ : ∃ k : Nat, last = (k : Int) := ⟨last.toNat, by omega⟩
          obtain ⟨_, q1, _⟩ := RAn.linkAt h hl k (by omega)
          obtain ⟨f, hf⟩ : ∃ f, nx A.sl k = f := ⟨_, rfl⟩
          rw [hf] at q1
          have hkI : (k : Int) < 32 := by omega
          by_cases e1 : i = (k : Int)
          · have HX : Hid (X = ⟨0, 9, -1, A.sl⟩) := by show X = _; rw [← hX, push, if_neg (by omega), if_neg hm, if_neg (fun e => e hw), if_pos (.inl e1)]
            have b1 : (i == (k : Int)) = true := by simpa using e1
            clear h hX hl hc ht hlt hw cT e1 hf hm
            go_enter Tryd.func32, Tryd.ntmps32
            go_wp2_with fail
            refine c1.out.mono ?_
            rintro e w1 ⟨rfl, hw1⟩
            subst w1
            go_wp2_with fail
            refine c2.out.mono ?_
            rintro e w1 ⟨rfl, hw1⟩
            subst w1
            go_wp2_with fail
            refine c3.out.mono ?_
            rintro e w1 ⟨rfl, hw1⟩
            subst w1
            go_wp2
            go_ret3
            rw [HX.out]
            exact ⟨rfl, HA.out, Keep.refl _ _⟩
          · have b1 : (i == (k : Int)) = false := by simpa using e1
            by_cases e2 : i = f
            · have HX : Hid (X = ⟨0, 9, -1, A.sl⟩) := by show X = _; rw [← hX, push, if_neg (by omega), if_neg hm, if_neg (fun e => e hw), if_pos (.inr (by rw [hf]; exact e2))]
              have b2 : (i == f) = true := by simpa using e2
              clear h hX hl hc ht hlt hw cT e1 e2 hf hm
              go_enter Tryd.func32, Tryd.ntmps32
              go_wp2_with fail
              refine c1.out.mono ?_
              rintro e w1 ⟨rfl, hw1⟩
              subst w1
              go_wp2_with fail
              refine c2.out.mono ?_
              rintro e w1 ⟨rfl, hw1⟩
              subst w1
              go_wp2_with fail
              refine c3.out.mono ?_
              rintro e w1 ⟨rfl, hw1⟩
              subst w1
              go_wp2
              go_ret3
              rw [HX.out]
              exact ⟨rfl, HA.out, Keep.refl _ _⟩
            · have b2 : (i == f) = false := by simpa using e2
              have hx : X = ⟨i, 0, -1, link (link A.sl k i) i f⟩ := by rw [← hX, push, if_neg (by omega), if_neg hm, if_neg (fun e => e hw), if_neg (by rw [hf]; omega), hf]
              subst hx
              have hft : there f := by have := hw.2.2.1; rwa [hf] at this
              have c4 := Hid.mk' (link_ref base w g b cap fv A k i h hl hc hlt ht)
              have c5 : Hid (∀ wx, RAn base wx g (.slice (some ⟨b, 0, none⟩) 32 cap) fv ⟨link A.sl k i, A.fr, A.wr⟩ → _) := fun wx hx => link_ref base wx g b cap fv ⟨link A.sl k i, A.fr, A.wr⟩ i f hx (by rw [link_len, hl]) hc ht hft
              clear h hX hl hc ht hlt hw cT e1 e2 hf hm hft
              go_enter Tryd.func32, Tryd.ntmps32
              go_wp2_with fail
              refine c1.out.mono ?_
              rintro e w1 ⟨rfl, hw1⟩
              subst w1
              go_wp2_with fail
              refine c2.out.mono ?_
              rintro e w1 ⟨rfl, hw1⟩
              subst w1
              go_wp2_with fail
              refine c3.out.mono ?_
              rintro e w1 ⟨rfl, hw1⟩
              subst w1
              go_wp2_with fail
              refine c4.out.mono ?_
              rintro e w1 ⟨⟨u, rfl⟩, h1, k1⟩
              have H1 := Hid.mk' h1
              have K1 := Hid.mk' k1
              clear h1 k1
              go_wp2_with fail
              refine (c5.out _ H1.out).mono ?_
              rintro e w2 ⟨⟨u, rfl⟩, h2, k2⟩
              have H2 := Hid.mk' h2
              have K2 := Hid.mk' (K1.out.trans k2 (fun _ _ e => e))
              clear h2 k2
              go_wp2
              go_ret3
              exact ⟨rfl, H2.out, K2.out⟩
        · rw [decide_eq_false hw] at c3
          have HX : Hid (X = ⟨0, 24, last, A.sl⟩) := by show X = _; rw [← hX, push, if_neg (by omega), if_neg hm, if_pos hw]
          clear h hX hl hc ht hlt hw cT hm q0
          go_enter Tryd.func32, Tryd.ntmps32
          go_wp2_with fail
          refine c1.out.mono ?_
          rintro e w1 ⟨rfl, hw1⟩
          subst w1
          go_wp2_with fail
          refine c2.out.mono ?_
          rintro e w1 ⟨rfl, hw1⟩
          subst w1
          go_wp2_with fail
          refine c3.out.mono ?_
          rintro e w1 ⟨rfl, hw1⟩
          subst w1
          go_wp2
          go_ret3
          rw [HX.out]
          exact ⟨rfl, HA.out, Keep.refl _ _⟩
      · rw [decide_eq_false hlt] at c2
        have HX : Hid (X = ⟨0, 1, -1, A.sl⟩) := by show X = _; rw [← hX, push, if_pos (.inr ⟨hm, hlt⟩)]
        clear h hX hl hc ht hlt cT hm q0
        go_enter Tryd.func32, Tryd.ntmps32
        go_wp2_with fail
        refine c1.out.mono ?_
        rintro e w1 ⟨rfl, hw1⟩
        subst w1
        go_wp2_with fail
        refine c2.out.mono ?_
        rintro e w1 ⟨rfl, hw1⟩
        subst w1
        go_wp2
        go_ret3
        rw [HX.out]
        exact ⟨rfl, HA.out, Keep.refl _ _⟩
  · rw [decide_eq_false ht] at c1
    have HX : Hid (X = ⟨0, 1, -1, A.sl⟩) := by show X = _; rw [← hX, push, if_pos (.inl ht)]
    clear h hX hl hc ht cT q0
    go_enter Tryd.func32, Tryd.ntmps32
    go_wp2_with fail
    refine c1.out.mono ?_
    rintro e w1 ⟨rfl, hw1⟩
    subst w1
    go_wp2
    go_ret3
    rw [HX.out]
    exact ⟨rfl, HA.out, Keep.refl _ _⟩

set_option maxRecDepth 100000 in
set_option maxHeartbeats 2000000 in
theorem drop_ref (base : Nat) (w : World) (g b cap : Nat) (fv : Value) (A : Arn) (last i : Int) (h : RAn base w g (.slice (some ⟨b, 0, none⟩) 32 cap) fv A) (hl : A.sl.length = 32) (hc : 32 ≤ cap ∧ cap ≤ 9223372036854775807) :
    Calls Tryd.prog 28 #[ptr g, nu last, nu i] w fun e w' => e = .returned (.tuple #[nu (drop A.sl last i).ans, nun (drop A.sl last i).no, nu (drop A.sl last i).pl]) ∧ RAn base w' g (.slice (some ⟨b, 0, none⟩) 32 cap) fv ⟨(drop A.sl last i).sl, A.fr, A.wr⟩ ∧ Keep (fun j => j = b) w w' := by
  have HA := Hid.mk' h
  have cT : Hid (∀ j, _) := fun j => there_ref j w
  obtain ⟨X, hX⟩ : ∃ X, drop A.sl last i = X := ⟨_, rfl⟩
  rw [hX]
  have q0 := h.cells.1
  have hc' := hc
  obtain ⟨hc1, hc2⟩ := hc'
  have c1 := Hid.mk' (cT.out i)
  by_cases ht : there i
  · rw [decide_eq_true ht] at c1
    have c2 := Hid.mk' (cT.out last)
    by_cases hlt : there last
    · rw [decide_eq_true hlt] at c2
      have c3 := Hid.mk' (well_ref base w g b cap fv A i h hl hc)
      by_cases hw : well A.sl i
      · rw [decide_eq_true hw] at c3
        obtain ⟨k, rfl⟩ : ∃ k : Nat, i = (k : Int) := ⟨i.toNat, by omega⟩
        obtain ⟨q1, q2, _⟩ := RAn.linkAt h hl k (by omega)
        obtain ⟨p, hp⟩ : ∃ p, pv A.sl k = p := ⟨_, rfl⟩
        obtain ⟨n, hn⟩ : ∃ n, nx A.sl k = n := ⟨_, rfl⟩
        rw [hp] at q1
        rw [hn] at q2
        have hkI : (k : Int) < 32 := by omega
        have hpt : there p := by have := hw.2.1; rwa [hp] at this
        have hnt : there n := by have := hw.2.2.1; rwa [hn] at this
        have c4 := Hid.mk' (link_ref base w g b cap fv A p n h hl hc hpt hnt)
        have hl4 : (link A.sl p n).length = 32 := by rw [link_len, hl]
        have hl5 : (setP (link A.sl p n) k (-1)).length = 32 := by rw [setP_len, hl4]
        have C5 : Hid (∀ wx, RAn base wx g (.slice (some ⟨b, 0, none⟩) 32 cap) fv ⟨link A.sl p n, A.fr, A.wr⟩ → wx.cell? ⟨g, 0, none⟩ = some (.slice (some ⟨b, 0, none⟩) 32 cap) ∧ wx.cell? ⟨b, k * 17 + 3, none⟩ = some (nu (pv (link A.sl p n) k)) ∧ (wx.setCell ⟨b, k * 17 + 3, none⟩ (nu (-1))).cell? ⟨g, 0, none⟩ = some (.slice (some ⟨b, 0, none⟩) 32 cap) ∧ (wx.setCell ⟨b, k * 17 + 3, none⟩ (nu (-1))).cell? ⟨b, k * 17 + 4, none⟩ = some (nu (nx (setP (link A.sl p n) k (-1)) k)) ∧ (∀ i, wx.frozen? ⟨b, i, none⟩ = false) ∧ (∀ i, (wx.setCell ⟨b, k * 17 + 3, none⟩ (nu (-1))).frozen? ⟨b, i, none⟩ = false) ∧ RAn base ((wx.setCell ⟨b, k * 17 + 3, none⟩ (nu (-1))).setCell ⟨b, k * 17 + 4, none⟩ (nu (-1))) g (.slice (some ⟨b, 0, none⟩) 32 cap) fv ⟨setN (setP (link A.sl p n) k (-1)) k (-1), A.fr, A.wr⟩) := fun wx hx => by
          have h1 := RAn.putP hx hl4 k (by omega) (-1)
          obtain ⟨y1, _, y2⟩ := RAn.linkAt hx hl4 k (by omega)
          obtain ⟨_, y3, y4⟩ := RAn.linkAt h1 hl5 k (by omega)
          exact ⟨hx.cells.1, y1, h1.cells.1, y3, y2, y4, RAn.putN h1 hl5 k (by omega) (-1)⟩
        obtain ⟨aa, haa⟩ : ∃ aa : Int, (if (k : Int) ≠ last then last else if p = k then -1 else p) = aa := ⟨_, rfl⟩
        have hx : X = ⟨aa, 0, -1, setN (setP (link A.sl p n) k (-1)) k (-1)⟩ := by rw [← hX, drop, if_neg (by omega), if_neg (fun e => e hw), hp, hn, haa]
        subst hx
        have hdone : Hid (∀ aa' : Int, aa' = aa → ∀ wx, RAn base wx g (.slice (some ⟨b, 0, none⟩) 32 cap) fv ⟨setN (setP (link A.sl p n) k (-1)) k (-1), A.fr, A.wr⟩ → Keep (fun j => j = b) w wx → Ending.returned (.tuple #[nu aa', nu 0, nu (-1)]) = Ending.returned (.tuple #[nu aa, nun 0, nu (-1)]) ∧ RAn base wx g (.slice (some ⟨b, 0, none⟩) 32 cap) fv ⟨setN (setP (link A.sl p n) k (-1)) k (-1), A.fr, A.wr⟩ ∧ Keep (fun j => j = b) w wx) := fun aa' e wx h1 h2 => ⟨by rw [e]; rfl, h1, h2⟩
        have HAA := Hid.mk' haa
        clear h hX hl hc hw cT hp hn haa hl4 hl5 hpt hnt
        by_cases e1 : (k : Int) = last
        · have b1 : ((k : Int) != last) = false := by simpa using e1
          by_cases e2 : p = (k : Int)
          · have b2 : (p == (k : Int)) = true := by simpa using e2
            have HV : Hid ((-1 : Int) = aa) := by show _ = _; rw [← HAA.out, if_neg (by omega), if_pos e2]
            clear e1 e2 hlt ht
            clear HA
            go_enter Tryd.func28, Tryd.ntmps28
            go_wp2_with fail
            refine c1.out.mono ?_
            rintro e w1 ⟨rfl, hw1⟩
            subst w1
            go_wp2_with fail
            refine c2.out.mono ?_
            rintro e w1 ⟨rfl, hw1⟩
            subst w1
            go_wp2_with fail
            refine c3.out.mono ?_
            rintro e w1 ⟨rfl, hw1⟩
            subst w1
            go_wp2_with fail
            refine c4.out.mono ?_
            rintro e w1 ⟨⟨u, rfl⟩, h1, k1⟩
            obtain ⟨z0, z1, z2, z3, z4, z5, z6⟩ := C5.out w1 h1
            have H6 := Hid.mk' z6
            have K6 : Hid (Keep (fun j => j = b) w ((w1.setCell ⟨b, k * 17 + 3, none⟩ (nu (-1))).setCell ⟨b, k * 17 + 4, none⟩ (nu (-1)))) := (k1.setCell (p := ⟨b, k * 17 + 3, none⟩) (.inl rfl) _).setCell (p := ⟨b, k * 17 + 4, none⟩) (.inl rfl) _
            clear h1 k1 z6 C5 q0 q1 q2
            go_wp2
            go_ret3
            exact hdone.out _ HV.out _ H6.out K6.out
          · have b2 : (p == (k : Int)) = false := by simpa using e2
            have HV : Hid (p = aa) := by show _ = _; rw [← HAA.out, if_neg (by omega), if_neg e2]
            clear e1 e2 hlt ht
            clear HA
            go_enter Tryd.func28, Tryd.ntmps28
            go_wp2_with fail
            refine c1.out.mono ?_
            rintro e w1 ⟨rfl, hw1⟩
            subst w1
            go_wp2_with fail
            refine c2.out.mono ?_
            rintro e w1 ⟨rfl, hw1⟩
            subst w1
            go_wp2_with fail
            refine c3.out.mono ?_
            rintro e w1 ⟨rfl, hw1⟩
            subst w1
            go_wp2_with fail
            refine c4.out.mono ?_
            rintro e w1 ⟨⟨u, rfl⟩, h1, k1⟩
            obtain ⟨z0, z1, z2, z3, z4, z5, z6⟩ := C5.out w1 h1
            have H6 := Hid.mk' z6
            have K6 : Hid (Keep (fun j => j = b) w ((w1.setCell ⟨b, k * 17 + 3, none⟩ (nu (-1))).setCell ⟨b, k * 17 + 4, none⟩ (nu (-1)))) := (k1.setCell (p := ⟨b, k * 17 + 3, none⟩) (.inl rfl) _).setCell (p := ⟨b, k * 17 + 4, none⟩) (.inl rfl) _
            clear h1 k1 z6 C5 q0 q1 q2
            go_wp2
            go_ret3
            exact hdone.out _ HV.out _ H6.out K6.out
        · have b1 : ((k : Int) != last) = true := by simpa using e1
          have HV : Hid (last = aa) := by show _ = _; rw [← HAA.out, if_pos e1]
          clear e1 hlt ht
          clear HA
          go_enter Tryd.func28, Tryd.ntmps28
          go_wp2_with fail
          refine c1.out.mono ?_
          rintro e w1 ⟨rfl, hw1⟩
          subst w1
          go_wp2_with fail
          refine c2.out.mono ?_
          rintro e w1 ⟨rfl, hw1⟩
          subst w1
          go_wp2_with fail
          refine c3.out.mono ?_
          rintro e w1 ⟨rfl, hw1⟩
          subst w1
          go_wp2_with fail
          refine c4.out.mono ?_
          rintro e w1 ⟨⟨u, rfl⟩, h1, k1⟩
          obtain ⟨z0, z1, z2, z3, z4, z5, z6⟩ := C5.out w1 h1
          have H6 := Hid.mk' z6
          have K6 : Hid (Keep (fun j => j = b) w ((w1.setCell ⟨b, k * 17 + 3, none⟩ (nu (-1))).setCell ⟨b, k * 17 + 4, none⟩ (nu (-1)))) := (k1.setCell (p := ⟨b, k * 17 + 3, none⟩) (.inl rfl) _).setCell (p := ⟨b, k * 17 + 4, none⟩) (.inl rfl) _
          clear h1 k1 z6 C5 q0 q1 q2
          go_wp2
          go_ret3
          exact hdone.out _ HV.out _ H6.out K6.out
      · rw [decide_eq_false hw] at c3
        have HX : Hid (X = ⟨0, 24, i, A.sl⟩) := by show X = _; rw [← hX, drop, if_neg (by omega), if_pos hw]
        clear h hX hl hc ht hlt hw cT q0
        go_enter Tryd.func28, Tryd.ntmps28
        go_wp2_with fail
        refine c1.out.mono ?_
        rintro e w1 ⟨rfl, hw1⟩
        subst w1
        go_wp2_with fail
        refine c2.out.mono ?_
        rintro e w1 ⟨rfl, hw1⟩
        subst w1
        go_wp2_with fail
        refine c3.out.mono ?_
        rintro e w1 ⟨rfl, hw1⟩
        subst w1
        go_wp2
        go_ret3
        rw [HX.out]
        exact ⟨rfl, HA.out, Keep.refl _ _⟩
    · rw [decide_eq_false hlt] at c2
      have HX : Hid (X = ⟨0, 1, -1, A.sl⟩) := by show X = _; rw [← hX, drop, if_pos (.inr hlt)]
      clear h hX hl hc ht hlt cT q0
      go_enter Tryd.func28, Tryd.ntmps28
      go_wp2_with fail
      refine c1.out.mono ?_
      rintro e w1 ⟨rfl, hw1⟩
      subst w1
      go_wp2_with fail
      refine c2.out.mono ?_
      rintro e w1 ⟨rfl, hw1⟩
      subst w1
      go_wp2
      go_ret3
      rw [HX.out]
      exact ⟨rfl, HA.out, Keep.refl _ _⟩
  · rw [decide_eq_false ht] at c1
    have HX : Hid (X = ⟨0, 1, -1, A.sl⟩) := by show X = _; rw [← hX, drop, if_pos (.inl ht)]
    clear h hX hl hc ht cT q0
    go_enter Tryd.func28, Tryd.ntmps28
    go_wp2_with fail
    refine c1.out.mono ?_
    rintro e w1 ⟨rfl, hw1⟩
    subst w1
    go_wp2
    go_ret3
    rw [HX.out]
    exact ⟨rfl, HA.out, Keep.refl _ _⟩

set_option maxRecDepth 100000 in
set_option maxHeartbeats 2000000 in
theorem splice_ref (base : Nat) (w : World) (g b cap : Nat) (fv : Value) (A : Arn) (one two : Int) (h : RAn base w g (.slice (some ⟨b, 0, none⟩) 32 cap) fv A) (hl : A.sl.length = 32) (hc : 32 ≤ cap ∧ cap ≤ 9223372036854775807) :
    Calls Tryd.prog 30 #[ptr g, nu one, nu two] w fun e w' => e = .returned (.tuple #[nu (splice A.sl one two).ans, nun (splice A.sl one two).no, nu (splice A.sl one two).pl]) ∧ RAn base w' g (.slice (some ⟨b, 0, none⟩) 32 cap) fv ⟨(splice A.sl one two).sl, A.fr, A.wr⟩ ∧ Keep (fun j => j = b) w w' := by
  have HA := Hid.mk' h
  have cT : Hid (∀ j, _) := fun j => there_ref j w
  obtain ⟨X, hX⟩ : ∃ X, splice A.sl one two = X := ⟨_, rfl⟩
  rw [hX]
  have q0 := h.cells.1
  have hc' := hc
  obtain ⟨hc1, hc2⟩ := hc'
  have c1 := Hid.mk' (cT.out one)
  have c2 := Hid.mk' (cT.out two)
  by_cases h1 : one = -1
  · have b1 : (one != -1) = false := by simpa using h1
    have d1 : (one == -1) = true := by simpa using h1
    by_cases h2 : two = -1
    · have b2 : (two != -1) = false := by simpa using h2
      have d2 : (two == -1) = true := by simpa using h2
      have HX : Hid (X = ⟨two, 0, -1, A.sl⟩) := by show X = _; rw [← hX, splice, if_neg (by omega), if_pos h1]
      clear h hX hl hc cT q0 h1 h2 c1 c2
      go_enter Tryd.func30, Tryd.ntmps30
      go_wp2
      go_ret3
      rw [HX.out]
      exact ⟨rfl, HA.out, Keep.refl _ _⟩
    · have b2 : (two != -1) = true := by simpa using h2
      by_cases ht : there two
      · rw [decide_eq_true ht] at c2
        have HX : Hid (X = ⟨two, 0, -1, A.sl⟩) := by show X = _; rw [← hX, splice, if_neg (by omega), if_pos h1]
        clear h hX hl hc cT q0 h1 h2 c1 ht
        go_enter Tryd.func30, Tryd.ntmps30
        go_wp2_with fail
        refine c2.out.mono ?_
        rintro e w1 ⟨rfl, hw1⟩
        subst w1
        go_wp2
        go_ret3
        rw [HX.out]
        exact ⟨rfl, HA.out, Keep.refl _ _⟩
      · rw [decide_eq_false ht] at c2
        have HX : Hid (X = ⟨0, 1, -1, A.sl⟩) := by show X = _; rw [← hX, splice, if_pos (.inr ⟨h2, ht⟩)]
        clear h hX hl hc cT q0 h1 h2 c1 ht
        go_enter Tryd.func30, Tryd.ntmps30
        go_wp2_with fail
        refine c2.out.mono ?_
        rintro e w1 ⟨rfl, hw1⟩
        subst w1
        go_wp2
        go_ret3
        rw [HX.out]
        exact ⟨rfl, HA.out, Keep.refl _ _⟩
  · have b1 : (one != -1) = true := by simpa using h1
    have d1 : (one == -1) = false := by simpa using h1
    by_cases ho : there one
    · rw [decide_eq_true ho] at c1
      by_cases h2 : two = -1
      · have b2 : (two != -1) = false := by simpa using h2
        have d2 : (two == -1) = true := by simpa using h2
        have HX : Hid (X = ⟨one, 0, -1, A.sl⟩) := by show X = _; rw [← hX, splice, if_neg (by omega), if_neg h1, if_pos h2]
        clear h hX hl hc cT q0 h1 h2 c2 ho
        go_enter Tryd.func30, Tryd.ntmps30
        go_wp2_with fail
        refine c1.out.mono ?_
        rintro e w1 ⟨rfl, hw1⟩
        subst w1
        go_wp2
        go_ret3
        rw [HX.out]
        exact ⟨rfl, HA.out, Keep.refl _ _⟩
      · have b2 : (two != -1) = true := by simpa using h2
        have d2 : (two == -1) = false := by simpa using h2
        by_cases ht : there two
        · rw [decide_eq_true ht] at c2
          have hn : ¬ ((one ≠ -1 ∧ ¬ there one) ∨ (two ≠ -1 ∧ ¬ there two)) := fun e => e.elim (fun e => e.2 ho) (fun e => e.2 ht)
          by_cases he : one = two
          · have d3 : (one == two) = true := by simpa using he
            have HX : Hid (X = ⟨0, 9, -1, A.sl⟩) := by show X = _; rw [← hX, splice, if_neg hn, if_neg h1, if_neg h2, if_pos he]
            clear h hX hl hc cT q0 h1 h2 ho ht hn he
            go_enter Tryd.func30, Tryd.ntmps30
            go_wp2_with fail
            refine c1.out.mono ?_
            rintro e w1 ⟨rfl, hw1⟩
            subst w1
            go_wp2_with fail
            refine c2.out.mono ?_
            rintro e w1 ⟨rfl, hw1⟩
            subst w1
            go_wp2
            go_ret3
            rw [HX.out]
            exact ⟨rfl, HA.out, Keep.refl _ _⟩
          · have d3 : (one == two) = false := by simpa using he
            have c3 := Hid.mk' (well_ref base w g b cap fv A one h hl hc)
            have c4 := Hid.mk' (well_ref base w g b cap fv A two h hl hc)
            by_cases w1 : well A.sl one
            · rw [decide_eq_true w1] at c3
              by_cases w2 : well A.sl two
              · rw [decide_eq_true w2] at c4
                obtain ⟨k, rfl⟩ : ∃ k : Nat, one = (k : Int) := ⟨one.toNat, by omega⟩
                obtain ⟨m, rfl⟩ : ∃ m : Nat, two = (m : Int) := ⟨two.toNat, by omega⟩
                obtain ⟨_, q1, _⟩ := RAn.linkAt h hl k (by omega)
                obtain ⟨_, q2, _⟩ := RAn.linkAt h hl m (by omega)
                obtain ⟨f, hf⟩ : ∃ f, nx A.sl k = f := ⟨_, rfl⟩
                obtain ⟨s, hs⟩ : ∃ s, nx A.sl m = s := ⟨_, rfl⟩
                rw [hf] at q1
                rw [hs] at q2
                have hkI : (k : Int) < 32 := by omega
                have hmI : (m : Int) < 32 := by omega
                have hft : there f := by have := w1.2.2.1; rwa [hf] at this
                have hst : there s := by have := w2.2.2.1; rwa [hs] at this
                have hx : X = ⟨m, 0, -1, link (link A.sl k s) m f⟩ := by rw [← hX, splice, if_neg hn, if_neg h1, if_neg h2, if_neg he, if_neg (fun e => e w1), if_neg (fun e => e w2), hf, hs]
                subst hx
                have c5 := Hid.mk' (link_ref base w g b cap fv A k s h hl hc ho hst)
                have c6 : Hid (∀ wx, RAn base wx g (.slice (some ⟨b, 0, none⟩) 32 cap) fv ⟨link A.sl k s, A.fr, A.wr⟩ → _) := fun wx hx => link_ref base wx g b cap fv ⟨link A.sl k s, A.fr, A.wr⟩ m f hx (by rw [link_len, hl]) hc ht hft
                clear h hX hl hc cT h1 h2 ho ht hn he w1 w2 hf hs hft hst
                go_enter Tryd.func30, Tryd.ntmps30
                go_wp2_with fail
                refine c1.out.mono ?_
                rintro e w1 ⟨rfl, hw1⟩
                subst w1
                go_wp2_with fail
                refine c2.out.mono ?_
                rintro e w1 ⟨rfl, hw1⟩
                subst w1
                go_wp2_with fail
                refine c3.out.mono ?_
                rintro e w1 ⟨rfl, hw1⟩
                subst w1
                go_wp2_with fail
                refine c4.out.mono ?_
                rintro e w1 ⟨rfl, hw1⟩
                subst w1
                go_wp2_with fail
                refine c5.out.mono ?_
                rintro e w1 ⟨⟨u, rfl⟩, h1, k1⟩
                have H1 := Hid.mk' h1
                have K1 := Hid.mk' k1
                clear h1 k1
                go_wp2_with fail
                refine (c6.out _ H1.out).mono ?_
                rintro e w2 ⟨⟨u, rfl⟩, h2, k2⟩
                have H2 := Hid.mk' h2
                have K2 := Hid.mk' (K1.out.trans k2 (fun _ _ e => e))
                clear h2 k2
                go_wp2
                go_ret3
                exact ⟨rfl, H2.out, K2.out⟩
              · rw [decide_eq_false w2] at c4
                have HX : Hid (X = ⟨0, 24, two, A.sl⟩) := by show X = _; rw [← hX, splice, if_neg hn, if_neg h1, if_neg h2, if_neg he, if_neg (fun e => e w1), if_pos w2]
                clear h hX hl hc cT q0 h1 h2 ho ht hn he w1 w2
                go_enter Tryd.func30, Tryd.ntmps30
                go_wp2_with fail
                refine c1.out.mono ?_
                rintro e w1 ⟨rfl, hw1⟩
                subst w1
                go_wp2_with fail
                refine c2.out.mono ?_
                rintro e w1 ⟨rfl, hw1⟩
                subst w1
                go_wp2_with fail
                refine c3.out.mono ?_
                rintro e w1 ⟨rfl, hw1⟩
                subst w1
                go_wp2_with fail
                refine c4.out.mono ?_
                rintro e w1 ⟨rfl, hw1⟩
                subst w1
                go_wp2
                go_ret3
                rw [HX.out]
                exact ⟨rfl, HA.out, Keep.refl _ _⟩
            · rw [decide_eq_false w1] at c3
              have HX : Hid (X = ⟨0, 24, one, A.sl⟩) := by show X = _; rw [← hX, splice, if_neg hn, if_neg h1, if_neg h2, if_neg he, if_pos w1]
              clear h hX hl hc cT q0 h1 h2 ho ht hn he w1 c4
              go_enter Tryd.func30, Tryd.ntmps30
              go_wp2_with fail
              refine c1.out.mono ?_
              rintro e w1 ⟨rfl, hw1⟩
              subst w1
              go_wp2_with fail
              refine c2.out.mono ?_
              rintro e w1 ⟨rfl, hw1⟩
              subst w1
              go_wp2_with fail
              refine c3.out.mono ?_
              rintro e w1 ⟨rfl, hw1⟩
              subst w1
              go_wp2
              go_ret3
              rw [HX.out]
              exact ⟨rfl, HA.out, Keep.refl _ _⟩
        · rw [decide_eq_false ht] at c2
          have HX : Hid (X = ⟨0, 1, -1, A.sl⟩) := by show X = _; rw [← hX, splice, if_pos (.inr ⟨h2, ht⟩)]
          clear h hX hl hc cT q0 h1 h2 ho ht
          go_enter Tryd.func30, Tryd.ntmps30
          go_wp2_with fail
          refine c1.out.mono ?_
          rintro e w1 ⟨rfl, hw1⟩
          subst w1
          go_wp2_with fail
          refine c2.out.mono ?_
          rintro e w1 ⟨rfl, hw1⟩
          subst w1
          go_wp2
          go_ret3
          rw [HX.out]
          exact ⟨rfl, HA.out, Keep.refl _ _⟩
    · rw [decide_eq_false ho] at c1
      have HX : Hid (X = ⟨0, 1, -1, A.sl⟩) := by show X = _; rw [← hX, splice, if_pos (.inl ⟨h1, ho⟩)]
      clear h hX hl hc cT q0 h1 ho c2
      go_enter Tryd.func30, Tryd.ntmps30
      go_wp2_with fail
      refine c1.out.mono ?_
      rintro e w1 ⟨rfl, hw1⟩
      subst w1
      go_wp2
      go_ret3
      rw [HX.out]
      exact ⟨rfl, HA.out, Keep.refl _ _⟩
end Rg
end Go.Proofs.YtckgecmcjnhceaaDoor
