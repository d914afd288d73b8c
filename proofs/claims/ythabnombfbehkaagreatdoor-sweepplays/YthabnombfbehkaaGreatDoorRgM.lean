/- RngR, RngS, RngT, in one text. -/
import Derived.Test.YthabnombfbehkaaGreatDoorRgP
import Derived.Test.YthabnombfbehkaaGreatDoorArM
/- The document's rings: Well, link, Push, Drop, Splice. -/
namespace Go.Proofs.YthabnombfbehkaaGreatDoor
set_option linter.ambiguousOpen false
open Go.RowKit
namespace Rg
open An Ft Lv
set_option linter.unusedSimpArgs false
set_option linter.unusedVariables false

/-- One cell of a row of one's own is written. -/
theorem own_cellSet {w : World} {base g cap n size : Nat} {e : TypeId} {xs : List Value} (h : w.ownsRow base e size (.slice (some ⟨g, 0, none⟩) n cap) n xs) (i : Nat) (u : Value) :
    (w.setCell ⟨g, i, none⟩ u).ownsRow base e size (.slice (some ⟨g, 0, none⟩) n cap) n (xs.set i u) := by
  rcases h.2 with ⟨hv, _⟩ | ⟨g', cap', cur, hv, hbg, hg, hnc, hcm, hcs, htake⟩
  · simp at hv
  · simp only [Value.slice.injEq, Option.some.injEq, Addr.mk.injEq, and_true, true_and] at hv
    obtain ⟨rfl, rfl⟩ := hv
    refine ⟨by simpa using h.1, .inr ⟨g, cap, cur.setIfInBounds i u, rfl, hbg, ?_, hnc, hcm, by simpa using hcs, ?_⟩⟩
    · have hlt : g < w.heap.size := (Array.getElem?_eq_some_iff.1 hg).1
      simp [World.setCell, Array.getElem?_modify, hg]
    · rw [← htake]
      simp [List.take_set]

theorem scs_mid (S : List Slt) (k : Nat) (hk : k < S.length) (x : Slt) (j : Nat) (v : Value) (hj : j < 17) (hx : (S.getD k bare).cells.set j v = x.cells) : scs (S.set k x) = (scs S).set (k * 17 + j) v := by
  have h0 : S.set k (S.getD k bare) = S := by
    rw [List.getD_eq_getElem?_getD, List.getElem?_eq_getElem hk]
    simp
  have h1 := scs_set S k x hk
  have h2 := scs_set S k (S.getD k bare) hk
  have hlen := scs_len S
  rw [h0] at h2
  have hl : ((scs S).take (k * 17)).length = k * 17 := by rw [List.length_take]; omega
  rw [h1]
  conv => rhs; rw [h2]
  rw [List.append_assoc, List.append_assoc, List.set_append_right _ _ (by omega), hl, Nat.add_sub_cancel_left, List.set_append_left _ _ (by rw [Slt.len]; exact hj), hx]

section
variable {base : Nat} {w : World} {g b cap : Nat} {fv : Value} {A : Arn}

theorem RAn.linkAt (h : RAn base w g (.slice (some ⟨b, 0, none⟩) 32 cap) fv A) (hl : A.sl.length = 32) (k : Nat) (hk : k < 32) : w.cell? ⟨b, k * 17 + 3, none⟩ = some (nu (pv A.sl k)) ∧ w.cell? ⟨b, k * 17 + 4, none⟩ = some (nu (nx A.sl k)) ∧ ∀ i, w.frozen? ⟨b, i, none⟩ = false := by
  obtain ⟨b', cap', e, _, _, hr, _⟩ := h.slot hl k hk
  simp only [Value.slice.injEq, Option.some.injEq, Addr.mk.injEq, and_true, true_and] at e
  obtain ⟨rfl, rfl⟩ := e
  refine ⟨hr 3 _ rfl, hr 4 _ rfl, fun i => ?_⟩
  obtain ⟨c, hc, _⟩ := own_cellsT h.sl (k := b) rfl
  simp [World.frozen?, hc]

theorem RAn.putN (h : RAn base w g (.slice (some ⟨b, 0, none⟩) 32 cap) fv A) (hl : A.sl.length = 32) (k : Nat) (hk : k < 32) (v : Int) : RAn base (w.setCell ⟨b, k * 17 + 4, none⟩ (nu v)) g (.slice (some ⟨b, 0, none⟩) 32 cap) fv ⟨setN A.sl k v, A.fr, A.wr⟩ := by
  have hG : w.grownBy (w.setCell ⟨b, k * 17 + 4, none⟩ (nu v)) (some b) := ⟨rfl, rfl, rfl, by simp, fun k hk hn => Below.heap_setCell _ _ _ k (fun e => hn (by rw [e]))⟩
  have hne := h.ne
  refine ⟨(hG.block g h.glt (fun e => hne.1 e.symm)).trans h.blk, ?_, h.fr.kept hG (.inr (fun e => hne.2.2 b rfl e)), h.lo⟩
  have h0 := h.sl
  rw [hl] at h0
  have h1 := own_cellSet h0 (k * 17 + 4) (nu v)
  have h2 := scs_mid A.sl k (by omega) { A.sl.getD k bare with next := v } 4 (nu v) (by omega) rfl
  show World.ownsRow _ _ _ _ _ (setN A.sl k v).length (scs (setN A.sl k v))
  rw [setN_len, hl]
  unfold setN
  rw [Int.toNat_natCast, h2]
  exact h1

theorem RAn.putP (h : RAn base w g (.slice (some ⟨b, 0, none⟩) 32 cap) fv A) (hl : A.sl.length = 32) (k : Nat) (hk : k < 32) (v : Int) : RAn base (w.setCell ⟨b, k * 17 + 3, none⟩ (nu v)) g (.slice (some ⟨b, 0, none⟩) 32 cap) fv ⟨setP A.sl k v, A.fr, A.wr⟩ := by
  have hG : w.grownBy (w.setCell ⟨b, k * 17 + 3, none⟩ (nu v)) (some b) := ⟨rfl, rfl, rfl, by simp, fun k hk hn => Below.heap_setCell _ _ _ k (fun e => hn (by rw [e]))⟩
  have hne := h.ne
  refine ⟨(hG.block g h.glt (fun e => hne.1 e.symm)).trans h.blk, ?_, h.fr.kept hG (.inr (fun e => hne.2.2 b rfl e)), h.lo⟩
  have h0 := h.sl
  rw [hl] at h0
  have h1 := own_cellSet h0 (k * 17 + 3) (nu v)
  have h2 := scs_mid A.sl k (by omega) { A.sl.getD k bare with prev := v } 3 (nu v) (by omega) rfl
  show World.ownsRow _ _ _ _ _ (setP A.sl k v).length (scs (setP A.sl k v))
  rw [setP_len, hl]
  unfold setP
  rw [Int.toNat_natCast, h2]
  exact h1
end

set_option maxRecDepth 100000 in
set_option maxHeartbeats 1000000 in
theorem well_ref (base : Nat) (w : World) (g b cap : Nat) (fv : Value) (A : Arn) (i : Int) (h : RAn base w g (.slice (some ⟨b, 0, none⟩) 32 cap) fv A) (hl : A.sl.length = 32) (hc : 32 ≤ cap ∧ cap ≤ 9223372036854775807) :
    Calls Tryz.prog 67 #[ptr g, nu i] w fun e w' => e = .returned (.bool (decide (well A.sl i))) ∧ w' = w := by
  have cT : Hid (∀ j, _) := fun j => there_ref j w
  obtain ⟨r, hr⟩ : ∃ r, decide (well A.sl i) = r := ⟨_, rfl⟩
  rw [hr]
  have q0 := h.cells.1
  obtain ⟨hc1, hc2⟩ := hc
  by_cases ht : there i
  · have c1 := Hid.mk' (cT.out i)
    rw [decide_eq_true ht] at c1
    obtain ⟨k, rfl⟩ : ∃ k : Nat, i = (k : Int) := ⟨i.toNat, by omega⟩
    have hk : k < 32 := by omega
    obtain ⟨q1, q2, qf⟩ := RAn.linkAt h hl k hk
    obtain ⟨p, hp⟩ : ∃ p, pv A.sl k = p := ⟨_, rfl⟩
    obtain ⟨n, hn⟩ : ∃ n, nx A.sl k = n := ⟨_, rfl⟩
    rw [hp] at q1
    rw [hn] at q2
    have c2 := Hid.mk' (cT.out p)
    have c3 := Hid.mk' (cT.out n)
    have HW : well A.sl k ↔ (there (k : Int) ∧ there p ∧ there n ∧ nx A.sl p = k ∧ pv A.sl n = k) := by unfold well; rw [hp, hn]
    have hkI : (k : Int) < 32 := by omega
    have hk0 : (0 : Int) ≤ (k : Int) := by omega
    by_cases hpt : there p
    · rw [decide_eq_true hpt] at c2
      by_cases hnt : there n
      · rw [decide_eq_true hnt] at c3
        obtain ⟨p', rfl⟩ : ∃ p' : Nat, p = (p' : Int) := ⟨p.toNat, by omega⟩
        obtain ⟨n', rfl⟩ : ∃ n' : Nat, n = (n' : Int) := ⟨n.toNat, by omega⟩
        obtain ⟨_, q3, _⟩ := RAn.linkAt h hl p' (by omega)
        obtain ⟨q4, _, _⟩ := RAn.linkAt h hl n' (by omega)
        obtain ⟨x, hx⟩ : ∃ x, nx A.sl p' = x := ⟨_, rfl⟩
        obtain ⟨y, hy⟩ : ∃ y, pv A.sl n' = y := ⟨_, rfl⟩
        rw [hx] at q3
        rw [hy] at q4
        rw [hx, hy] at HW
        have hpI : (p' : Int) < 32 := by omega
        have hnI : (n' : Int) < 32 := by omega
        by_cases e1 : x = k
        · have b1 : (x == (k : Int)) = true := by simp [e1]
          have HR : Hid (r = (y == (k : Int))) := by
            show r = _
            rw [← hr, Bool.eq_iff_iff]
            simp only [decide_eq_true_eq, beq_iff_eq]
            rw [HW]
            exact ⟨fun h => h.2.2.2.2, fun h => ⟨ht, hpt, hnt, e1, h⟩⟩
          clear HW hr h hp hn hx hy e1 hpt hnt ht cT qf
          go_enter Tryz.func67, Tryz.ntmps67
          go_wp2_with fail
          refine c1.out.mono ?_
          rintro e w1 ⟨rfl, hw1⟩
          subst w1
          go_wp2_with fail
          refine c2.out.mono ?_
          rintro e w1 ⟨rfl, hw1⟩
          subst w1
          go_wp2_with fail
          refine c3.out.mono ?_
          rintro e w1 ⟨rfl, hw1⟩
          subst w1
          go_wp2
          go_ret
          exact ⟨by rw [HR.out]; rfl, rfl⟩
        · have b1 : (x == (k : Int)) = false := by simpa using e1
          have HR : Hid (r = false) := by
            show r = _
            rw [← hr]
            exact decide_eq_false (fun h => e1 (HW.1 h).2.2.2.1)
          clear HW hr h hp hn hx hy e1 hpt hnt ht cT qf q4
          go_enter Tryz.func67, Tryz.ntmps67
          go_wp2_with fail
          refine c1.out.mono ?_
          rintro e w1 ⟨rfl, hw1⟩
          subst w1
          go_wp2_with fail
          refine c2.out.mono ?_
          rintro e w1 ⟨rfl, hw1⟩
          subst w1
          go_wp2_with fail
          refine c3.out.mono ?_
          rintro e w1 ⟨rfl, hw1⟩
          subst w1
          go_wp2
          go_ret
          exact ⟨by rw [HR.out]; rfl, rfl⟩
      · rw [decide_eq_false hnt] at c3
        have HR : Hid (r = false) := by
          show r = _
          rw [← hr]
          exact decide_eq_false (fun h => hnt (HW.1 h).2.2.1)
        clear HW hr h hp hn hpt hnt ht cT qf
        go_enter Tryz.func67, Tryz.ntmps67
        go_wp2_with fail
        refine c1.out.mono ?_
        rintro e w1 ⟨rfl, hw1⟩
        subst w1
        go_wp2_with fail
        refine c2.out.mono ?_
        rintro e w1 ⟨rfl, hw1⟩
        subst w1
        go_wp2_with fail
        refine c3.out.mono ?_
        rintro e w1 ⟨rfl, hw1⟩
        subst w1
        go_wp2
        go_ret
        exact ⟨by rw [HR.out]; rfl, rfl⟩
    · rw [decide_eq_false hpt] at c2
      have HR : Hid (r = false) := by
        show r = _
        rw [← hr]
        exact decide_eq_false (fun h => hpt (HW.1 h).2.1)
      clear HW hr h hp hn hpt ht cT qf c3
      go_enter Tryz.func67, Tryz.ntmps67
      go_wp2_with fail
      refine c1.out.mono ?_
      rintro e w1 ⟨rfl, hw1⟩
      subst w1
      go_wp2_with fail
      refine c2.out.mono ?_
      rintro e w1 ⟨rfl, hw1⟩
      subst w1
      go_wp2
      go_ret
      exact ⟨by rw [HR.out]; rfl, rfl⟩
  · have c1 := Hid.mk' (cT.out i)
    rw [decide_eq_false ht] at c1
    have HR : Hid (r = false) := by
      show r = _
      rw [← hr]
      exact decide_eq_false (fun h => ht h.1)
    clear hr h ht cT q0
    go_enter Tryz.func67, Tryz.ntmps67
    go_wp2_with fail
    refine c1.out.mono ?_
    rintro e w1 ⟨rfl, hw1⟩
    subst w1
    go_wp2
    go_ret
    exact ⟨by rw [HR.out]; rfl, rfl⟩

set_option maxRecDepth 100000 in
set_option maxHeartbeats 1000000 in
theorem link_ref (base : Nat) (w : World) (g b cap : Nat) (fv : Value) (A : Arn) (i k : Int) (h : RAn base w g (.slice (some ⟨b, 0, none⟩) 32 cap) fv A) (hl : A.sl.length = 32) (hc : 32 ≤ cap ∧ cap ≤ 9223372036854775807) (hi : there i) (hk : there k) :
    Calls Tryz.prog 66 #[ptr g, nu i, nu k] w fun e w' => (∃ u, e = .returned u) ∧ RAn base w' g (.slice (some ⟨b, 0, none⟩) 32 cap) fv ⟨link A.sl i k, A.fr, A.wr⟩ ∧ Keep (fun j => j = b) w w' := by
  obtain ⟨i', rfl⟩ : ∃ i' : Nat, i = (i' : Int) := ⟨i.toNat, by omega⟩
  obtain ⟨k', rfl⟩ : ∃ k' : Nat, k = (k' : Int) := ⟨k.toNat, by omega⟩
  have hi3 : i' < 32 := by omega
  have hk3 : k' < 32 := by omega
  have hiI : (i' : Int) < 32 := by omega
  have hkI : (k' : Int) < 32 := by omega
  have q0 := h.cells.1
  obtain ⟨hc1, hc2⟩ := hc
  obtain ⟨_, q1, qf⟩ := RAn.linkAt h hl i' hi3
  have h1 := RAn.putN h hl i' hi3 k'
  have hl1 : (setN A.sl i' k').length = 32 := by rw [setN_len, hl]
  obtain ⟨q2, _, qf2⟩ := RAn.linkAt h1 hl1 k' hk3
  have q3 := h1.cells.1
  have H2 := Hid.mk' (RAn.putP h1 hl1 k' hk3 i')
  have HK : Hid (Keep (fun j => j = b) w ((w.setCell ⟨b, i' * 17 + 4, none⟩ (nu k')).setCell ⟨b, k' * 17 + 3, none⟩ (nu i'))) := ((Keep.refl (fun j => j = b) w).setCell (p := ⟨b, i' * 17 + 4, none⟩) (.inl rfl) _).setCell (p := ⟨b, k' * 17 + 3, none⟩) (.inl rfl) _
  clear h h1 hl hl1 hi hk
  go_enter Tryz.func66, Tryz.ntmps66
  go_wp2
  go_end0
  exact ⟨⟨_, rfl⟩, H2.out, HK.out⟩
end Rg
end Go.Proofs.YthabnombfbehkaaGreatDoor
/- The document's rings: Push, Drop, Splice. -/
namespace Go.Proofs.YthabnombfbehkaaGreatDoor
set_option linter.ambiguousOpen false
open Go.RowKit
namespace Rg
open An Ft Lv
set_option linter.unusedSimpArgs false
set_option linter.unusedVariables false

set_option maxRecDepth 100000 in
set_option maxHeartbeats 2000000 in
theorem push_ref (base : Nat) (w : World) (g b cap : Nat) (fv : Value) (A : Arn) (last i : Int) (h : RAn base w g (.slice (some ⟨b, 0, none⟩) 32 cap) fv A) (hl : A.sl.length = 32) (hc : 32 ≤ cap ∧ cap ≤ 9223372036854775807) :
    Calls Tryz.prog 42 #[ptr g, nu last, nu i] w fun e w' => e = .returned (.tuple #[nu (push A.sl last i).ans, nun (push A.sl last i).no, nu (push A.sl last i).pl]) ∧ RAn base w' g (.slice (some ⟨b, 0, none⟩) 32 cap) fv ⟨(push A.sl last i).sl, A.fr, A.wr⟩ ∧ Keep (fun j => j = b) w w' := by
  have HA := Hid.mk' h
  have cT : Hid (∀ j, _) := fun j => there_ref j w
  obtain ⟨X, hX⟩ : ∃ X, push A.sl last i = X := ⟨_, rfl⟩
  rw [hX]
  have q0 := h.cells.1
  have hc' := hc
  obtain ⟨hc1, hc2⟩ := hc'
  have c1 := Hid.mk' (cT.out i)
  by_cases ht : there i
  · rw [decide_eq_true ht] at c1
    have c2 := Hid.mk' (cT.out last)
    by_cases hm : last = -1
    · have hx : X = ⟨i, 0, -1, link A.sl i i⟩ := by rw [← hX, push, if_neg (by omega), if_pos hm]
      subst hx
      subst hm
      have c3 := Hid.mk' (link_ref base w g b cap fv A i i h hl hc ht ht)
      clear h hX hl hc ht cT q0 hc1 hc2 c2
      go_enter Tryz.func42, Tryz.ntmps42
      go_wp2_with fail
      refine c1.out.mono ?_
      rintro e w1 ⟨rfl, hw1⟩
      subst w1
      go_wp2_with fail
      refine c3.out.mono ?_
      rintro e w1 ⟨⟨u, rfl⟩, h1, k1⟩
      have H1 := Hid.mk' h1
      have K1 := Hid.mk' k1
      clear h1 k1
      go_wp2
      go_ret3
      exact ⟨rfl, H1.out, K1.out⟩
    · have hmb : (last != -1) = true := by simpa using hm
      have hmc : (last == -1) = false := by simpa using hm
      by_cases hlt : there last
      · rw [decide_eq_true hlt] at c2
        have c3 := Hid.mk' (well_ref base w g b cap fv A last h hl hc)
        by_cases hw : well A.sl last
        · rw [decide_eq_true hw] at c3
          obtain ⟨k, rfl⟩ : ∃ k : Nat, last = (k : Int) := ⟨last.toNat, by omega⟩
          obtain ⟨_, q1, _⟩ := RAn.linkAt h hl k (by omega)
          obtain ⟨f, hf⟩ : ∃ f, nx A.sl k = f := ⟨_, rfl⟩
          rw [hf] at q1
          have hkI : (k : Int) < 32 := by omega
          by_cases e1 : i = (k : Int)
          · have HX : Hid (X = ⟨0, 9, -1, A.sl⟩) := by show X = _; rw [← hX, push, if_neg (by omega), if_neg hm, if_neg (fun e => e hw), if_pos (.inl e1)]
            have b1 : (i == (k : Int)) = true := by simpa using e1
            clear h hX hl hc ht hlt hw cT e1 hf hm
            go_enter Tryz.func42, Tryz.ntmps42
            go_wp2_with fail
            refine c1.out.mono ?_
            rintro e w1 ⟨rfl, hw1⟩
            subst w1
            go_wp2_with fail
            refine c2.out.mono ?_
            rintro e w1 ⟨rfl, hw1⟩
            subst w1
            go_wp2_with fail
            refine c3.out.mono ?_
            rintro e w1 ⟨rfl, hw1⟩
            subst w1
            go_wp2
            go_ret3
            rw [HX.out]
            exact ⟨rfl, HA.out, Keep.refl _ _⟩
          · have b1 : (i == (k : Int)) = false := by simpa using e1
            by_cases e2 : i = f
            · have HX : Hid (X = ⟨0, 9, -1, A.sl⟩) := by show X = _; rw [← hX, push, if_neg (by omega), if_neg hm, if_neg (fun e => e hw), if_pos (.inr (by rw [hf]; exact e2))]
              have b2 : (i == f) = true := by simpa using e2
              clear h hX hl hc ht hlt hw cT e1 e2 hf hm
              go_enter Tryz.func42, Tryz.ntmps42
              go_wp2_with fail
              refine c1.out.mono ?_
              rintro e w1 ⟨rfl, hw1⟩
              subst w1
              go_wp2_with fail
              refine c2.out.mono ?_
              rintro e w1 ⟨rfl, hw1⟩
              subst w1
              go_wp2_with fail
              refine c3.out.mono ?_
              rintro e w1 ⟨rfl, hw1⟩
              subst w1
              go_wp2
              go_ret3
              rw [HX.out]
              exact ⟨rfl, HA.out, Keep.refl _ _⟩
            · have b2 : (i == f) = false := by simpa using e2
              have hx : X = ⟨i, 0, -1, link (link A.sl k i) i f⟩ := by rw [← hX, push, if_neg (by omega), if_neg hm, if_neg (fun e => e hw), if_neg (by rw [hf]; omega), hf]
              subst hx
              have hft : there f := by have := hw.2.2.1; rwa [hf] at this
              have c4 := Hid.mk' (link_ref base w g b cap fv A k i h hl hc hlt ht)
              have c5 : Hid (∀ wx, RAn base wx g (.slice (some ⟨b, 0, none⟩) 32 cap) fv ⟨link A.sl k i, A.fr, A.wr⟩ → _) := fun wx hx => link_ref base wx g b cap fv ⟨link A.sl k i, A.fr, A.wr⟩ i f hx (by rw [link_len, hl]) hc ht hft
              clear h hX hl hc ht hlt hw cT e1 e2 hf hm hft
              go_enter Tryz.func42, Tryz.ntmps42
              go_wp2_with fail
              refine c1.out.mono ?_
              rintro e w1 ⟨rfl, hw1⟩
              subst w1
              go_wp2_with fail
              refine c2.out.mono ?_
              rintro e w1 ⟨rfl, hw1⟩
              subst w1
              go_wp2_with fail
              refine c3.out.mono ?_
              rintro e w1 ⟨rfl, hw1⟩
              subst w1
              go_wp2_with fail
              refine c4.out.mono ?_
              rintro e w1 ⟨⟨u, rfl⟩, h1, k1⟩
              have H1 := Hid.mk' h1
              have K1 := Hid.mk' k1
              clear h1 k1
              go_wp2_with fail
              refine (c5.out _ H1.out).mono ?_
              rintro e w2 ⟨⟨u, rfl⟩, h2, k2⟩
              have H2 := Hid.mk' h2
              have K2 := Hid.mk' (K1.out.trans k2 (fun _ _ e => e))
              clear h2 k2
              go_wp2
              go_ret3
              exact ⟨rfl, H2.out, K2.out⟩
        · rw [decide_eq_false hw] at c3
          have HX : Hid (X = ⟨0, 24, last, A.sl⟩) := by show X = _; rw [← hX, push, if_neg (by omega), if_neg hm, if_pos hw]
          clear h hX hl hc ht hlt hw cT hm q0
          go_enter Tryz.func42, Tryz.ntmps42
          go_wp2_with fail
          refine c1.out.mono ?_
          rintro e w1 ⟨rfl, hw1⟩
          subst w1
          go_wp2_with fail
          refine c2.out.mono ?_
          rintro e w1 ⟨rfl, hw1⟩
          subst w1
          go_wp2_with fail
          refine c3.out.mono ?_
          rintro e w1 ⟨rfl, hw1⟩
          subst w1
          go_wp2
          go_ret3
          rw [HX.out]
          exact ⟨rfl, HA.out, Keep.refl _ _⟩
      · rw [decide_eq_false hlt] at c2
        have HX : Hid (X = ⟨0, 1, -1, A.sl⟩) := by show X = _; rw [← hX, push, if_pos (.inr ⟨hm, hlt⟩)]
        clear h hX hl hc ht hlt cT hm q0
        go_enter Tryz.func42, Tryz.ntmps42
        go_wp2_with fail
        refine c1.out.mono ?_
        rintro e w1 ⟨rfl, hw1⟩
        subst w1
        go_wp2_with fail
        refine c2.out.mono ?_
        rintro e w1 ⟨rfl, hw1⟩
        subst w1
        go_wp2
        go_ret3
        rw [HX.out]
        exact ⟨rfl, HA.out, Keep.refl _ _⟩
  · rw [decide_eq_false ht] at c1
    have HX : Hid (X = ⟨0, 1, -1, A.sl⟩) := by show X = _; rw [← hX, push, if_pos (.inl ht)]
    clear h hX hl hc ht cT q0
    go_enter Tryz.func42, Tryz.ntmps42
    go_wp2_with fail
    refine c1.out.mono ?_
    rintro e w1 ⟨rfl, hw1⟩
    subst w1
    go_wp2
    go_ret3
    rw [HX.out]
    exact ⟨rfl, HA.out, Keep.refl _ _⟩

set_option maxRecDepth 100000 in
set_option maxHeartbeats 2000000 in
theorem drop_ref (base : Nat) (w : World) (g b cap : Nat) (fv : Value) (A : Arn) (last i : Int) (h : RAn base w g (.slice (some ⟨b, 0, none⟩) 32 cap) fv A) (hl : A.sl.length = 32) (hc : 32 ≤ cap ∧ cap ≤ 9223372036854775807) :
    Calls Tryz.prog 47 #[ptr g, nu last, nu i] w fun e w' => e = .returned (.tuple #[nu (drop A.sl last i).ans, nun (drop A.sl last i).no, nu (drop A.sl last i).pl]) ∧ RAn base w' g (.slice (some ⟨b, 0, none⟩) 32 cap) fv ⟨(drop A.sl last i).sl, A.fr, A.wr⟩ ∧ Keep (fun j => j = b) w w' := by
  have HA := Hid.mk' h
  have cT : Hid (∀ j, _) := fun j => there_ref j w
  obtain ⟨X, hX⟩ : ∃ X, drop A.sl last i = X := ⟨_, rfl⟩
  rw [hX]
  have q0 := h.cells.1
  have hc' := hc
  obtain ⟨hc1, hc2⟩ := hc'
  have c1 := Hid.mk' (cT.out i)
  by_cases ht : there i
  · rw [decide_eq_true ht] at c1
    have c2 := Hid.mk' (cT.out last)
    by_cases hlt : there last
    · rw [decide_eq_true hlt] at c2
      have c3 := Hid.mk' (well_ref base w g b cap fv A i h hl hc)
      by_cases hw : well A.sl i
      · rw [decide_eq_true hw] at c3
        obtain ⟨k, rfl⟩ : ∃ k : Nat, i = (k : Int) := ⟨i.toNat, by omega⟩
        obtain ⟨q1, q2, _⟩ := RAn.linkAt h hl k (by omega)
        obtain ⟨p, hp⟩ : ∃ p, pv A.sl k = p := ⟨_, rfl⟩
        obtain ⟨n, hn⟩ : ∃ n, nx A.sl k = n := ⟨_, rfl⟩
        rw [hp] at q1
        rw [hn] at q2
        have hkI : (k : Int) < 32 := by omega
        have hpt : there p := by have := hw.2.1; rwa [hp] at this
        have hnt : there n := by have := hw.2.2.1; rwa [hn] at this
        have c4 := Hid.mk' (link_ref base w g b cap fv A p n h hl hc hpt hnt)
        have hl4 : (link A.sl p n).length = 32 := by rw [link_len, hl]
        have hl5 : (setP (link A.sl p n) k (-1)).length = 32 := by rw [setP_len, hl4]
        have C5 : Hid (∀ wx, RAn base wx g (.slice (some ⟨b, 0, none⟩) 32 cap) fv ⟨link A.sl p n, A.fr, A.wr⟩ → wx.cell? ⟨g, 0, none⟩ = some (.slice (some ⟨b, 0, none⟩) 32 cap) ∧ wx.cell? ⟨b, k * 17 + 3, none⟩ = some (nu (pv (link A.sl p n) k)) ∧ (wx.setCell ⟨b, k * 17 + 3, none⟩ (nu (-1))).cell? ⟨g, 0, none⟩ = some (.slice (some ⟨b, 0, none⟩) 32 cap) ∧ (wx.setCell ⟨b, k * 17 + 3, none⟩ (nu (-1))).cell? ⟨b, k * 17 + 4, none⟩ = some (nu (nx (setP (link A.sl p n) k (-1)) k)) ∧ (∀ i, wx.frozen? ⟨b, i, none⟩ = false) ∧ (∀ i, (wx.setCell ⟨b, k * 17 + 3, none⟩ (nu (-1))).frozen? ⟨b, i, none⟩ = false) ∧ RAn base ((wx.setCell ⟨b, k * 17 + 3, none⟩ (nu (-1))).setCell ⟨b, k * 17 + 4, none⟩ (nu (-1))) g (.slice (some ⟨b, 0, none⟩) 32 cap) fv ⟨setN (setP (link A.sl p n) k (-1)) k (-1), A.fr, A.wr⟩) := fun wx hx => by
          have h1 := RAn.putP hx hl4 k (by omega) (-1)
          obtain ⟨y1, _, y2⟩ := RAn.linkAt hx hl4 k (by omega)
          obtain ⟨_, y3, y4⟩ := RAn.linkAt h1 hl5 k (by omega)
          exact ⟨hx.cells.1, y1, h1.cells.1, y3, y2, y4, RAn.putN h1 hl5 k (by omega) (-1)⟩
        obtain ⟨aa, haa⟩ : ∃ aa : Int, (if (k : Int) ≠ last then last else if p = k then -1 else p) = aa := ⟨_, rfl⟩
        have hx : X = ⟨aa, 0, -1, setN (setP (link A.sl p n) k (-1)) k (-1)⟩ := by rw [← hX, drop, if_neg (by omega), if_neg (fun e => e hw), hp, hn, haa]
        subst hx
        have hdone : Hid (∀ aa' : Int, aa' = aa → ∀ wx, RAn base wx g (.slice (some ⟨b, 0, none⟩) 32 cap) fv ⟨setN (setP (link A.sl p n) k (-1)) k (-1), A.fr, A.wr⟩ → Keep (fun j => j = b) w wx → Ending.returned (.tuple #[nu aa', nu 0, nu (-1)]) = Ending.returned (.tuple #[nu aa, nun 0, nu (-1)]) ∧ RAn base wx g (.slice (some ⟨b, 0, none⟩) 32 cap) fv ⟨setN (setP (link A.sl p n) k (-1)) k (-1), A.fr, A.wr⟩ ∧ Keep (fun j => j = b) w wx) := fun aa' e wx h1 h2 => ⟨by rw [e]; rfl, h1, h2⟩
        have HAA := Hid.mk' haa
        clear h hX hl hc hw cT hp hn haa hl4 hl5 hpt hnt
        by_cases e1 : (k : Int) = last
        · have b1 : ((k : Int) != last) = false := by simpa using e1
          by_cases e2 : p = (k : Int)
          · have b2 : (p == (k : Int)) = true := by simpa using e2
            have HV : Hid ((-1 : Int) = aa) := by show _ = _; rw [← HAA.out, if_neg (by omega), if_pos e2]
            clear e1 e2 hlt ht
            clear HA
            go_enter Tryz.func47, Tryz.ntmps47
            go_wp2_with fail
            refine c1.out.mono ?_
            rintro e w1 ⟨rfl, hw1⟩
            subst w1
            go_wp2_with fail
            refine c2.out.mono ?_
            rintro e w1 ⟨rfl, hw1⟩
            subst w1
            go_wp2_with fail
            refine c3.out.mono ?_
            rintro e w1 ⟨rfl, hw1⟩
            subst w1
            go_wp2_with fail
            refine c4.out.mono ?_
            rintro e w1 ⟨⟨u, rfl⟩, h1, k1⟩
            obtain ⟨z0, z1, z2, z3, z4, z5, z6⟩ := C5.out w1 h1
            have H6 := Hid.mk' z6
            have K6 : Hid (Keep (fun j => j = b) w ((w1.setCell ⟨b, k * 17 + 3, none⟩ (nu (-1))).setCell ⟨b, k * 17 + 4, none⟩ (nu (-1)))) := (k1.setCell (p := ⟨b, k * 17 + 3, none⟩) (.inl rfl) _).setCell (p := ⟨b, k * 17 + 4, none⟩) (.inl rfl) _
            clear h1 k1 z6 C5 q0 q1 q2
            go_wp2
            go_ret3
            exact hdone.out _ HV.out _ H6.out K6.out
          · have b2 : (p == (k : Int)) = false := by simpa using e2
            have HV : Hid (p = aa) := by show _ = _; rw [← HAA.out, if_neg (by omega), if_neg e2]
            clear e1 e2 hlt ht
            clear HA
            go_enter Tryz.func47, Tryz.ntmps47
            go_wp2_with fail
            refine c1.out.mono ?_
            rintro e w1 ⟨rfl, hw1⟩
            subst w1
            go_wp2_with fail
            refine c2.out.mono ?_
            rintro e w1 ⟨rfl, hw1⟩
            subst w1
            go_wp2_with fail
            refine c3.out.mono ?_
            rintro e w1 ⟨rfl, hw1⟩
            subst w1
            go_wp2_with fail
            refine c4.out.mono ?_
            rintro e w1 ⟨⟨u, rfl⟩, h1, k1⟩
            obtain ⟨z0, z1, z2, z3, z4, z5, z6⟩ := C5.out w1 h1
            have H6 := Hid.mk' z6
            have K6 : Hid (Keep (fun j => j = b) w ((w1.setCell ⟨b, k * 17 + 3, none⟩ (nu (-1))).setCell ⟨b, k * 17 + 4, none⟩ (nu (-1)))) := (k1.setCell (p := ⟨b, k * 17 + 3, none⟩) (.inl rfl) _).setCell (p := ⟨b, k * 17 + 4, none⟩) (.inl rfl) _
            clear h1 k1 z6 C5 q0 q1 q2
            go_wp2
            go_ret3
            exact hdone.out _ HV.out _ H6.out K6.out
        · have b1 : ((k : Int) != last) = true := by simpa using e1
          have HV : Hid (last = aa) := by show _ = _; rw [← HAA.out, if_pos e1]
          clear e1 hlt ht
          clear HA
          go_enter Tryz.func47, Tryz.ntmps47
          go_wp2_with fail
          refine c1.out.mono ?_
          rintro e w1 ⟨rfl, hw1⟩
          subst w1
          go_wp2_with fail
          refine c2.out.mono ?_
          rintro e w1 ⟨rfl, hw1⟩
          subst w1
          go_wp2_with fail
          refine c3.out.mono ?_
          rintro e w1 ⟨rfl, hw1⟩
          subst w1
          go_wp2_with fail
          refine c4.out.mono ?_
          rintro e w1 ⟨⟨u, rfl⟩, h1, k1⟩
          obtain ⟨z0, z1, z2, z3, z4, z5, z6⟩ := C5.out w1 h1
          have H6 := Hid.mk' z6
          have K6 : Hid (Keep (fun j => j = b) w ((w1.setCell ⟨b, k * 17 + 3, none⟩ (nu (-1))).setCell ⟨b, k * 17 + 4, none⟩ (nu (-1)))) := (k1.setCell (p := ⟨b, k * 17 + 3, none⟩) (.inl rfl) _).setCell (p := ⟨b, k * 17 + 4, none⟩) (.inl rfl) _
          clear h1 k1 z6 C5 q0 q1 q2
          go_wp2
          go_ret3
          exact hdone.out _ HV.out _ H6.out K6.out
      · rw [decide_eq_false hw] at c3
        have HX : Hid (X = ⟨0, 24, i, A.sl⟩) := by show X = _; rw [← hX, drop, if_neg (by omega), if_pos hw]
        clear h hX hl hc ht hlt hw cT q0
        go_enter Tryz.func47, Tryz.ntmps47
        go_wp2_with fail
        refine c1.out.mono ?_
        rintro e w1 ⟨rfl, hw1⟩
        subst w1
        go_wp2_with fail
        refine c2.out.mono ?_
        rintro e w1 ⟨rfl, hw1⟩
        subst w1
        go_wp2_with fail
        refine c3.out.mono ?_
        rintro e w1 ⟨rfl, hw1⟩
        subst w1
        go_wp2
        go_ret3
        rw [HX.out]
        exact ⟨rfl, HA.out, Keep.refl _ _⟩
    · rw [decide_eq_false hlt] at c2
      have HX : Hid (X = ⟨0, 1, -1, A.sl⟩) := by show X = _; rw [← hX, drop, if_pos (.inr hlt)]
      clear h hX hl hc ht hlt cT q0
      go_enter Tryz.func47, Tryz.ntmps47
      go_wp2_with fail
      refine c1.out.mono ?_
      rintro e w1 ⟨rfl, hw1⟩
      subst w1
      go_wp2_with fail
      refine c2.out.mono ?_
      rintro e w1 ⟨rfl, hw1⟩
      subst w1
      go_wp2
      go_ret3
      rw [HX.out]
      exact ⟨rfl, HA.out, Keep.refl _ _⟩
  · rw [decide_eq_false ht] at c1
    have HX : Hid (X = ⟨0, 1, -1, A.sl⟩) := by show X = _; rw [← hX, drop, if_pos (.inl ht)]
    clear h hX hl hc ht cT q0
    go_enter Tryz.func47, Tryz.ntmps47
    go_wp2_with fail
    refine c1.out.mono ?_
    rintro e w1 ⟨rfl, hw1⟩
    subst w1
    go_wp2
    go_ret3
    rw [HX.out]
    exact ⟨rfl, HA.out, Keep.refl _ _⟩

set_option maxRecDepth 100000 in
set_option maxHeartbeats 2000000 in
theorem splice_ref (base : Nat) (w : World) (g b cap : Nat) (fv : Value) (A : Arn) (one two : Int) (h : RAn base w g (.slice (some ⟨b, 0, none⟩) 32 cap) fv A) (hl : A.sl.length = 32) (hc : 32 ≤ cap ∧ cap ≤ 9223372036854775807) :
    Calls Tryz.prog 46 #[ptr g, nu one, nu two] w fun e w' => e = .returned (.tuple #[nu (splice A.sl one two).ans, nun (splice A.sl one two).no, nu (splice A.sl one two).pl]) ∧ RAn base w' g (.slice (some ⟨b, 0, none⟩) 32 cap) fv ⟨(splice A.sl one two).sl, A.fr, A.wr⟩ ∧ Keep (fun j => j = b) w w' := by
  have HA := Hid.mk' h
  have cT : Hid (∀ j, _) := fun j => there_ref j w
  obtain ⟨X, hX⟩ : ∃ X, splice A.sl one two = X := ⟨_, rfl⟩
  rw [hX]
  have q0 := h.cells.1
  have hc' := hc
  obtain ⟨hc1, hc2⟩ := hc'
  have c1 := Hid.mk' (cT.out one)
  have c2 := Hid.mk' (cT.out two)
  by_cases h1 : one = -1
  · have b1 : (one != -1) = false := by simpa using h1
    have d1 : (one == -1) = true := by simpa using h1
    by_cases h2 : two = -1
    · have b2 : (two != -1) = false := by simpa using h2
      have d2 : (two == -1) = true := by simpa using h2
      have HX : Hid (X = ⟨two, 0, -1, A.sl⟩) := by show X = _; rw [← hX, splice, if_neg (by omega), if_pos h1]
      clear h hX hl hc cT q0 h1 h2 c1 c2
      go_enter Tryz.func46, Tryz.ntmps46
      go_wp2
      go_ret3
      rw [HX.out]
      exact ⟨rfl, HA.out, Keep.refl _ _⟩
    · have b2 : (two != -1) = true := by simpa using h2
      by_cases ht : there two
      · rw [decide_eq_true ht] at c2
        have HX : Hid (X = ⟨two, 0, -1, A.sl⟩) := by show X = _; rw [← hX, splice, if_neg (by omega), if_pos h1]
        clear h hX hl hc cT q0 h1 h2 c1 ht
        go_enter Tryz.func46, Tryz.ntmps46
        go_wp2_with fail
        refine c2.out.mono ?_
        rintro e w1 ⟨rfl, hw1⟩
        subst w1
        go_wp2
        go_ret3
        rw [HX.out]
        exact ⟨rfl, HA.out, Keep.refl _ _⟩
      · rw [decide_eq_false ht] at c2
        have HX : Hid (X = ⟨0, 1, -1, A.sl⟩) := by show X = _; rw [← hX, splice, if_pos (.inr ⟨h2, ht⟩)]
        clear h hX hl hc cT q0 h1 h2 c1 ht
        go_enter Tryz.func46, Tryz.ntmps46
        go_wp2_with fail
        refine c2.out.mono ?_
        rintro e w1 ⟨rfl, hw1⟩
        subst w1
        go_wp2
        go_ret3
        rw [HX.out]
        exact ⟨rfl, HA.out, Keep.refl _ _⟩
  · have b1 : (one != -1) = true := by simpa using h1
    have d1 : (one == -1) = false := by simpa using h1
    by_cases ho : there one
    · rw [decide_eq_true ho] at c1
      by_cases h2 : two = -1
      · have b2 : (two != -1) = false := by simpa using h2
        have d2 : (two == -1) = true := by simpa using h2
        have HX : Hid (X = ⟨one, 0, -1, A.sl⟩) := by show X = _; rw [← hX, splice, if_neg (by omega), if_neg h1, if_pos h2]
        clear h hX hl hc cT q0 h1 h2 c2 ho
        go_enter Tryz.func46, Tryz.ntmps46
        go_wp2_with fail
        refine c1.out.mono ?_
        rintro e w1 ⟨rfl, hw1⟩
        subst w1
        go_wp2
        go_ret3
        rw [HX.out]
        exact ⟨rfl, HA.out, Keep.refl _ _⟩
      · have b2 : (two != -1) = true := by simpa using h2
        have d2 : (two == -1) = false := by simpa using h2
        by_cases ht : there two
        · rw [decide_eq_true ht] at c2
          have hn : ¬ ((one ≠ -1 ∧ ¬ there one) ∨ (two ≠ -1 ∧ ¬ there two)) := fun e => e.elim (fun e => e.2 ho) (fun e => e.2 ht)
          by_cases he : one = two
          · have d3 : (one == two) = true := by simpa using he
            have HX : Hid (X = ⟨0, 9, -1, A.sl⟩) := by show X = _; rw [← hX, splice, if_neg hn, if_neg h1, if_neg h2, if_pos he]
            clear h hX hl hc cT q0 h1 h2 ho ht hn he
            go_enter Tryz.func46, Tryz.ntmps46
            go_wp2_with fail
            refine c1.out.mono ?_
            rintro e w1 ⟨rfl, hw1⟩
            subst w1
            go_wp2_with fail
            refine c2.out.mono ?_
            rintro e w1 ⟨rfl, hw1⟩
            subst w1
            go_wp2
            go_ret3
            rw [HX.out]
            exact ⟨rfl, HA.out, Keep.refl _ _⟩
          · have d3 : (one == two) = false := by simpa using he
            have c3 := Hid.mk' (well_ref base w g b cap fv A one h hl hc)
            have c4 := Hid.mk' (well_ref base w g b cap fv A two h hl hc)
            by_cases w1 : well A.sl one
            · rw [decide_eq_true w1] at c3
              by_cases w2 : well A.sl two
              · rw [decide_eq_true w2] at c4
                obtain ⟨k, rfl⟩ : ∃ k : Nat, one = (k : Int) := ⟨one.toNat, by omega⟩
                obtain ⟨m, rfl⟩ : ∃ m : Nat, two = (m : Int) := ⟨two.toNat, by omega⟩
                obtain ⟨_, q1, _⟩ := RAn.linkAt h hl k (by omega)
                obtain ⟨_, q2, _⟩ := RAn.linkAt h hl m (by omega)
                obtain ⟨f, hf⟩ : ∃ f, nx A.sl k = f := ⟨_, rfl⟩
                obtain ⟨s, hs⟩ : ∃ s, nx A.sl m = s := ⟨_, rfl⟩
                rw [hf] at q1
                rw [hs] at q2
                have hkI : (k : Int) < 32 := by omega
                have hmI : (m : Int) < 32 := by omega
                have hft : there f := by have := w1.2.2.1; rwa [hf] at this
                have hst : there s := by have := w2.2.2.1; rwa [hs] at this
                have hx : X = ⟨m, 0, -1, link (link A.sl k s) m f⟩ := by rw [← hX, splice, if_neg hn, if_neg h1, if_neg h2, if_neg he, if_neg (fun e => e w1), if_neg (fun e => e w2), hf, hs]
                subst hx
                have c5 := Hid.mk' (link_ref base w g b cap fv A k s h hl hc ho hst)
                have c6 : Hid (∀ wx, RAn base wx g (.slice (some ⟨b, 0, none⟩) 32 cap) fv ⟨link A.sl k s, A.fr, A.wr⟩ → _) := fun wx hx => link_ref base wx g b cap fv ⟨link A.sl k s, A.fr, A.wr⟩ m f hx (by rw [link_len, hl]) hc ht hft
                clear h hX hl hc cT h1 h2 ho ht hn he w1 w2 hf hs hft hst
                go_enter Tryz.func46, Tryz.ntmps46
                go_wp2_with fail
                refine c1.out.mono ?_
                rintro e w1 ⟨rfl, hw1⟩
                subst w1
                go_wp2_with fail
                refine c2.out.mono ?_
                rintro e w1 ⟨rfl, hw1⟩
                subst w1
                go_wp2_with fail
                refine c3.out.mono ?_
                rintro e w1 ⟨rfl, hw1⟩
                subst w1
                go_wp2_with fail
                refine c4.out.mono ?_
                rintro e w1 ⟨rfl, hw1⟩
                subst w1
                go_wp2_with fail
                refine c5.out.mono ?_
                rintro e w1 ⟨⟨u, rfl⟩, h1, k1⟩
                have H1 := Hid.mk' h1
                have K1 := Hid.mk' k1
                clear h1 k1
                go_wp2_with fail
                refine (c6.out _ H1.out).mono ?_
                rintro e w2 ⟨⟨u, rfl⟩, h2, k2⟩
                have H2 := Hid.mk' h2
                have K2 := Hid.mk' (K1.out.trans k2 (fun _ _ e => e))
                clear h2 k2
                go_wp2
                go_ret3
                exact ⟨rfl, H2.out, K2.out⟩
              · rw [decide_eq_false w2] at c4
                have HX : Hid (X = ⟨0, 24, two, A.sl⟩) := by show X = _; rw [← hX, splice, if_neg hn, if_neg h1, if_neg h2, if_neg he, if_neg (fun e => e w1), if_pos w2]
                clear h hX hl hc cT q0 h1 h2 ho ht hn he w1 w2
                go_enter Tryz.func46, Tryz.ntmps46
                go_wp2_with fail
                refine c1.out.mono ?_
                rintro e w1 ⟨rfl, hw1⟩
                subst w1
                go_wp2_with fail
                refine c2.out.mono ?_
                rintro e w1 ⟨rfl, hw1⟩
                subst w1
                go_wp2_with fail
                refine c3.out.mono ?_
                rintro e w1 ⟨rfl, hw1⟩
                subst w1
                go_wp2_with fail
                refine c4.out.mono ?_
                rintro e w1 ⟨rfl, hw1⟩
                subst w1
                go_wp2
                go_ret3
                rw [HX.out]
                exact ⟨rfl, HA.out, Keep.refl _ _⟩
            · rw [decide_eq_false w1] at c3
              have HX : Hid (X = ⟨0, 24, one, A.sl⟩) := by show X = _; rw [← hX, splice, if_neg hn, if_neg h1, if_neg h2, if_neg he, if_pos w1]
              clear h hX hl hc cT q0 h1 h2 ho ht hn he w1 c4
              go_enter Tryz.func46, Tryz.ntmps46
              go_wp2_with fail
              refine c1.out.mono ?_
              rintro e w1 ⟨rfl, hw1⟩
              subst w1
              go_wp2_with fail
              refine c2.out.mono ?_
              rintro e w1 ⟨rfl, hw1⟩
              subst w1
              go_wp2_with fail
              refine c3.out.mono ?_
              rintro e w1 ⟨rfl, hw1⟩
              subst w1
              go_wp2
              go_ret3
              rw [HX.out]
              exact ⟨rfl, HA.out, Keep.refl _ _⟩
        · rw [decide_eq_false ht] at c2
          have HX : Hid (X = ⟨0, 1, -1, A.sl⟩) := by show X = _; rw [← hX, splice, if_pos (.inr ⟨h2, ht⟩)]
          clear h hX hl hc cT q0 h1 h2 ho ht
          go_enter Tryz.func46, Tryz.ntmps46
          go_wp2_with fail
          refine c1.out.mono ?_
          rintro e w1 ⟨rfl, hw1⟩
          subst w1
          go_wp2_with fail
          refine c2.out.mono ?_
          rintro e w1 ⟨rfl, hw1⟩
          subst w1
          go_wp2
          go_ret3
          rw [HX.out]
          exact ⟨rfl, HA.out, Keep.refl _ _⟩
    · rw [decide_eq_false ho] at c1
      have HX : Hid (X = ⟨0, 1, -1, A.sl⟩) := by show X = _; rw [← hX, splice, if_pos (.inl ⟨h1, ho⟩)]
      clear h hX hl hc cT q0 h1 ho c2
      go_enter Tryz.func46, Tryz.ntmps46
      go_wp2_with fail
      refine c1.out.mono ?_
      rintro e w1 ⟨rfl, hw1⟩
      subst w1
      go_wp2
      go_ret3
      rw [HX.out]
      exact ⟨rfl, HA.out, Keep.refl _ _⟩
end Rg
end Go.Proofs.YthabnombfbehkaaGreatDoor
/- The document's rings: All; its calls over an arena. -/
namespace Go.Proofs.YthabnombfbehkaaGreatDoor
set_option linter.ambiguousOpen false
open Go.RowKit
namespace Rg
open An Ft Lv
set_option linter.unusedSimpArgs false
set_option linter.unusedVariables false

theorem goes_no (S : List Slt) (last i : Int) (f : Nat) (h : ¬ there i) : goes S last f i = [] := by
  cases f with
  | zero => rfl
  | succ f => unfold goes; rw [if_neg h]

theorem goes_last (S : List Slt) (last i : Int) (f : Nat) (h : there i) (he : i = last) : goes S last (f + 1) i = [i.toNat] := by
  unfold goes
  rw [if_pos h, if_pos he]

theorem goes_more (S : List Slt) (last i : Int) (f : Nat) (h : there i) (he : i ≠ last) : goes S last (f + 1) i = i.toNat :: goes S last f (nx S i) := by
  conv => lhs; unfold goes
  rw [if_pos h, if_neg he]

set_option maxRecDepth 100000 in
set_option maxHeartbeats 2000000 in
theorem all_ref (base : Nat) (w : World) (g b cap : Nat) (fv : Value) (A : Arn) (last : Int) (h : RAn base w g (.slice (some ⟨b, 0, none⟩) 32 cap) fv A) (hl : A.sl.length = 32) (hc : 32 ≤ cap ∧ cap ≤ 9223372036854775807) :
    Calls Tryz.prog 35 #[ptr g, nu last] w fun e w' => ∃ v, e = .returned v ∧ w'.ownsRow w.heap.size 3 1 v (allL A.sl last).length ((allL A.sl last).map nun) ∧ Below w.heap.size w w' := by
  obtain ⟨i0, ji, hz0, hz1, hz2⟩ := info_parts info_int
  have HA := Hid.mk' h
  have cT : Hid (∀ j wx, _) := fun j wx => there_ref j wx
  obtain ⟨L, hL⟩ : ∃ L, allL A.sl last = L := ⟨_, rfl⟩
  rw [hL]
  obtain ⟨hc1, hc2⟩ := hc
  have c1 := Hid.mk' (cT.out last w)
  by_cases ht : there last
  · rw [decide_eq_true ht] at c1
    have hL' : L = goes A.sl last 32 (nx A.sl last) := by rw [← hL, allL, if_pos ht]
    obtain ⟨k0, rfl⟩ : ∃ k0 : Nat, last = (k0 : Int) := ⟨last.toNat, by omega⟩
    have q0 := h.cells.1
    obtain ⟨_, q1, _⟩ := RAn.linkAt h hl k0 (by omega)
    obtain ⟨f0, hf0⟩ : ∃ f0, nx A.sl k0 = f0 := ⟨_, rfl⟩
    rw [hf0] at q1 hL'
    have HL' := Hid.mk' hL'
    have hkI : (k0 : Int) < 32 := by omega
    have HR : Hid (∀ wx, Below w.heap.size w wx → wx.cell? ⟨g, 0, none⟩ = some (.slice (some ⟨b, 0, none⟩) 32 cap) ∧ ∀ j : Nat, j < 32 → wx.cell? ⟨b, j * 17 + 4, none⟩ = some (nu (nx A.sl j))) := fun wx hb => by
      have hx := HA.out.below hb
      exact ⟨hx.cells.1, fun j hj => (RAn.linkAt hx hl j hj).2.1⟩
    clear h hl hL hL' ht hf0
    go_enter Tryz.func35, Tryz.ntmps35
    go_wp2_with fail
    refine c1.out.mono ?_
    rintro e w1 ⟨rfl, hw1⟩
    subst w1
    go_wp2_with fail
    clear q0 q1 c1
    go_loopw [5, 6, 7] (fun lv iv kv wr => ∃ (pre : List Nat) (i : Int) (k : Nat) (a : Option Addr) (c : Nat), k ≤ 32 ∧ lv = .slice a k c ∧ iv = nu i ∧ kv = nun k ∧ Hid (pre.length = k) ∧ Hid (L = pre ++ goes A.sl k0 (32 - k) i) ∧ Hid (wr.ownsRow w.heap.size 3 1 (.slice a k c) k (pre.map nun)) ∧ Hid (Below w.heap.size w wr)) (fun _ _ kv _ => 32 - (intOf kv).toNat)
    case atStart => exact ⟨[], f0, 0, none, 0, by omega, rfl, rfl, rfl, rfl, HL', World.ownsRow_nil _ _ _ _, Below.refl _ _⟩
    case round =>
      obtain ⟨pre, i, k, a, c, hk, rfl, rfl, rfl, HP, HG, HO, HB⟩ := hrel
      by_cases hlt : k < 32
      · have hkI2 : (k : Int) < 32 := by omega
        have c2 := Hid.mk' (cT.out i wr)
        by_cases hit : there i
        · rw [decide_eq_true hit] at c2
          obtain ⟨j, rfl⟩ : ∃ j : Nat, i = (j : Int) := ⟨i.toNat, by omega⟩
          have hj3 : j < 32 := by omega
          have hjI : (j : Int) < 32 := by omega
          have HO1 : Hid ((wr.alloc (.cells #[nun j] 3)).ownsRow w.heap.size 3 1 (.slice a k c) k (pre.map nun)) := HO.out.alloc _
          have HB1 : Hid (Below w.heap.size w (wr.alloc (.cells #[nun j] 3))) := HB.out.alloc HB.out.size _
          by_cases he : (j : Int) = k0
          · have hb : ((j : Int) == (k0 : Int)) = true := by simpa using he
            have HL2 : Hid (L = pre ++ [j]) := by
              show _ = _
              rw [HG.out, show 32 - k = (31 - k) + 1 by omega, goes_last A.sl k0 j _ hit he, Int.toNat_natCast]
            clear he hit HG HO
            go_wp2_with (first | (go_at_call 41; refine c2.out.mono ?_; rintro e w2 ⟨rfl, hw2⟩; subst w2) | (at_builtin; refine Nm.wpList_append_keep _ rfl _ _ 55 rfl w.heap.size 3 i0 (.int .i64 0) 1 8 Tryz.underlying55 ji hz0 hz1 hz2 rfl (by decide) _ k _ rfl HO1.out ⟨wr.heap.size, 0, none⟩ 1 1 [nun j] rfl rfl (cell_one_new _ _ _) (by simp [Value.oneCell']) (by unfold maxLen; omega) (by omega) HB1.out.size (by decide) ?_; intro v4 w4 hg4; obtain ⟨ho4, hgr4, _, _⟩ := hg4; obtain ⟨a4, c4, rfl, _⟩ := Nm.own_shape ho4; have HO4 := Hid.mk' ho4; have HB4 : Hid (Below w.heap.size w w4) := (HB1.out.grown hgr4 HB1.out.size (fun r e => (HO1.out.lt r e).1)); clear ho4 hgr4) | fail)
            go_ret
            refine ⟨_, rfl, ?_, HB4.out⟩
            have := HO4.out
            rw [HL2.out, List.length_append, HP.out, List.map_append]
            exact this
          · have hb : ((j : Int) == (k0 : Int)) = false := by simpa using he
            have HL2 : Hid (L = (pre ++ [j]) ++ goes A.sl k0 (32 - (k + 1)) (nx A.sl j)) := by
              show _ = _
              rw [HG.out, show 32 - k = (32 - (k + 1)) + 1 by omega, goes_more A.sl k0 j _ hit he, Int.toNat_natCast, List.append_assoc]
              rfl
            have HP2 : Hid ((pre ++ [j]).length = k + 1) := by show _ = _; rw [List.length_append, HP.out]; rfl
            clear he hit HG HO
            go_wp2_with (first | (go_at_call 41; refine c2.out.mono ?_; rintro e w2 ⟨rfl, hw2⟩; subst w2) | (at_builtin; refine Nm.wpList_append_keep _ rfl _ _ 55 rfl w.heap.size 3 i0 (.int .i64 0) 1 8 Tryz.underlying55 ji hz0 hz1 hz2 rfl (by decide) _ k _ rfl HO1.out ⟨wr.heap.size, 0, none⟩ 1 1 [nun j] rfl rfl (cell_one_new _ _ _) (by simp [Value.oneCell']) (by unfold maxLen; omega) (by omega) HB1.out.size (by decide) ?_; intro v4 w4 hg4; obtain ⟨ho4, hgr4, _, _⟩ := hg4; obtain ⟨a4, c4, rfl, _⟩ := Nm.own_shape ho4; have HO4 := Hid.mk' ho4; have HB4 : Hid (Below w.heap.size w w4) := (HB1.out.grown hgr4 HB1.out.size (fun r e => (HO1.out.lt r e).1)); have z0 := (HR.out w4 HB4.out).1; have z1 := (HR.out w4 HB4.out).2 j hj3; clear ho4 hgr4) | fail)
            go_roundw
            case rel => exact ⟨pre ++ [j], nx A.sl j, k + 1, a4, c4, by omega, rfl, rfl, by go_num, HP2, HL2, by rw [List.map_append]; exact HO4, HB4⟩
            case measure => simp [intOf]; omega
        · rw [decide_eq_false hit] at c2
          have HL2 : Hid (L = pre) := by
            show _ = _
            rw [HG.out, goes_no A.sl k0 i _ hit, List.append_nil]
          clear hit HG
          go_wp2_with (first | (go_at_call 41; refine c2.out.mono ?_; rintro e w2 ⟨rfl, hw2⟩; subst w2) | fail)
          go_ret
          refine ⟨_, rfl, ?_, HB.out⟩
          rw [HL2.out, HP.out]
          exact HO.out
      · obtain rfl : k = 32 := by omega
        have HL2 : Hid (L = pre) := by
          show _ = _
          rw [HG.out]
          simp [goes]
        clear HG
        go_wp2
        go_ret
        refine ⟨_, rfl, ?_, HB.out⟩
        rw [HL2.out, HP.out]
        exact HO.out
  · rw [decide_eq_false ht] at c1
    have hL' : Hid (L = []) := by show _ = _; rw [← hL, allL, if_neg ht]
    clear h hl hL ht
    go_enter Tryz.func35, Tryz.ntmps35
    go_wp2_with fail
    refine c1.out.mono ?_
    rintro e w1 ⟨rfl, hw1⟩
    subst w1
    go_wp2
    go_ret
    refine ⟨_, rfl, ?_, Below.refl _ _⟩
    rw [hL'.out]
    exact World.ownsRow_nil _ _ _ _

/-- The shape of an arena of the document's. -/
theorem RepA.open {base : Nat} {w : World} {g : Nat} {F : Nat → Prop} {A : Arn} (h : RepA base w g F A) (hl : A.sl.length = 32) : ∃ b cap fv, RAn base w g (.slice (some ⟨b, 0, none⟩) 32 cap) fv A ∧ (32 ≤ cap ∧ cap ≤ 9223372036854775807) ∧ F = rfp g (.slice (some ⟨b, 0, none⟩) 32 cap) fv ∧ base ≤ w.heap.size := by
  obtain ⟨sv, fv, h1, h2, h3⟩ := h
  obtain ⟨b, cap, rfl, hc1, hc2, _, _⟩ := h1.slot hl 0 (by omega)
  unfold maxLen at hc2
  exact ⟨b, cap, fv, h1, ⟨hc1, by omega⟩, h2, h3⟩

theorem leftA_links {base : Nat} {w w' : World} {g b cap : Nat} {fv : Value} {A : Arn} (h : RAn base w' g (.slice (some ⟨b, 0, none⟩) 32 cap) fv A) (hb : base ≤ w.heap.size) (hk : Keep (fun j => j = b) w w') : LeftA base w w' g (rfp g (.slice (some ⟨b, 0, none⟩) 32 cap) fv) A :=
  leftA_self h hb (hk.weaken (fun k _ e => .inr (.inl (by rw [e]; rfl))))

theorem push_r (base : Nat) (w : World) (g : Nat) (F : Nat → Prop) (A : Arn) (last i : Int) (h : RepA base w g F A) (hl : A.sl.length = 32) :
    Calls Tryz.prog 42 #[ptr g, nu last, nu i] w fun e w' => e = .returned (.tuple #[nu (push A.sl last i).ans, nun (push A.sl last i).no, nu (push A.sl last i).pl]) ∧ LeftA base w w' g F ⟨(push A.sl last i).sl, A.fr, A.wr⟩ := by
  obtain ⟨b, cap, fv, h1, hc, rfl, h3⟩ := RepA.open h hl
  refine (push_ref base w g b cap fv A last i h1 hl hc).mono ?_
  rintro e w' ⟨rfl, h4, h5⟩
  exact ⟨rfl, leftA_links h4 h3 h5⟩

theorem drop_r (base : Nat) (w : World) (g : Nat) (F : Nat → Prop) (A : Arn) (last i : Int) (h : RepA base w g F A) (hl : A.sl.length = 32) :
    Calls Tryz.prog 47 #[ptr g, nu last, nu i] w fun e w' => e = .returned (.tuple #[nu (drop A.sl last i).ans, nun (drop A.sl last i).no, nu (drop A.sl last i).pl]) ∧ LeftA base w w' g F ⟨(drop A.sl last i).sl, A.fr, A.wr⟩ := by
  obtain ⟨b, cap, fv, h1, hc, rfl, h3⟩ := RepA.open h hl
  refine (drop_ref base w g b cap fv A last i h1 hl hc).mono ?_
  rintro e w' ⟨rfl, h4, h5⟩
  exact ⟨rfl, leftA_links h4 h3 h5⟩

theorem splice_r (base : Nat) (w : World) (g : Nat) (F : Nat → Prop) (A : Arn) (one two : Int) (h : RepA base w g F A) (hl : A.sl.length = 32) :
    Calls Tryz.prog 46 #[ptr g, nu one, nu two] w fun e w' => e = .returned (.tuple #[nu (splice A.sl one two).ans, nun (splice A.sl one two).no, nu (splice A.sl one two).pl]) ∧ LeftA base w w' g F ⟨(splice A.sl one two).sl, A.fr, A.wr⟩ := by
  obtain ⟨b, cap, fv, h1, hc, rfl, h3⟩ := RepA.open h hl
  refine (splice_ref base w g b cap fv A one two h1 hl hc).mono ?_
  rintro e w' ⟨rfl, h4, h5⟩
  exact ⟨rfl, leftA_links h4 h3 h5⟩

theorem all_r (base : Nat) (w : World) (g : Nat) (F : Nat → Prop) (A : Arn) (last : Int) (h : RepA base w g F A) (hl : A.sl.length = 32) :
    Calls Tryz.prog 35 #[ptr g, nu last] w fun e w' => ∃ v, e = .returned v ∧ w'.ownsRow w.heap.size 3 1 v (allL A.sl last).length ((allL A.sl last).map nun) ∧ Below w.heap.size w w' := by
  obtain ⟨b, cap, fv, h1, hc, rfl, h3⟩ := RepA.open h hl
  exact all_ref base w g b cap fv A last h1 hl hc
end Rg
end Go.Proofs.YthabnombfbehkaaGreatDoor
