/- The document's rings: Well, link, Push, Drop, Splice. -/
import Derived.Test.YtckgecmcjnhceaaDoorRngQ
import Derived.Test.YtckgecmcjnhceaaDoorArnU
namespace Go.Proofs.YtckgecmcjnhceaaDoor
set_option linter.ambiguousOpen false
open Go.RowKit
namespace Rg
open An Ft Lv
set_option linter.unusedSimpArgs false
set_option linter.unusedVariables false

/-- One cell of a row of one's own is written. -/
theorem own_cellSet {w : World} {base g cap n size : Nat} {e : TypeId} {xs : List Value} (h : w.ownsRow base e size (.slice (some ⟨g, 0, none⟩) n cap) n xs) (i : Nat) (u : Value) :
    (w.setCell ⟨g, i, none⟩ u).ownsRow base e size (.slice (some ⟨g, 0, none⟩) n cap) n (xs.set i u) := by
  rcases h.2 with ⟨hv, _⟩ | ⟨g', cap', cur, hv, hbg, hg, hnc, hcm, hcs, htake⟩
  · simp at hv
  · simp only [Value.slice.injEq, Option.some.injEq, Addr.mk.injEq, and_true, true_and] at hv
    obtain ⟨rfl, rfl⟩ := hv
    refine ⟨by simpa using h.1, .inr ⟨g, cap, cur.setIfInBounds i u, rfl, hbg, ?_, hnc, hcm, by simpa using hcs, ?_⟩⟩
    · have hlt : g < w.heap.size := (Array.getElem?_eq_some_iff.1 hg).1
      simp [World.setCell, Array.getElem?_modify, hg]
    · rw [← htake]
      simp [List.take_set]

theorem scs_mid (S : List Slt) (k : Nat) (hk : k < S.length) (x : Slt) (j : Nat) (v : Value) (hj : j < 17) (hx : (S.getD k bare).cells.set j v = x.cells) : scs (S.set k x) = (scs S).set (k * 17 + j) v := by
  have h0 : S.set k (S.getD k bare) = S := by
    rw [List.getD_eq_getElem?_getD, List.getElem?_eq_getElem hk]
    simp
  have h1 := scs_set S k x hk
  have h2 := scs_set S k (S.getD k bare) hk
  have hlen := scs_len S
  rw [h0] at h2
  have hl : ((scs S).take (k * 17)).length = k * 17 := by rw [List.length_take]; omega
  rw [h1]
  conv => rhs; rw [h2]
  rw [List.append_assoc, List.append_assoc, List.set_append_right _ _ (by omega), hl, Nat.add_sub_cancel_left, List.set_append_left _ _ (by rw [Slt.len]; exact hj), hx]

section
variable {base : Nat} {w : World} {g b cap : Nat} {fv : Value} {A : Arn}

theorem RAn.linkAt (h : RAn base w g (.slice (some ⟨b, 0, none⟩) 32 cap) fv A) (hl : A.sl.length = 32) (k : Nat) (hk : k < 32) : w.cell? ⟨b, k * 17 + 3, none⟩ = some (nu (pv A.sl k)) ∧ w.cell? ⟨b, k * 17 + 4, none⟩ = some (nu (nx A.sl k)) ∧ ∀ i, w.frozen? ⟨b, i, none⟩ = false := by
  obtain ⟨b', cap', e, _, _, hr, _⟩ := h.slot hl k hk
  simp only [Value.slice.injEq, Option.some.injEq, Addr.mk.injEq, and_true, true_and] at e
  obtain ⟨rfl, rfl⟩ := e
  refine ⟨hr 3 _ rfl, hr 4 _ rfl, fun i => ?_⟩
  obtain ⟨c, hc, _⟩ := own_cellsT h.sl (k := b) rfl
  simp [World.frozen?, hc]

theorem RAn.putN (h : RAn base w g (.slice (some ⟨b, 0, none⟩) 32 cap) fv A) (hl : A.sl.length = 32) (k : Nat) (hk : k < 32) (v : Int) : RAn base (w.setCell ⟨b, k * 17 + 4, none⟩ (nu v)) g (.slice (some ⟨b, 0, none⟩) 32 cap) fv ⟨setN A.sl k v, A.fr, A.wr⟩ := by
  have hG : w.grownBy (w.setCell ⟨b, k * 17 + 4, none⟩ (nu v)) (some b) := ⟨rfl, rfl, rfl, by simp, fun k hk hn => Below.heap_setCell _ _ _ k (fun e => hn (by rw [e]))⟩
  have hne := h.ne
  refine ⟨(hG.block g h.glt (fun e => hne.1 e.symm)).trans h.blk, ?_, h.fr.kept hG (.inr (fun e => hne.2.2 b rfl e)), h.lo⟩
  have h0 := h.sl
  rw [hl] at h0
  have h1 := own_cellSet h0 (k * 17 + 4) (nu v)
  have h2 := scs_mid A.sl k (by omega) { A.sl.getD k bare with next := v } 4 (nu v) (by omega) rfl
  show World.ownsRow _ _ _ _ _ (setN A.sl k v).length (scs (setN A.sl k v))
  rw [setN_len, hl]
  unfold setN
  rw [Int.toNat_natCast, h2]
  exact h1

theorem RAn.putP (h : RAn base w g (.slice (some ⟨b, 0, none⟩) 32 cap) fv A) (hl : A.sl.length = 32) (k : Nat) (hk : k < 32) (v : Int) : RAn base (w.setCell ⟨b, k * 17 + 3, none⟩ (nu v)) g (.slice (some ⟨b, 0, none⟩) 32 cap) fv ⟨setP A.sl k v, A.fr, A.wr⟩ := by
  have hG : w.grownBy (w.setCell ⟨b, k * 17 + 3, none⟩ (nu v)) (some b) := ⟨rfl, rfl, rfl, by simp, fun k hk hn => Below.heap_setCell _ _ _ k (fun e => hn (by rw [e]))⟩
  have hne := h.ne
  refine ⟨(hG.block g h.glt (fun e => hne.1 e.symm)).trans h.blk, ?_, h.fr.kept hG (.inr (fun e => hne.2.2 b rfl e)), h.lo⟩
  have h0 := h.sl
  rw [hl] at h0
  have h1 := own_cellSet h0 (k * 17 + 3) (nu v)
  have h2 := scs_mid A.sl k (by omega) { A.sl.getD k bare with prev := v } 3 (nu v) (by omega) rfl
  show World.ownsRow _ _ _ _ _ (setP A.sl k v).length (scs (setP A.sl k v))
  rw [setP_len, hl]
  unfold setP
  rw [Int.toNat_natCast, h2]
  exact h1
end

set_option maxRecDepth 100000 in
set_option maxHeartbeats 1000000 in
theorem well_ref (base : Nat) (w : World) (g b cap : Nat) (fv : Value) (A : Arn) (i : Int) (h : RAn base w g (.slice (some ⟨b, 0, none⟩) 32 cap) fv A) (hl : A.sl.length = 32) (hc : 32 ≤ cap ∧ cap ≤ 9223372036854775807) :
    Calls Tryd.prog 53 #[ptr g, nu i] w fun e w' => e = .returned (.bool (decide (well A.sl i))) ∧ w' = w := by
  have cT : Hid (∀ j, _) := fun j => there_ref j w
  obtain ⟨r, hr⟩ : ∃ r, decide (well A.sl i) = r := ⟨_, rfl⟩
  rw [hr]
  have q0 := h.cells.1
  obtain ⟨hc1, hc2⟩ := hc
  by_cases ht : there i
  · have c1 := Hid.mk' (cT.out i)
    rw [decide_eq_true ht] at c1
    obtain ⟨k, rfl⟩ : ∃ k : Nat, i = (k : Int) := ⟨i.toNat, by omega⟩
    have hk : k < 32 := by omega
    obtain ⟨q1, q2, qf⟩ := RAn.linkAt h hl k hk
    obtain ⟨p, hp⟩ : ∃ p, pv A.sl k = p := ⟨_, rfl⟩
    obtain ⟨n, hn⟩ : ∃ n, nx A.sl k = n := ⟨_, rfl⟩
    rw [hp] at q1
    rw [hn] at q2
    have c2 := Hid.mk' (cT.out p)
    have c3 := Hid.mk' (cT.out n)
    have HW : well A.sl k ↔ (there (k : Int) ∧ there p ∧ there n ∧ nx A.sl p = k ∧ pv A.sl n = k) := by unfold well; rw [hp, hn]
    have hkI : (k : Int) < 32 := by omega
    have hk0 : (0 : Int) ≤ (k : Int) := by omega
    by_cases hpt : there p
    · rw [decide_eq_true hpt] at c2
      by_cases hnt : there n
      · rw [decide_eq_true hnt] at c3
        obtain ⟨p', rfl⟩ : ∃ p' : Nat, p = (p' : Int) := ⟨p.toNat, by omega⟩
        obtain ⟨n', rfl⟩ : ∃ n' : Nat, n = (n' : Int) := ⟨n.toNat, by omega⟩
        obtain ⟨_, q3, _⟩ := RAn.linkAt h hl p' (by omega)
        obtain ⟨q4, _, _⟩ := RAn.linkAt h hl n' (by omega)
        obtain ⟨x, hx⟩ : ∃ x, nx A.sl p' = x := ⟨_, rfl⟩
        obtain ⟨y, hy⟩ : ∃ y, pv A.sl n' = y := ⟨_, rfl⟩
        rw [hx] at q3
        rw [hy] at q4
        rw [hx, hy] at HW
        have hpI : (p' : Int) < 32 := by omega
        have hnI : (n' : Int) < 32 := by omega
        by_cases e1 : x = k
        · have b1 : (x == (k : Int)) = true := by simp [e1]
          have HR : Hid (r = (y == (k : Int))) := by
            show r = _
            rw [← hr, Bool.eq_iff_iff]
            simp only [decide_eq_true_eq, beq_iff_eq]
            rw [HW]
            exact ⟨fun h => h.2.2.2.2, fun h => ⟨ht, hpt, hnt, e1, h⟩⟩
          clear HW hr h hp hn hx hy e1 hpt hnt ht cT qf
          go_enter Tryd.func53, Tryd.ntmps53
          go_wp2_with fail
          refine c1.out.mono ?_
          rintro e w1 ⟨rfl, hw1⟩
          subst w1
          go_wp2_with fail
          refine c2.out.mono ?_
          rintro e w1 ⟨rfl, hw1⟩
          subst w1
          go_wp2_with fail
          refine c3.out.mono ?_
          rintro e w1 ⟨rfl, hw1⟩
          subst w1
          go_wp2
          go_ret
          exact ⟨by rw [HR.out]; rfl, rfl⟩
        · have b1 : (x == (k : Int)) = false := by simpa using e1
          have HR : Hid (r = false) := by
            show r = _
            rw [← hr]
            exact decide_eq_false (fun h => e1 (HW.1 h).2.2.2.1)
          clear HW hr h hp hn hx hy e1 hpt hnt ht cT qf q4
          go_enter Tryd.func53, Tryd.ntmps53
          go_wp2_with fail
          refine c1.out.mono ?_
          rintro e w1 ⟨rfl, hw1⟩
          subst w1
          go_wp2_with fail
          refine c2.out.mono ?_
          rintro e w1 ⟨rfl, hw1⟩
          subst w1
          go_wp2_with fail
          refine c3.out.mono ?_
          rintro e w1 ⟨rfl, hw1⟩
          subst w1
          go_wp2
          go_ret
          exact ⟨by rw [HR.out]; rfl, rfl⟩
      · rw [decide_eq_false hnt] at c3
        have HR : Hid (r = false) := by
          show r = _
          rw [← hr]
          exact decide_eq_false (fun h => hnt (HW.1 h).2.2.1)
        clear HW hr h hp hn hpt hnt ht cT qf
        go_enter Tryd.func53, Tryd.ntmps53
        go_wp2_with fail
        refine c1.out.mono ?_
        rintro e w1 ⟨rfl, hw1⟩
        subst w1
        go_wp2_with fail
        refine c2.out.mono ?_
        rintro e w1 ⟨rfl, hw1⟩
        subst w1
        go_wp2_with fail
        refine c3.out.mono ?_
        rintro e w1 ⟨rfl, hw1⟩
        subst w1
        go_wp2
        go_ret
        exact ⟨by rw [HR.out]; rfl, rfl⟩
    · rw [decide_eq_false hpt] at c2
      have HR : Hid (r = false) := by
        show r = _
        rw [← hr]
        exact decide_eq_false (fun h => hpt (HW.1 h).2.1)
      clear HW hr h hp hn hpt ht cT qf c3
      go_enter Tryd.func53, Tryd.ntmps53
      go_wp2_with fail
      refine c1.out.mono ?_
      rintro e w1 ⟨rfl, hw1⟩
      subst w1
      go_wp2_with fail
      refine c2.out.mono ?_
      rintro e w1 ⟨rfl, hw1⟩
      subst w1
      go_wp2
      go_ret
      exact ⟨by rw [HR.out]; rfl, rfl⟩
  · have c1 := Hid.mk' (cT.out i)
    rw [decide_eq_false ht] at c1
    have HR : Hid (r = false) := by
      show r = _
      rw [← hr]
      exact decide_eq_false (fun h => ht h.1)
    clear hr h ht cT q0
    go_enter Tryd.func53, Tryd.ntmps53
    go_wp2_with fail
    refine c1.out.mono ?_
    rintro e w1 ⟨rfl, hw1⟩
    subst w1
    go_wp2
    go_ret
    exact ⟨by rw [HR.out]; rfl, rfl⟩

set_option maxRecDepth 100000 in
set_option maxHeartbeats 1000000 in
theorem link_ref (base : Nat) (w : World) (g b cap : Nat) (fv : Value) (A : Arn) (i k : Int) (h : RAn base w g (.slice (some ⟨b, 0, none⟩) 32 cap) fv A) (hl : A.sl.length = 32) (hc : 32 ≤ cap ∧ cap ≤ 9223372036854775807) (hi : there i) (hk : there k) :
    Calls Tryd.prog 54 #[ptr g, nu i, nu k] w fun e w' => (∃ u, e = .returned u) ∧ RAn base w' g (.slice (some ⟨b, 0, none⟩) 32 cap) fv ⟨link A.sl i k, A.fr, A.wr⟩ ∧ Keep (fun j => j = b) w w' := by
  obtain ⟨i', rfl⟩ : ∃ i' : Nat, i = (i' : Int) := ⟨i.toNat, by omega⟩
  obtain ⟨k', rfl⟩ : ∃ k' : Nat, k = (k' : Int) := ⟨k.toNat, by omega⟩
  have hi3 : i' < 32 := by omega
  have hk3 : k' < 32 := by omega
  have hiI : (i' : Int) < 32 := by omega
  have hkI : (k' : Int) < 32 := by omega
  have q0 := h.cells.1
  obtain ⟨hc1, hc2⟩ := hc
  obtain ⟨_, q1, qf⟩ := RAn.linkAt h hl i' hi3
  have h1 := RAn.putN h hl i' hi3 k'
  have hl1 : (setN A.sl i' k').length = 32 := by rw [setN_len, hl]
  obtain ⟨q2, _, qf2⟩ := RAn.linkAt h1 hl1 k' hk3
  have q3 := h1.cells.1
  have H2 := Hid.mk' (RAn.putP h1 hl1 k' hk3 i')
  have HK : Hid (Keep (fun j => j = b) w ((w.setCell ⟨b, i' * 17 + 4, none⟩ (nu k')).setCell ⟨b, k' * 17 + 3, none⟩ (nu i'))) := ((Keep.refl (fun j => j = b) w).setCell (p := ⟨b, i' * 17 + 4, none⟩) (.inl rfl) _).setCell (p := ⟨b, k' * 17 + 3, none⟩) (.inl rfl) _
  clear h h1 hl hl1 hi hk
  go_enter Tryd.func54, Tryd.ntmps54
  go_wp2
  go_end0
  exact ⟨⟨_, rfl⟩, H2.out, HK.out⟩
end Rg
end Go.Proofs.YtckgecmcjnhceaaDoor
