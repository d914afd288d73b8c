/- The program's heap: Drop, put together. -/
import Derived.Test.YthjdpfmnbmnbhaaHqX
namespace Go.Proofs.Ythjdpfmnbmnbhaa
set_option linter.ambiguousOpen false
open Go.RowKit
namespace Hq
open Hh Ft
set_option linter.unusedSimpArgs false
set_option linter.unusedVariables false
attribute [local go_sem] Oper.semAt_some

set_option maxRecDepth 100000 in
set_option maxHeartbeats 4000000 in
theorem dropq_p {w : World} {p rb rc ab ac n m : Nat} {D L : List It} {A : List Int} {N : Int} (h : Lay w p rb rc ab ac n m D A) (hp : D.Perm L) (hk : Hk N L) (hd : Hpd D) (i j : Nat) (hi : i < m) (hj : j < n) (ha : aN A i = (j : Int)) :
    Calls Try.prog 30 #[ptr p, nun i] w fun e w' => e = .returned (.tuple #[]) ∧ LeftY w w' p (slc rb n rc) ab ac m (dropH L i) := by
  obtain ⟨l, hl⟩ : ∃ l, l + 1 = n := ⟨n - 1, by omega⟩
  obtain ⟨q0, q1, q2, qf⟩ := h.cells
  have hcap := h.caps
  unfold maxLen at hcap
  have hmm := h.few2
  have hrc : (rc : Int) ≤ 9223372036854775807 := by omega
  have hac : (ac : Int) ≤ 9223372036854775807 := by omega
  have hiI : (i : Int) < (m : Int) := by omega
  have hi0 : (0 : Int) ≤ (i : Int) := by omega
  obtain ⟨a1, _⟩ := h.atAt hi
  rw [ha] at a1
  have hjD : j < D.length := by rw [h.hn]; exact hj
  have hlD : l < D.length := by rw [h.hn]; omega
  have hDl : D.length - 1 = l := by rw [h.hn]; omega
  have hxi : (atD D j).i = (i : Int) := by
    rcases h.rel.back i (by rw [h.hm]; exact hi) with h1 | ⟨j', hj', h1, h2⟩
    · omega
    · have : j' = j := by omega
      rw [← this]
      exact h2
  have c1 := Hid.mk' (swap_p (w := w.drew) (h.keep (F := fun _ => False) (Keep.refl _ w).drew (fun e => e) (fun e => e) (fun e => e)) j l hj (by omega))
  obtain ⟨A1, hA1⟩ : ∃ A1, ((A.set (atD D l).i.toNat (j : Int)).set (atD D j).i.toNat (l : Int)) = A1 := ⟨_, rfl⟩
  obtain ⟨D1, hD1⟩ : ∃ D1, swp D j l = D1 := ⟨_, rfl⟩
  rw [hA1, hD1] at c1
  have hper := perm_drop hp hk hjD
  rw [hxi, hDl, hD1] at hper
  have hnear : j < l → Near (D1.take l) j := fun hlt => by
    have := hd.near_drop (a := j) (by omega)
    rwa [hDl, hD1] at this
  have hheap : ¬ j < l → Hpd (D1.take l) := fun hlt => by
    have e : j = l := by omega
    rw [← hD1, ← e, swp_self D j hjD]
    exact hd.take _
  have hlast : (atD D1 (n - 1)).i = (i : Int) := by
    rw [← hD1, show n - 1 = l by omega, swp_at D j l l hjD hlD, if_pos rfl]
    exact hxi
  -- behind all the stores
  have HFIN : Hid (∀ w1 w2 w4, Lay w1 p rb rc ab ac n m D1 A1 → Keep (foot p rb ab) w.drew w1 → w2.ownsRow 0 70 2 (slc rb l rc) l ((D1.take l).flatMap It.cells) → Keep (fun k => k = rb) w1 w2 → (w2.setCell ⟨p, 1, none⟩ (slc rb l rc)).setCell ⟨ab, i, none⟩ (nu (-1)) = w4 →
      Lay w4 p rb rc ab ac l m (D1.take l) (A1.set i (-1)) ∧ Keep (foot p rb ab) w w4) := by
    intro w1 w2 w4 h1 k1 o2 k2 e4
    have hb2 := k2.at h1.blk (fun e => h1.n1 e.symm)
    have ha2 := k2.own h1.at_ (fun g e => by simp [Value.ownBlock] at e; rw [← e]; exact fun e2 => h1.n3 e2.symm)
    have hD1l : D1.length = n := h1.hn
    refine ⟨⟨by rw [List.length_take, hD1l]; omega, by rw [List.length_set]; exact h1.hm, ?_, ?_, ?_, h1.n1, h1.n2, h1.n3, ?_, h1.few, by omega⟩, ?_⟩
    · rw [← e4]
      have hb3 := heap_setCell_same w2 p 1 _ _ (slc rb l rc) hb2
      have hk4 : Keep (fun k => k = ab) (w2.setCell ⟨p, 1, none⟩ (slc rb l rc)) ((w2.setCell ⟨p, 1, none⟩ (slc rb l rc)).setCell ⟨ab, i, none⟩ (nu (-1))) := (Keep.refl (fun k => k = ab) _).setCell (p := ⟨ab, i, none⟩) (.inl rfl) _
      rw [hk4.at hb3 (fun e => h1.n2 e.symm)]
      rfl
    · rw [← e4]
      exact own_other (own_other o2 ⟨p, 1, none⟩ _ (by simpa [Value.ownBlock] using h1.n1)) ⟨ab, i, none⟩ _ (by simpa [Value.ownBlock] using h1.n3)
    · rw [← e4, List.map_set]
      exact own_setS (own_other ha2 ⟨p, 1, none⟩ _ (by simpa [Value.ownBlock] using h1.n2)) i (nu (-1))
    · have := h1.rel.pop (i := i) (by rw [hD1l]; omega) (by rw [hD1l]; exact hlast)
      rwa [hD1l, show n - 1 = l by omega] at this
    · rw [← e4]
      have k0 : Keep (foot p rb ab) w w1 := ((Keep.refl (foot p rb ab) w).drew).trans k1 (fun _ _ e => e)
      have k3 : Keep (foot p rb ab) w w2 := k0.trans k2 (fun _ _ e => .inr (.inl e))
      exact (k3.setCell (p := ⟨p, 1, none⟩) (.inl (.inl rfl)) _).setCell (p := ⟨ab, i, none⟩) (.inl (.inr (.inr rfl))) _
  have HPER := Hid.mk' hper
  have HNE := Hid.mk' hnear
  have HHP := Hid.mk' hheap
  have hwk : IntKind.i64.wrap ((n : Int) - 1) = (l : Int) := by simp [IntKind.wrap, IntKind.bits, IntKind.signed]; omega
  have hl1 : (l : Int) + 1 = (n : Int) := by omega
  have hlm : l ≤ 65536 := by omega
  have HJ := Hid.mk' hj
  have HI := Hid.mk' hi
  have HL := Hid.mk' hl
  clear h hp hk hd ha hjD hlD hDl hxi hA1 hD1 hper hnear hheap hlast hcap hj hl hi
  go_enter Try.func30, Try.ntmps30
  go_upto_region 0 with fail
  go_region
  clear hwk q0 q1 q2 qf a1
  go_wp2_with fail
  refine c1.out.mono ?_
  rintro e w1 ⟨rfl, h1, k1, _⟩
  have H1 := Hid.mk' h1
  have K1 := Hid.mk' k1
  have r1 := h1.cells.2.1
  have c2 := Hid.mk' (delete_p h1.row HL.out h1.hn)
  clear h1 k1 c1
  go_wp2_with fail
  refine c2.out.mono ?_
  rintro e w2 ⟨rfl, o2, k2⟩
  have O2 := Hid.mk' o2
  have K2 := Hid.mk' k2
  have hb2 := k2.at H1.out.blk (fun e => H1.out.n1 e.symm)
  have ha2 := k2.own H1.out.at_ (fun g e => by simp [Value.ownBlock] at e; rw [← e]; exact fun e2 => H1.out.n3 e2.symm)
  have p1 : w2.cell? ⟨p, 1, none⟩ = some (slc rb n rc) := by simp [World.cell?, hb2]
  have pf : w2.frozen? ⟨p, 1, none⟩ = false := by simp [World.frozen?, hb2]
  have hb3 := heap_setCell_same w2 p 1 _ _ (slc rb l rc) hb2
  obtain ⟨w3, hw3⟩ : ∃ w3, w2.setCell ⟨p, 1, none⟩ (slc rb l rc) = w3 := ⟨_, rfl⟩
  have ha3 := own_other ha2 ⟨p, 1, none⟩ (slc rb l rc) (by simpa [Value.ownBlock] using H1.out.n2)
  rw [hw3] at hb3 ha3
  have p2 : w3.cell? ⟨p, 2, none⟩ = some (slc ab m ac) := by simp [World.cell?, hb3]
  obtain ⟨⟨u, b1⟩, bf⟩ := own_still ha3 i (by have := ha3.1; have := HI.out; omega)
  obtain ⟨w4, hw4⟩ : ∃ w4, w3.setCell ⟨ab, i, none⟩ (nu (-1)) = w4 := ⟨_, rfl⟩
  obtain ⟨h4, k4⟩ := HFIN.out w1 w2 w4 H1.out K1.out O2.out K2.out (by rw [hw3, hw4])
  have H4 := Hid.mk' h4
  have K4 := Hid.mk' k4
  have HW4 := Hid.mk' hw4
  clear o2 k2 c2 hb2 ha2 hb3 ha3 hw4 h4 k4 HFIN H1 K1 O2 K2 r1
  go_upto_region 4 with fail
  rw [HW4.out]
  by_cases hjl : j < l
  · have hjI : (j : Int) < (l : Int) := by omega
    have c5 := Hid.mk' (settle_p H4.out j hjl (HNE.out hjl))
    clear hw3 p1 pf p2 b1 bf
    go_wp2_with fail
    refine c5.out.mono ?_
    rintro e w5 ⟨rfl, D5, A5, h5, k5, p5, n5⟩
    have HE : Hid (LeftY w w5 p (slc rb n rc) ab ac m (dropH L i)) := ⟨slc rb l rc, l, D5, A5, h5.v, p5.trans HPER.out, n5, by rw [foot_slc]; exact foot_trans K4.out k5, fun k e => .inl (by rw [foot_slc] at e ⊢; exact e)⟩
    clear h5 k5 p5 n5 c5
    go_wp2
    go_end0
    exact ⟨rfl, HE.out⟩
  · have hjI : ¬ (j : Int) < (l : Int) := by omega
    have HE : Hid (LeftY w w4 p (slc rb n rc) ab ac m (dropH L i)) := ⟨slc rb l rc, l, _, _, H4.out.v, HPER.out, HHP.out hjl, by rw [foot_slc]; exact K4.out, fun k e => .inl (by rw [foot_slc] at e ⊢; exact e)⟩
    clear hw3 p1 pf p2 b1 bf
    go_wp2
    go_end0
    exact ⟨rfl, HE.out⟩

set_option maxRecDepth 100000 in
theorem drop_p (w : World) (p : Nat) (F : Nat → Prop) (N : Int) (L : List It) (i : Int) (h : RepQ w p F N L) (hk : Hk N L) :
    Calls Try.prog 21 #[ptr p, nu i] w fun e w' => e = .returned (.bool (hasH L i)) ∧ LeftH RepQ w w' p F N (dropH L i) := by
  have HR := Hid.mk' h
  obtain ⟨rv, ab, ac, n, m, D, A, h1, rfl, h3, h4, rfl⟩ := h
  have c1 := Hid.mk' (has_p h1 h3 i)
  cases hh : hasH L i with
  | false =>
    rw [hh] at c1
    rw [drop_none hh]
    have HE : Hid (LeftH RepQ w w p (footV p rv ab) (m : Int) L) := ⟨_, HR.out, Keep.refl _ _, fun k e => .inl e⟩
    clear h1 h3 h4 hk hh HR
    go_enter Try.func21, Try.ntmps21
    go_wp2_with fail
    refine c1.out.mono ?_
    rintro e w1 ⟨rfl, rfl⟩
    go_wp2
    go_ret
    exact ⟨rfl, HE.out⟩
  | true =>
    rw [hh] at c1
    by_cases hi : 0 ≤ i ∧ i < (m : Int)
    · obtain ⟨k, rfl⟩ : ∃ k : Nat, i = (k : Int) := ⟨i.toNat, by omega⟩
      have hkm : k < m := by omega
      have hha := has_at h1.rel h3 (i := k) (by rw [h1.hm]; exact hkm)
      rcases h1.rel.back k (by rw [h1.hm]; exact hkm) with ha | ⟨j, hj, ha, _⟩
      · rw [hh, ha] at hha
        exact absurd hha (by decide)
      · rw [h1.hn] at hj
        obtain ⟨rb, rc, rfl, hl1⟩ := h1.lay (by omega)
        have c2 : Hid (Calls Try.prog 30 #[ptr p, nun k] w fun e w' => e = .returned (.tuple #[]) ∧ Hid (LeftH RepQ w w' p (footV p (slc rb n rc) ab) (m : Int) (dropH L k))) := by
          refine (dropq_p hl1 h3 hk h4 k j hkm hj ha).mono ?_
          rintro e w' ⟨rfl, hx⟩
          exact ⟨rfl, left_of hx⟩
        clear h1 h3 h4 hk hh hha hl1 hi HR
        go_enter Try.func21, Try.ntmps21
        go_wp2_with fail
        refine c1.out.mono ?_
        rintro e w1 ⟨rfl, rfl⟩
        go_wp2_with fail
        refine c2.out.mono ?_
        rintro e w2 ⟨rfl, HE⟩
        go_wp2
        go_ret
        exact ⟨rfl, HE.out⟩
    · rw [out_of h1.rel h3 (by rw [h1.hm]; exact hi)] at hh
      exact absurd hh (by simp)
end Hq
end Go.Proofs.Ythjdpfmnbmnbhaa
