/- The program's swap. -/
import Derived.Test.YthjdpfmnbmnbhaaHqC
import Derived.BigRegion
namespace Go.Proofs.Ythjdpfmnbmnbhaa
set_option linter.ambiguousOpen false
open Go.RowKit
namespace Hq
open Hh Ft
set_option linter.unusedSimpArgs false
set_option linter.unusedVariables false
attribute [local go_sem] Oper.semAt_some

/-- Cells of a row that is stored into are there still. -/
theorem own_still {w : World} {base g cap n size : Nat} {e : TypeId} {xs : List Value} (h : w.ownsRow base e size (.slice (some ⟨g, 0, none⟩) n cap) n xs) (i : Nat) (hi : i < xs.length) : (∃ u, w.cell? ⟨g, i, none⟩ = some u) ∧ w.frozen? ⟨g, i, none⟩ = false := by
  have := own_cellS h i xs[i] (List.getElem?_eq_getElem hi)
  exact ⟨⟨_, this.1⟩, this.2⟩

set_option maxRecDepth 100000 in
set_option maxHeartbeats 4000000 in
theorem swap_p {w : World} {p rb rc ab ac n m : Nat} {D : List It} {A : List Int} (h : Lay w p rb rc ab ac n m D A) (a b : Nat) (ha : a < n) (hb : b < n) :
    Calls Try.prog 36 #[ptr p, nun a, nun b] w fun e w' => e = .returned (.tuple #[]) ∧ Lay w' p rb rc ab ac n m (swp D a b) ((A.set (atD D b).i.toNat (a : Int)).set (atD D a).i.toNat (b : Int)) ∧ Keep (foot p rb ab) w w' ∧ w'.heap.size = w.heap.size := by
  obtain ⟨q0, q1, q2, qf⟩ := h.cells
  obtain ⟨a0, a1, af0, af1⟩ := h.rowAt ha
  obtain ⟨b0, b1, bf0, bf1⟩ := h.rowAt hb
  have hcap := h.caps
  unfold maxLen at hcap
  have hrc : (rc : Int) ≤ 9223372036854775807 := by omega
  have haI : (a : Int) < (n : Int) := by omega
  have hbI : (b : Int) < (n : Int) := by omega
  have ha0 : (0 : Int) ≤ (a : Int) := by omega
  have hb0 : (0 : Int) ≤ (b : Int) := by omega
  obtain ⟨x, hx⟩ : ∃ x, atD D a = x := ⟨_, rfl⟩
  obtain ⟨y, hy⟩ : ∃ y, atD D b = y := ⟨_, rfl⟩
  rw [hx] at a0 a1
  rw [hy] at b0 b1
  rw [hx, hy]
  have HH := Hid.mk' h
  have tx := h.rel.to a (by rw [h.hn]; exact ha)
  have ty := h.rel.to b (by rw [h.hn]; exact hb)
  rw [hx] at tx
  rw [hy] at ty
  rw [h.hm] at tx ty
  obtain ⟨xi, xk⟩ := x
  obtain ⟨yi, yk⟩ := y
  dsimp only at a0 a1 b0 b1 tx ty
  obtain ⟨xn, rfl⟩ : ∃ xn : Nat, xi = (xn : Int) := ⟨xi.toNat, by omega⟩
  obtain ⟨yn, rfl⟩ : ∃ yn : Nat, yi = (yn : Int) := ⟨yi.toNat, by omega⟩
  have hac : (ac : Int) ≤ 9223372036854775807 := by omega
  have hxm : (xn : Int) < (m : Int) := tx.2.1
  have hym : (yn : Int) < (m : Int) := ty.2.1
  have hx0 : (0 : Int) ≤ (xn : Int) := by omega
  have hy0 : (0 : Int) ≤ (yn : Int) := by omega
  rw [show (It.mk (xn : Int) xk).i.toNat = xn from Int.toNat_natCast _, show (It.mk (yn : Int) yk).i.toNat = yn from Int.toNat_natCast _]
  have HX := Hid.mk' hx
  have HY := Hid.mk' hy
  have hrw1 := own_setS (own_setS h.row (a * 2) (nu yn)) (a * 2 + 1) (nu yk)
  have hln : (D.flatMap It.cells).length = n * 2 := h.row.1
  obtain ⟨⟨z0, hz0⟩, fz0⟩ := own_still hrw1 (b * 2) (by simp only [List.length_set]; omega)
  obtain ⟨⟨z1, hz1⟩, fz1⟩ := own_still (own_setS hrw1 (b * 2) (nu xn)) (b * 2 + 1) (by simp only [List.length_set]; omega)
  clear h hx hy hcap q0 hrw1 hln
  go_enter Try.func36, Try.ntmps36
  go_upto_region 0 with fail
  go_region
  obtain ⟨w2, hw2⟩ : ∃ w2, ((((w.setCell ⟨rb, a * 2, none⟩ (nu yn)).setCell ⟨rb, a * 2 + 1, none⟩ (nu yk)).setCell ⟨rb, b * 2, none⟩ (nu xn)).setCell ⟨rb, b * 2 + 1, none⟩ (nu xk)).drew = w2 := ⟨_, rfl⟩
  rw [hw2]
  have hh := HH.out
  have hsw : swp D a b = (D.set a ⟨yn, yk⟩).set b ⟨xn, xk⟩ := by
    unfold swp
    rw [HX.out, HY.out]
  have hk2 : Keep (fun k => k = rb) w w2 := by
    rw [← hw2]
    exact (((((Keep.refl (fun k => k = rb) w).setCell (p := ⟨rb, a * 2, none⟩) (.inl rfl) _).setCell (p := ⟨rb, a * 2 + 1, none⟩) (.inl rfl) _).setCell (p := ⟨rb, b * 2, none⟩) (.inl rfl) _).setCell (p := ⟨rb, b * 2 + 1, none⟩) (.inl rfl) _).drew
  have hz2 : w2.heap.size = w.heap.size := by rw [← hw2]; simp [World.setCell]
  have hr2 : w2.ownsRow 0 70 2 (slc rb n rc) n ((swp D a b).flatMap It.cells) := by
    have h1 := own_setS (own_setS (own_setS (own_setS hh.row (a * 2) (nu yn)) (a * 2 + 1) (nu yk)) (b * 2) (nu xn)) (b * 2 + 1) (nu xk)
    rw [hsw, ← flat_set, ← flat_set, ← hw2]
    exact (Keep.refl (fun _ => False) _).drew.own h1 (fun _ _ e => e)
  have ha2 : w2.ownsRow 0 3 1 (slc ab m ac) m (A.map nu) := hk2.own hh.at_ (fun g e => by
    simp [Value.ownBlock] at e
    rw [← e]
    exact fun e2 => hh.n3 e2.symm)
  have hp2 := hk2.at hh.blk (fun e => hh.n1 e.symm)
  have hla : (swp D a b).length = n := by rw [swp_len]; exact hh.hn
  have fa := flat_get (swp D a b) a (by omega)
  have fb := flat_get (swp D a b) b (by omega)
  have e1 : atD (swp D a b) a = ⟨yn, yk⟩ := by
    rw [swp_at D a b a (by rw [hh.hn]; exact ha) (by rw [hh.hn]; exact hb)]
    by_cases e : a = b
    · rw [if_pos e, e]
      exact HY.out
    · rw [if_neg e, if_pos rfl]
      exact HY.out
  have e2 : atD (swp D a b) b = ⟨xn, xk⟩ := by
    rw [swp_at D a b b (by rw [hh.hn]; exact ha) (by rw [hh.hn]; exact hb), if_pos rfl]
    exact HX.out
  rw [e1] at fa
  rw [e2] at fb
  have r1 := (own_cellS hr2 _ _ fa.1).1
  have r2 := (own_cellS hr2 _ _ fb.1).1
  dsimp only at r1 r2
  have g1 : w2.cell? ⟨p, 1, none⟩ = some (slc rb n rc) := by simp [World.cell?, hp2]
  have g2 : w2.cell? ⟨p, 2, none⟩ = some (slc ab m ac) := by simp [World.cell?, hp2]
  have hml : (A.map nu).length = m := by rw [List.length_map]; exact hh.hm
  obtain ⟨⟨u0, hu0⟩, fu0⟩ := own_still ha2 yn (by omega)
  obtain ⟨⟨u1, hu1⟩, fu1⟩ := own_still (own_setS ha2 yn (nu a)) xn (by rw [List.length_set]; omega)
  obtain ⟨w3, hw3⟩ : ∃ w3, ((w2.setCell ⟨ab, yn, none⟩ (nu a)).setCell ⟨ab, xn, none⟩ (nu b)).drew = w3 := ⟨_, rfl⟩
  have HE : Hid (Lay w3 p rb rc ab ac n m (swp D a b) ((A.set yn (a : Int)).set xn (b : Int)) ∧ Keep (foot p rb ab) w w3 ∧ w3.heap.size = w.heap.size) := by
    have hk3 : Keep (fun k => k = ab) w2 w3 := by rw [← hw3]; exact (((Keep.refl (fun k => k = ab) w2).setCell (p := ⟨ab, yn, none⟩) (.inl rfl) _).setCell (p := ⟨ab, xn, none⟩) (.inl rfl) _).drew
    refine ⟨⟨hla, by rw [List.length_set, List.length_set]; exact hh.hm, hk3.at hp2 (fun e => hh.n2 e.symm), ?_, ?_, hh.n1, hh.n2, hh.n3, ?_, hh.few, hh.few2⟩, ?_, ?_⟩
    · exact hk3.own hr2 (fun g e => by simp [Value.ownBlock] at e; rw [← e]; exact hh.n3)
    · have := own_setS (own_setS ha2 yn (nu a)) xn (nu b)
      rw [List.map_set, List.map_set, ← hw3]
      exact (Keep.refl (fun _ => False) _).drew.own this (fun _ _ e => e)
    · have := hh.rel.swp (a := a) (b := b) (by rw [hh.hn]; exact ha) (by rw [hh.hn]; exact hb)
      rw [HX.out, HY.out] at this
      simpa using this
    · exact (hk2.weaken (G := foot p rb ab) (fun k _ e => .inr (.inl e))).trans hk3 (fun k _ e => .inr (.inr e))
    · rw [← hw3]
      simp [World.setCell]
      exact hz2
  have HW3 := Hid.mk' hw3
  clear hw2 hw3 hh hsw hk2 hr2 ha2 hp2 hla fa fb e1 e2 hml hz0 hz1 a0 a1 b0 b1 af0 af1 bf0 bf1 fz0 fz1 hz2 tx ty
  go_upto_region 1 with fail
  go_region
  rw [HW3.out]
  go_wp2
  go_end0
  exact ⟨rfl, HE.out⟩
end Hq
end Go.Proofs.Ythjdpfmnbmnbhaa
