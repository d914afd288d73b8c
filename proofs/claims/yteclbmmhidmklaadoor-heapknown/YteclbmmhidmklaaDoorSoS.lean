import Derived.Test.YteclbmmhidmklaaDoorSoP
import Derived.Test.YteclbmmhidmklaaDoorHqC
import Derived.BigRegion
/- A row that is sorted: how it lies, what it holds behind an exchange, what cmp answers. -/
namespace Go.Proofs.YteclbmmhidmklaaDoor
set_option linter.ambiguousOpen false
open Go.RowKit
namespace Hq
open Hh Ft
set_option linter.unusedSimpArgs false
set_option linter.unusedVariables false

/-- The method value that the row is sorted by. -/
@[reducible] def cmpV (p : Nat) : Value := .func (.func 50) #[ptr p] #[]

structure Sw (p g c n : Nat) (W : World) (D : List It) : Prop where
  len : D.length = n
  row : W.ownsRow 0 65 2 (slc g n c) n (D.flatMap It.cells)
  ord : W.cell? ⟨p, 0, none⟩ = some ordV
  ne : p ≠ g
  unl : Unl D
  big : n ≤ 65536

section
variable {p g c n : Nat} {W W' : World} {D : List It}

theorem Sw.below (h : Sw p g c n W D) (hb : Below W.heap.size W W') : Sw p g c n W' D :=
  ⟨h.len, (Keep.of_below (F := fun _ => False) hb).own h.row (fun _ _ e => e), (hb.cell (p := ⟨p, 0, none⟩) (cell_lt h.ord)).trans h.ord, h.ne, h.unl, h.big⟩

theorem Sw.at (h : Sw p g c n W D) {j : Nat} (hj : j < n) : W.cell? ⟨g, j * 2, none⟩ = some (nu (atD D j).i) ∧ W.cell? ⟨g, j * 2 + 1, none⟩ = some (nu (atD D j).k) ∧ W.frozen? ⟨g, j * 2, none⟩ = false ∧ W.frozen? ⟨g, j * 2 + 1, none⟩ = false := by
  have hf := flat_get D j (by rw [h.len]; exact hj)
  have h1 := own_cellS h.row _ _ hf.1
  have h2 := own_cellS h.row _ _ hf.2
  exact ⟨h1.1, h2.1, h1.2, h2.2⟩

theorem Sw.cap (h : Sw p g c n W D) (h0 : 0 < n) : n ≤ c ∧ (c : Int) ≤ 9223372036854775807 := by
  obtain ⟨g', c', e, h1, h2, _⟩ := own_slc h.row h0
  simp only [Value.slice.injEq, Option.some.injEq, Addr.mk.injEq, and_true, true_and] at e
  unfold maxLen at h2
  omega

theorem own_still2 {w : World} {base g cap n size : Nat} {e : TypeId} {xs : List Value} (h : w.ownsRow base e size (.slice (some ⟨g, 0, none⟩) n cap) n xs) (i : Nat) (hi : i < xs.length) : ∃ u, w.cell? ⟨g, i, none⟩ = some u :=
  ⟨_, (own_cellS h i xs[i] (List.getElem?_eq_getElem hi)).1⟩

/-- Two change their places. -/
theorem Sw.swap (h : Sw p g c n W D) {i j : Nat} (hi : i < n) (hj : j < n) {x y : It} (hx : atD D i = x) (hy : atD D j = y) :
    (W.cell? ⟨g, i * 2, none⟩ = some (nu x.i) ∧ W.cell? ⟨g, i * 2 + 1, none⟩ = some (nu x.k) ∧ W.cell? ⟨g, j * 2, none⟩ = some (nu y.i) ∧ W.cell? ⟨g, j * 2 + 1, none⟩ = some (nu y.k)) ∧
    (W.frozen? ⟨g, i * 2, none⟩ = false ∧ W.frozen? ⟨g, i * 2 + 1, none⟩ = false ∧ W.frozen? ⟨g, j * 2, none⟩ = false ∧ W.frozen? ⟨g, j * 2 + 1, none⟩ = false) ∧
    (∃ z, ((W.setCell ⟨g, i * 2, none⟩ (nu y.i)).setCell ⟨g, i * 2 + 1, none⟩ (nu y.k)).cell? ⟨g, j * 2, none⟩ = some z) ∧
    (∃ z, (((W.setCell ⟨g, i * 2, none⟩ (nu y.i)).setCell ⟨g, i * 2 + 1, none⟩ (nu y.k)).setCell ⟨g, j * 2, none⟩ (nu x.i)).cell? ⟨g, j * 2 + 1, none⟩ = some z) ∧
    ∃ W', ((((W.setCell ⟨g, i * 2, none⟩ (nu y.i)).setCell ⟨g, i * 2 + 1, none⟩ (nu y.k)).setCell ⟨g, j * 2, none⟩ (nu x.i)).setCell ⟨g, j * 2 + 1, none⟩ (nu x.k)).drew = W' ∧ Hid (Sw p g c n W' (swp D i j) ∧ Keep (fun k => k = g) W W') := by
  have ai := h.at hi
  have aj := h.at hj
  rw [hx] at ai
  rw [hy] at aj
  have hln : (D.flatMap It.cells).length = n * 2 := h.row.1
  have r1 := own_setS (own_setS h.row (i * 2) (nu y.i)) (i * 2 + 1) (nu y.k)
  refine ⟨⟨ai.1, ai.2.1, aj.1, aj.2.1⟩, ⟨ai.2.2.1, ai.2.2.2, aj.2.2.1, aj.2.2.2⟩, own_still2 r1 (j * 2) (by simp only [List.length_set]; omega), own_still2 (own_setS r1 (j * 2) (nu x.i)) (j * 2 + 1) (by simp only [List.length_set]; omega), _, rfl, ?_, ?_⟩
  · have hsw : swp D i j = (D.set i y).set j x := by
      unfold swp
      rw [hx, hy]
    refine ⟨by rw [swp_len]; exact h.len, ?_, ?_, h.ne, h.unl.perm (swp_perm D i j (by rw [h.len]; exact hi) (by rw [h.len]; exact hj)), h.big⟩
    · have h1 := own_setS (own_setS r1 (j * 2) (nu x.i)) (j * 2 + 1) (nu x.k)
      rw [hsw, ← flat_set, ← flat_set]
      exact (Keep.refl (fun _ => False) _).drew.own h1 (fun _ _ e => e)
    · have hk : Keep (fun k => k = g) W ((((W.setCell ⟨g, i * 2, none⟩ (nu y.i)).setCell ⟨g, i * 2 + 1, none⟩ (nu y.k)).setCell ⟨g, j * 2, none⟩ (nu x.i)).setCell ⟨g, j * 2 + 1, none⟩ (nu x.k)).drew := (((((Keep.refl (fun k => k = g) W).setCell (p := ⟨g, i * 2, none⟩) (.inl rfl) _).setCell (p := ⟨g, i * 2 + 1, none⟩) (.inl rfl) _).setCell (p := ⟨g, j * 2, none⟩) (.inl rfl) _).setCell (p := ⟨g, j * 2 + 1, none⟩) (.inl rfl) _).drew
      exact (hk.cell (p := ⟨p, 0, none⟩) (cell_lt h.ord) h.ne).trans h.ord
  · exact (((((Keep.refl (fun k => k = g) W).setCell (p := ⟨g, i * 2, none⟩) (.inl rfl) _).setCell (p := ⟨g, i * 2 + 1, none⟩) (.inl rfl) _).setCell (p := ⟨g, j * 2, none⟩) (.inl rfl) _).setCell (p := ⟨g, j * 2 + 1, none⟩) (.inl rfl) _).drew

/-- Four cells. -/
@[reducible] def S4 (g i j : Nat) (x y : It) (W : World) : Prop := W.cell? ⟨g, i * 2, none⟩ = some (nu x.i) ∧ W.cell? ⟨g, i * 2 + 1, none⟩ = some (nu x.k) ∧ W.cell? ⟨g, j * 2, none⟩ = some (nu y.i) ∧ W.cell? ⟨g, j * 2 + 1, none⟩ = some (nu y.k)

/-- What cmp answers. -/
theorem Sw.cmp (h : Sw p g c n W D) {i j : Nat} (hi : i < n) (hj : j < n) {x y : It} (hx : atD D i = x) (hy : atD D j = y) :
    (S4 g i j x y W ∧ S4 g i j x y W.drew) ∧ ∃ r, Hid (decide (r < 0) = ahd x y) ∧ Hid (Calls Tryd.prog 50 #[ptr p, .agg #[nu x.i, nu x.k], .agg #[nu y.i, nu y.k]] W.drew fun e w' => e = .returned (nu r) ∧ S4 g i j x y w' ∧ Hid (Below W.heap.size W w')) := by
  have ai := h.at hi
  have aj := h.at hj
  rw [hx] at ai
  rw [hy] at aj
  have s : S4 g i j x y W := ⟨ai.1, ai.2.1, aj.1, aj.2.1⟩
  refine ⟨⟨s, s⟩, cmpE x y, cmpE_dec x y, ?_⟩
  refine (compare_p p x y W.drew h.ord).mono ?_
  rintro e w' ⟨rfl, hb⟩
  have hb2 : Below W.heap.size W w' := (Below.refl _ _).drew.trans hb
  exact ⟨rfl, ⟨(hb2.cell (p := ⟨g, i * 2, none⟩) (cell_lt ai.1)).trans ai.1, (hb2.cell (p := ⟨g, i * 2 + 1, none⟩) (cell_lt ai.2.1)).trans ai.2.1, (hb2.cell (p := ⟨g, j * 2, none⟩) (cell_lt aj.1)).trans aj.1, (hb2.cell (p := ⟨g, j * 2 + 1, none⟩) (cell_lt aj.2.1)).trans aj.2.1⟩, hb2⟩

/-- What a call leaves of the row. -/
def LeftW (p g c n : Nat) (a b : Nat) (W W' : World) (D : List It) (P : List It → Prop) : Prop := ∃ E, Sw p g c n W' E ∧ Keep (fun k => k = g) W W' ∧ Pm a b D E ∧ P E

theorem LeftW.refl {a b : Nat} {P : List It → Prop} (h : Sw p g c n W D) (hP : P D) : LeftW p g c n a b W W D P := ⟨D, h, Keep.refl _ _, Pm.refl _ _ _, hP⟩

theorem keep_below {w a b : World} (h : Keep (fun k => k = g) w a) (k : Below a.heap.size a b) : Keep (fun k => k = g) w b := h.trans (Keep.of_below (F := fun _ => False) k) (fun _ _ e => e.elim)

theorem keep_keep {w a b : World} (h : Keep (fun k => k = g) w a) (k : Keep (fun k => k = g) a b) : Keep (fun k => k = g) w b := h.trans k (fun _ _ e => e)
end

theorem wrap_i64 {z : Int} (h : -1000000 ≤ z ∧ z ≤ 1000000) : IntKind.i64.wrap z = z := by
  simp [IntKind.wrap, IntKind.bits, IntKind.signed]
  omega
end Hq
end Go.Proofs.YteclbmmhidmklaaDoor
