/- How the program's heap lies: its own block, the row, and the row of where each number stands. -/
import Derived.Test.YthjdpfmnbmnbhaaHqP
import Derived.Test.YthjdpfmnbmnbhaaHepS
namespace Go.Proofs.Ythjdpfmnbmnbhaa
set_option linter.ambiguousOpen false
open Go.RowKit
namespace Hq
open Hh Ft
set_option linter.unusedSimpArgs false
set_option linter.unusedVariables false

/-- The order that the heap was handed: a function in a field. -/
@[reducible] def ordV : Value := .func (.func 24) #[] #[]

@[reducible] def slc (g n c : Nat) : Value := .slice (some ⟨g, 0, none⟩) n c

theorem own_setS {w : World} {base g cap n size : Nat} {e : TypeId} {xs : List Value} (h : w.ownsRow base e size (.slice (some ⟨g, 0, none⟩) n cap) n xs) (i : Nat) (u : Value) :
    (w.setCell ⟨g, i, none⟩ u).ownsRow base e size (.slice (some ⟨g, 0, none⟩) n cap) n (xs.set i u) := by
  rcases h.2 with ⟨hv, _⟩ | ⟨g', cap', cur, hv, hbg, hg, hnc, hcm, hcs, htake⟩
  · simp at hv
  · simp only [Value.slice.injEq, Option.some.injEq, Addr.mk.injEq, and_true, true_and] at hv
    obtain ⟨rfl, rfl⟩ := hv
    refine ⟨by simpa using h.1, .inr ⟨g, cap, cur.setIfInBounds i u, rfl, hbg, ?_, hnc, hcm, by simpa using hcs, ?_⟩⟩
    · have hlt : g < w.heap.size := (Array.getElem?_eq_some_iff.1 hg).1
      simp [World.setCell, Array.getElem?_modify, hg]
    · rw [← htake]
      simp [List.take_set]

theorem own_cellS {w : World} {base g cap n size : Nat} {e : TypeId} {xs : List Value} (h : w.ownsRow base e size (.slice (some ⟨g, 0, none⟩) n cap) n xs) (i : Nat) (u : Value) (hu : xs[i]? = some u) :
    w.cell? ⟨g, i, none⟩ = some u ∧ w.frozen? ⟨g, i, none⟩ = false := by
  rcases h.2 with ⟨hv, _⟩ | ⟨g', cap', cur, hv, hbg, hg, hnc, hcm, hcs, htake⟩
  · simp at hv
  · simp only [Value.slice.injEq, Option.some.injEq, Addr.mk.injEq, and_true, true_and] at hv
    obtain ⟨rfl, rfl⟩ := hv
    have hi : i < n * size := by
      rw [← h.1]
      exact (List.getElem?_eq_some_iff.1 hu).1
    refine ⟨?_, by simp [World.frozen?, hg]⟩
    simp only [World.cell?, hg]
    rw [← htake, List.getElem?_take_of_lt hi] at hu
    rw [← Array.getElem?_toList]
    exact hu

theorem own_other {w : World} {base n : Nat} {e : TypeId} {size : Nat} {v : Value} {xs : List Value} (h : w.ownsRow base e size v n xs) (a : Addr) (u : Value) (hne : v.ownBlock ≠ some a.block) : (w.setCell a u).ownsRow base e size v n xs :=
  ((Keep.refl (fun k => k = a.block) w).setCell (p := a) (.inl rfl) u).own h (fun g hg e => hne (by rw [hg, e]))

theorem own_slc {w : World} {base n size : Nat} {e : TypeId} {v : Value} {xs : List Value} (h : w.ownsRow base e size v n xs) (h0 : 0 < n) : ∃ g c, v = slc g n c ∧ n ≤ c ∧ c ≤ maxLen ∧ g < w.heap.size := by
  have h2 := h.2
  rcases h2 with ⟨rfl, h1⟩ | ⟨g, cap, cur, rfl, _, hg, h1, h3, _⟩
  · omega
  · exact ⟨g, cap, rfl, h1, h3, (Array.getElem?_eq_some_iff.1 hg).1⟩

theorem flat_get (D : List It) (j : Nat) (h : j < D.length) : (D.flatMap It.cells)[j * 2]? = some (nu (atD D j).i) ∧ (D.flatMap It.cells)[j * 2 + 1]? = some (nu (atD D j).k) := by
  have h1 := flat_atI D j 0 h (by omega)
  have h2 := flat_atI D j 1 h (by omega)
  rw [atD_get h] at h1 h2
  exact ⟨by simpa using h1, by simpa using h2⟩

theorem flat_set (D : List It) (j : Nat) (x : It) : ((D.flatMap It.cells).set (j * 2) (nu x.i)).set (j * 2 + 1) (nu x.k) = (D.set j x).flatMap It.cells := by
  induction D generalizing j with
  | nil => simp
  | cons y D ih =>
    cases j with
    | zero => simp [It.cells]
    | succ j =>
      have e1 : (j + 1) * 2 = j * 2 + 1 + 1 := by omega
      rw [List.set_cons_succ, List.flatMap_cons, List.flatMap_cons, ← ih, e1]
      simp [It.cells]

theorem flat_key (D : List It) (j : Nat) (k : Int) (h : j < D.length) : (D.flatMap It.cells).set (j * 2 + 1) (nu k) = (D.set j ⟨(atD D j).i, k⟩).flatMap It.cells := by
  rw [← flat_set]
  have h1 := (flat_get D j h).1
  congr 1
  obtain ⟨h2, h3⟩ := List.getElem?_eq_some_iff.1 h1
  dsimp only
  rw [← h3]
  exact (List.set_getElem_self h2).symm

theorem nus_get (A : List Int) (i : Nat) (h : i < A.length) : (A.map nu)[i]? = some (nu (aN A i)) := by
  rw [List.getElem?_map, aN_some h]
  rfl

/-- How it lies, where its row has memory. -/
structure Lay (w : World) (p rb rc ab ac n m : Nat) (D : List It) (A : List Int) : Prop where
  hn : D.length = n
  hm : A.length = m
  blk : w.heap[p]? = some (.cells #[ordV, slc rb n rc, slc ab m ac] 66)
  row : w.ownsRow 0 70 2 (slc rb n rc) n (D.flatMap It.cells)
  at_ : w.ownsRow 0 3 1 (slc ab m ac) m (A.map nu)
  n1 : rb ≠ p
  n2 : ab ≠ p
  n3 : rb ≠ ab
  rel : AtR D A
  few : m ≤ 65536
  few2 : n ≤ 65536

/-- What a call may turn. -/
@[reducible] def foot (p rb ab : Nat) : Nat → Prop := fun k => k = p ∨ k = rb ∨ k = ab

section
variable {w w' : World} {p rb rc ab ac n m : Nat} {D : List It} {A : List Int}

theorem Lay.plt (h : Lay w p rb rc ab ac n m D A) : p < w.heap.size := (Array.getElem?_eq_some_iff.1 h.blk).1

theorem Lay.cells (h : Lay w p rb rc ab ac n m D A) : w.cell? ⟨p, 0, none⟩ = some ordV ∧ w.cell? ⟨p, 1, none⟩ = some (slc rb n rc) ∧ w.cell? ⟨p, 2, none⟩ = some (slc ab m ac) ∧ ∀ i, w.frozen? ⟨p, i, none⟩ = false := by
  have hb := h.blk
  exact ⟨by simp [World.cell?, hb], by simp [World.cell?, hb], by simp [World.cell?, hb], fun i => by simp [World.frozen?, hb]⟩

theorem Lay.keep (h : Lay w p rb rc ab ac n m D A) {F : Nat → Prop} (hk : Keep F w w') (h1 : ¬ F p) (h2 : ¬ F rb) (h3 : ¬ F ab) : Lay w' p rb rc ab ac n m D A :=
  ⟨h.hn, h.hm, hk.at h.blk h1, hk.own h.row (fun g e => by simp [Value.ownBlock] at e; rw [← e]; exact h2), hk.own h.at_ (fun g e => by simp [Value.ownBlock] at e; rw [← e]; exact h3), h.n1, h.n2, h.n3, h.rel, h.few, h.few2⟩

theorem Lay.below (h : Lay w p rb rc ab ac n m D A) (hb : Below w.heap.size w w') : Lay w' p rb rc ab ac n m D A := h.keep (Keep.of_below (F := fun _ => False) hb) (fun h => h) (fun h => h) (fun h => h)

theorem Lay.rowAt (h : Lay w p rb rc ab ac n m D A) {j : Nat} (hj : j < n) : w.cell? ⟨rb, j * 2, none⟩ = some (nu (atD D j).i) ∧ w.cell? ⟨rb, j * 2 + 1, none⟩ = some (nu (atD D j).k) ∧ w.frozen? ⟨rb, j * 2, none⟩ = false ∧ w.frozen? ⟨rb, j * 2 + 1, none⟩ = false := by
  have hf := flat_get D j (by rw [h.hn]; exact hj)
  have h1 := own_cellS h.row _ _ hf.1
  have h2 := own_cellS h.row _ _ hf.2
  exact ⟨h1.1, h2.1, h1.2, h2.2⟩

theorem Lay.atAt (h : Lay w p rb rc ab ac n m D A) {i : Nat} (hi : i < m) : w.cell? ⟨ab, i, none⟩ = some (nu (aN A i)) ∧ w.frozen? ⟨ab, i, none⟩ = false :=
  own_cellS h.at_ _ _ (nus_get A i (by rw [h.hm]; exact hi))

theorem Lay.caps (h : Lay w p rb rc ab ac n m D A) : n ≤ rc ∧ rc ≤ maxLen ∧ m ≤ ac ∧ ac ≤ maxLen := by
  have h1 := h.row.2
  have h2 := h.at_.2
  rcases h1 with ⟨e, _⟩ | ⟨g, cap, cur, e, _, _, a1, a2, _⟩
  · simp at e
  · rcases h2 with ⟨e2, _⟩ | ⟨g2, cap2, cur2, e2, _, _, b1, b2, _⟩
    · simp at e2
    · simp only [Value.slice.injEq] at e e2
      rw [e.2.2, e2.2.2]
      exact ⟨a1, a2, b1, b2⟩
end
end Hq
end Go.Proofs.Ythjdpfmnbmnbhaa
