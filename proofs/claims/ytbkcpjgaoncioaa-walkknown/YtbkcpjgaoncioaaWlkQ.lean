/- Up the links in plain words: what a path is; lines of slots. No program is named here. -/
import Derived.Test.YtbkcpjgaoncioaaWlkP
namespace Go.Proofs.Ytbkcpjgaoncioaa
set_option linter.ambiguousOpen false
open Go.RowKit
namespace Wk
open An
set_option linter.unusedSimpArgs false
set_option linter.unusedVariables false

/-- With more steps allowed the same is told, where it lives. -/
theorem up_more : ∀ (f g : Nat) (S : List Slt) (s b : Int), f ≤ g → (up f S s b).2 = true → up g S s b = up f S s b
  | 0, g, S, s, b, _, h => by simp [up] at h
  | f + 1, 0, S, s, b, hg, _ => by omega
  | f + 1, g + 1, S, s, b, hg, h => by
    by_cases hh : hold S s b
    · by_cases h0 : (atW S s).s.ub = 0
      · rw [up_top f S s b hh h0, up_top g S s b hh h0]
      · rw [up_on f S s b hh h0] at h ⊢
        rw [up_on g S s b hh h0, up_more f g S _ _ (by omega) h]
    · rw [up_no f S s b hh] at h
      simp at h

/-- Each slot of a path lives by its own link. -/
theorem up_drop : ∀ (f : Nat) (S : List Slt) (s b : Int), (up f S s b).2 = true → ∀ (i : Nat) (hi : i < (up f S s b).1.length), up f S ((up f S s b).1[i] : Nat) (atW S ((up f S s b).1[i] : Nat)).s.birth = ((up f S s b).1.drop i, true)
  | 0, S, s, b, h, _, _ => by simp [up] at h
  | f + 1, S, s, b, h, i, hi => by
    by_cases hh : hold S s b
    · have ht := hh.1
      have hs : ((s.toNat : Nat) : Int) = s := by omega
      by_cases h0 : (atW S s).s.ub = 0
      · have e := up_top f S s b hh h0
        have hi0 : i = 0 := by rw [e] at hi; simp at hi; exact hi
        subst hi0
        have e1 : (up (f + 1) S s b).1[0] = s.toNat := by simp [e]
        rw [e1, hs, hh.2.2.2.2, e]
        rfl
      · have e := up_on f S s b hh h0
        have h' : (up f S (atW S s).s.us (atW S s).s.ub).2 = true := by rw [e] at h; exact h
        cases i with
        | zero =>
          have e1 : (up (f + 1) S s b).1[0] = s.toNat := by simp [e]
          rw [e1, hs, hh.2.2.2.2]
          rw [List.drop_zero]
          exact Prod.ext rfl h
        | succ i =>
          have hi' : i < (up f S (atW S s).s.us (atW S s).s.ub).1.length := by
            have : (up (f + 1) S s b).1.length = (up f S (atW S s).s.us (atW S s).s.ub).1.length + 1 := by rw [e]; rfl
            omega
          have e1 : (up (f + 1) S s b).1[i + 1] = (up f S (atW S s).s.us (atW S s).s.ub).1[i] := by simp [e]
          have e2 : (up (f + 1) S s b).1.drop (i + 1) = (up f S (atW S s).s.us (atW S s).s.ub).1.drop i := by rw [e]; rfl
          have ih := up_drop f S _ _ h' i hi'
          rw [e1, e2, up_more f (f + 1) S _ _ (by omega) (by rw [ih]), ih]
    · rw [up_no f S s b hh] at h
      simp at h

/-- None comes twice. -/
theorem up_once (f : Nat) (S : List Slt) (s b : Int) (h : (up f S s b).2 = true) (i j : Nat) (hi : i < (up f S s b).1.length) (hj : j < (up f S s b).1.length) (e : (up f S s b).1[i] = (up f S s b).1[j]) : i = j := by
  have h1 := up_drop f S s b h i hi
  have h2 := up_drop f S s b h j hj
  rw [e, h2] at h1
  have := congrArg (fun q => q.1.length) h1
  simp at this
  omega

/-- The first one is the link's own; the last one, and no other, has no parent. -/
theorem up_first (f : Nat) (S : List Slt) (s b : Int) (h : (up f S s b).2 = true) (h0 : 0 < (up f S s b).1.length) : ((up f S s b).1[0] : Int) = s := by
  cases f with
  | zero => simp [up] at h
  | succ f =>
    by_cases hh : hold S s b
    · have ht := hh.1
      by_cases hz : (atW S s).s.ub = 0
      · have e1 : (up (f + 1) S s b).1[0] = s.toNat := by simp [up_top f S s b hh hz]
        rw [e1]
        omega
      · have e1 : (up (f + 1) S s b).1[0] = s.toNat := by simp [up_on f S s b hh hz]
        rw [e1]
        omega
    · rw [up_no f S s b hh] at h
      simp at h

theorem up_end (f : Nat) (S : List Slt) (s b : Int) (h : (up f S s b).2 = true) (h0 : 0 < (up f S s b).1.length) : (atW S ((up f S s b).1[0] : Nat)).s.ub = 0 ↔ (up f S s b).1.length = 1 := by
  have hs := up_first f S s b h h0
  rw [hs]
  cases f with
  | zero => simp [up] at h
  | succ f =>
    by_cases hh : hold S s b
    · by_cases hz : (atW S s).s.ub = 0
      · rw [up_top f S s b hh hz]
        simp [hz]
      · have e := up_on f S s b hh hz
        have h' : (up f S (atW S s).s.us (atW S s).s.ub).2 = true := by rw [e] at h; exact h
        have hp := up_pos f S _ _ h'
        rw [e]
        simp only [List.length_cons]
        constructor
        · intro q; exact absurd q hz
        · intro q; omega
    · rw [up_no f S s b hh] at h
      simp at h

/-! ### What a path says -/

theorem pth_yes {S : List Slt} {s b : Int} (h : livB S s b = true) : pth S s b = (up 7 S s b).1 ∧ (pth S s b).length = livN S s b + 1 := by
  unfold livB at h
  have hp := up_pos 7 S s b h
  have e : pth S s b = (up 7 S s b).1 := if_pos h
  refine ⟨e, ?_⟩
  rw [e]
  unfold livN
  rw [if_pos h]
  omega

theorem pth_no {S : List Slt} {s b : Int} (h : livB S s b = false) : pth S s b = [] := by
  unfold livB at h
  exact if_neg (by rw [h]; decide)

/-- Of the slot at i of a path. -/
theorem pth_at {S : List Slt} {s b : Int} (h : livB S s b = true) (i : Nat) (hi : i < (pth S s b).length) : livB S ((pth S s b)[i] : Nat) (atW S ((pth S s b)[i] : Nat)).s.birth = true ∧ livN S ((pth S s b)[i] : Nat) (atW S ((pth S s b)[i] : Nat)).s.birth + i = livN S s b ∧ ((atW S ((pth S s b)[i] : Nat)).s.ub = 0 ↔ i = livN S s b) := by
  obtain ⟨e, hl⟩ := pth_yes h
  have hi' : i < (up 7 S s b).1.length := by rw [← e]; exact hi
  have ei : (pth S s b)[i] = (up 7 S s b).1[i] := by simp [e]
  have hd := up_drop 7 S s b h i hi'
  rw [ei]
  have hlen : (up 7 S s b).1.length = livN S s b + 1 := by rw [← e]; exact hl
  have h2 : (up 7 S ((up 7 S s b).1[i] : Nat) (atW S ((up 7 S s b).1[i] : Nat)).s.birth).2 = true := by rw [hd]
  refine ⟨h2, ?_, ?_⟩
  · unfold livN
    rw [if_pos h2, hd, if_pos (show (up 7 S s b).2 = true from h), List.length_drop]
    omega
  · have h0 : 0 < (up 7 S ((up 7 S s b).1[i] : Nat) (atW S ((up 7 S s b).1[i] : Nat)).s.birth).1.length := by rw [hd, List.length_drop]; omega
    have he := up_end 7 S _ _ h2 h0
    have hf := up_first 7 S _ _ h2 h0
    rw [hf] at he
    rw [he, hd, List.length_drop, hlen]
    omega

theorem pth_once {S : List Slt} {s b : Int} (i j : Nat) (hi : i < (pth S s b).length) (hj : j < (pth S s b).length) (e : (pth S s b)[i] = (pth S s b)[j]) : i = j := by
  cases h : livB S s b with
  | false =>
    rw [pth_no h] at hi
    simp at hi
  | true =>
    obtain ⟨e1, _⟩ := pth_yes h
    have hi' : i < (up 7 S s b).1.length := by rw [← e1]; exact hi
    have hj' : j < (up 7 S s b).1.length := by rw [← e1]; exact hj
    have ei : (pth S s b)[i] = (up 7 S s b).1[i] := by simp [e1]
    have ej : (pth S s b)[j] = (up 7 S s b).1[j] := by simp [e1]
    rw [ei, ej] at e
    exact up_once 7 S s b h i j hi' hj' e

theorem pth_first {S : List Slt} {s b : Int} (h : livB S s b = true) (h0 : 0 < (pth S s b).length) : ((pth S s b)[0] : Int) = s := by
  obtain ⟨e, _⟩ := pth_yes h
  have h0' : 0 < (up 7 S s b).1.length := by rw [← e]; exact h0
  have ei : (pth S s b)[0] = (up 7 S s b).1[0] := by simp [e]
  rw [ei]
  exact up_first 7 S s b h h0'

/-! ### Lines -/

/-- A line of slots: which of them hold their sessions, and what is above each. -/
structure Lin (S : List Slt) (l : Nat → Nat) (n : Nat) (alive : Nat → Bool) : Prop where
  on : ∀ k, k < n → (hold S (l k) (10 + (k : Int)) ↔ alive k = true)
  top : 0 < n → alive 0 = true → (atW S (l 0)).s.ub = 0
  up : ∀ k, k + 1 < n → alive (k + 1) = true → (atW S (l (k + 1))).s.us = l k ∧ (atW S (l (k + 1))).s.ub = 10 + (k : Int)

theorem Lin.lives {S : List Slt} {l : Nat → Nat} {n : Nat} {alive : Nat → Bool} (h : Lin S l n alive) : ∀ (k f : Nat), k < n → k + 1 ≤ f → ((∀ j, j ≤ k → alive j = true) → (Wk.up f S (l k) (10 + (k : Int))).2 = true ∧ (Wk.up f S (l k) (10 + (k : Int))).1.length = k + 1) ∧ ((∃ j, j ≤ k ∧ alive j = false) → (Wk.up f S (l k) (10 + (k : Int))).2 = false ∧ (Wk.up f S (l k) (10 + (k : Int))).1.length ≤ k)
  | 0, 0, _, hf => by omega
  | k + 1, 0, _, hf => by omega
  | 0, f + 1, hk, _ => by
    cases ha : alive 0 with
    | true =>
      have hh := (h.on 0 hk).2 ha
      have e := up_top f S (l 0) (10 + ((0 : Nat) : Int)) hh (h.top hk ha)
      refine ⟨fun _ => by rw [e]; simp, fun ⟨j, hj, hja⟩ => ?_⟩
      obtain rfl : j = 0 := by omega
      rw [ha] at hja
      cases hja
    | false =>
      have hh : ¬ hold S (l 0) (10 + ((0 : Nat) : Int)) := fun q => by have := (h.on 0 hk).1 q; rw [ha] at this; cases this
      have e := up_no f S (l 0) (10 + ((0 : Nat) : Int)) hh
      refine ⟨fun q => (by have := q 0 (Nat.le_refl _); rw [ha] at this; cases this), fun _ => (by rw [e]; simp)⟩
  | k + 1, f + 1, hk, hf => by
    cases ha : alive (k + 1) with
    | true =>
      have hh := (h.on (k + 1) hk).2 ha
      obtain ⟨u1, u2⟩ := h.up k hk ha
      have e := up_on f S (l (k + 1)) (10 + ((k + 1 : Nat) : Int)) hh (by rw [u2]; omega)
      rw [u1, u2] at e
      obtain ⟨i1, i2⟩ := h.lives k f (by omega) (by omega)
      refine ⟨fun q => ?_, fun ⟨j, hj, hja⟩ => ?_⟩
      · obtain ⟨g1, g2⟩ := i1 (fun j hj => q j (by omega))
        rw [e]
        exact ⟨g1, by simp [g2]⟩
      · have hjk : j ≤ k := by
          rcases Nat.lt_or_ge k j with q | q
          · obtain rfl : j = k + 1 := by omega
            rw [ha] at hja
            cases hja
          · exact q
        obtain ⟨g1, g2⟩ := i2 ⟨j, hjk, hja⟩
        rw [e]
        exact ⟨g1, by simp; exact g2⟩
    | false =>
      have hh : ¬ hold S (l (k + 1)) (10 + ((k + 1 : Nat) : Int)) := fun q => by have := (h.on (k + 1) hk).1 q; rw [ha] at this; cases this
      have e := up_no f S (l (k + 1)) (10 + ((k + 1 : Nat) : Int)) hh
      refine ⟨fun q => (by have := q (k + 1) (Nat.le_refl _); rw [ha] at this; cases this), fun _ => (by rw [e]; simp)⟩

/-- Told as the law asks it. -/
theorem Lin.told {S : List Slt} {l : Nat → Nat} {n : Nat} {alive : Nat → Bool} (h : Lin S l n alive) (hn : n ≤ 7) (k : Nat) (hk : k < n) : ((∀ j, j ≤ k → alive j = true) → livB S (l k) (10 + (k : Int)) = true ∧ livN S (l k) (10 + (k : Int)) = k) ∧ ((∃ j, j ≤ k ∧ alive j = false) → livB S (l k) (10 + (k : Int)) = false ∧ livN S (l k) (10 + (k : Int)) ≤ k) := by
  obtain ⟨h1, h2⟩ := h.lives k 7 hk (by omega)
  refine ⟨fun q => ?_, fun q => ?_⟩
  · obtain ⟨g1, g2⟩ := h1 q
    refine ⟨g1, ?_⟩
    unfold livN
    rw [if_pos g1, g2]
    omega
  · obtain ⟨g1, g2⟩ := h2 q
    refine ⟨g1, ?_⟩
    unfold livN
    rw [if_neg (by rw [g1]; decide)]
    omega
end Wk
end Go.Proofs.Ytbkcpjgaoncioaa
