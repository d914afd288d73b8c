import Derived.Test.YteclbmmhidmklaaDoorHqP
/- Rows that are put into their order: plain facts. No program is named here. -/
namespace Go.Proofs.YteclbmmhidmklaaDoor
namespace Hq
open Hh
set_option linter.unusedSimpArgs false
set_option linter.unusedVariables false

/-- From a to b others may stand elsewhere; nothing else has turned. -/
structure Pm (a b : Nat) (D E : List It) : Prop where
  perm : E.Perm D
  out : ∀ j, (j < a ∨ b ≤ j) → atD E j = atD D j
  seg : ∀ j, a ≤ j → j < b → ∃ k, a ≤ k ∧ k < b ∧ atD E j = atD D k

theorem Pm.refl (a b : Nat) (D : List It) : Pm a b D D := ⟨List.Perm.refl _, fun _ _ => rfl, fun j h1 h2 => ⟨j, h1, h2, rfl⟩⟩

theorem Pm.len {a b : Nat} {D E : List It} (h : Pm a b D E) : E.length = D.length := h.perm.length_eq

theorem Pm.trans {a b : Nat} {D E F : List It} (h : Pm a b D E) (k : Pm a b E F) : Pm a b D F :=
  ⟨k.perm.trans h.perm, fun j hj => (k.out j hj).trans (h.out j hj), fun j h1 h2 => by
    obtain ⟨x, x1, x2, x3⟩ := k.seg j h1 h2
    obtain ⟨y, y1, y2, y3⟩ := h.seg x x1 x2
    exact ⟨y, y1, y2, x3.trans y3⟩⟩

theorem Pm.wide {a b c d : Nat} {D E : List It} (h : Pm a b D E) (hc : c ≤ a) (hd : b ≤ d) : Pm c d D E :=
  ⟨h.perm, fun j hj => h.out j (by omega), fun j h1 h2 => by
    by_cases hj : a ≤ j ∧ j < b
    · obtain ⟨k, k1, k2, k3⟩ := h.seg j hj.1 hj.2
      exact ⟨k, by omega, by omega, k3⟩
    · exact ⟨j, h1, h2, h.out j (by omega)⟩⟩

theorem Pm.swp {a b : Nat} (D : List It) {i j : Nat} (h1 : a ≤ i) (h2 : i < b) (h3 : a ≤ j) (h4 : j < b) (hb : b ≤ D.length) : Pm a b D (swp D i j) :=
  ⟨swp_perm D i j (by omega) (by omega), fun k hk => by rw [swp_at D i j k (by omega) (by omega), if_neg (by omega), if_neg (by omega)], fun k k1 k2 => by
    rw [swp_at D i j k (by omega) (by omega)]
    by_cases e : k = j
    · exact ⟨i, h1, h2, by rw [if_pos e]⟩
    · rw [if_neg e]
      by_cases e2 : k = i
      · exact ⟨j, h3, h4, by rw [if_pos e2]⟩
      · exact ⟨k, k1, k2, by rw [if_neg e2]⟩⟩

/-- From a to b each is ahead of those behind it. -/
def Srt (a b : Nat) (D : List It) : Prop := ∀ i j, a ≤ i → i < j → j < b → ahd (atD D i) (atD D j) = true

theorem Srt.one (a b : Nat) (D : List It) (h : b ≤ a + 1) : Srt a b D := fun i j h1 h2 h3 => by omega

/-- All from a to i stand in their order but for the one at j, which is ahead of those behind it. -/
structure Ins (a i j : Nat) (D : List It) : Prop where
  off : ∀ x y, a ≤ x → x < y → y ≤ i → x ≠ j → y ≠ j → ahd (atD D x) (atD D y) = true
  by_ : ∀ y, j < y → y ≤ i → ahd (atD D j) (atD D y) = true

theorem Ins.start {a i : Nat} {D : List It} (h : Srt a i D) : Ins a i i D :=
  ⟨fun x y h1 h2 h3 h4 h5 => h x y h1 h2 (by omega), fun y h1 h2 => by omega⟩

theorem Ins.step {a i q : Nat} {D : List It} (h : Ins a i (q + 1) D) (hq : a ≤ q) (hi : q + 1 ≤ i) (hl : i < D.length) (hg : ahd (atD D (q + 1)) (atD D q) = true) : Ins a i q (swp D (q + 1) q) := by
  have hat := fun k => swp_at D (q + 1) q k (by omega) (by omega)
  refine ⟨fun x y h1 h2 h3 h4 h5 => ?_, fun y h1 h2 => ?_⟩
  · rw [hat, hat, if_neg h4, if_neg h5]
    by_cases e : x = q + 1
    · rw [if_pos e, if_neg (by omega)]
      exact h.off q y hq (by omega) h3 (by omega) (by omega)
    · rw [if_neg e]
      by_cases e2 : y = q + 1
      · rw [if_pos e2]
        exact h.off x q h1 (by omega) (by omega) e (by omega)
      · rw [if_neg e2]
        exact h.off x y h1 h2 h3 e e2
  · rw [hat, hat, if_pos rfl, if_neg (by omega)]
    by_cases e : y = q + 1
    · rw [if_pos e]
      exact hg
    · rw [if_neg e]
      exact h.by_ y (by omega) h2

theorem Ins.stop {a i j : Nat} {D : List It} (h : Ins a i j D) (hu : Unl D) (hl : i < D.length) (hj : j ≤ i) (hg : j ≤ a ∨ ahd (atD D j) (atD D (j - 1)) = false) : Srt a (i + 1) D := by
  intro x y h1 h2 h3
  by_cases e : x = j
  · subst e
    exact h.by_ y h2 (by omega)
  · by_cases e2 : y = j
    · subst e2
      rcases hg with hg | hg
      · omega
      · have h4 : ahd (atD D (y - 1)) (atD D y) = true := ahd_total (hu.ne (by omega) (by omega) (by omega)) (by rw [hg]; simp)
        by_cases e3 : x = y - 1
        · rw [e3]
          exact h4
        · exact ahd_trans (h.off x (y - 1) h1 (by omega) (by omega) e (by omega)) h4
    · exact h.off x y h1 h2 (by omega) e e2

/-- All ahead of a are ahead of all from a to b. -/
def Bef (a b : Nat) (D : List It) : Prop := ∀ x y, x < a → a ≤ y → y < b → ahd (atD D x) (atD D y) = true

theorem Bef.pm {a b : Nat} {D E : List It} (h : Bef a b D) (hp : Pm a b D E) : Bef a b E := fun x y h1 h2 h3 => by
  obtain ⟨k, k1, k2, k3⟩ := hp.seg y h2 h3
  rw [hp.out x (by omega), k3]
  exact h x k h1 k1 k2
end Hq
end Go.Proofs.YteclbmmhidmklaaDoor
