import Derived.Test.YtnllplholfhbdaaDoorEvS
import Derived.Test.YtnllplholfhbdaaDoorPlace
/- Plain errors. -/
namespace Go.Proofs.YtnllplholfhbdaaDoor
set_option linter.ambiguousOpen false
open Go.RowKit
namespace Ev
open Pk Sm Ft
set_option linter.unusedSimpArgs false
set_option linter.unusedVariables false

theorem plainV (n : Nat) (h : n ≤ 24) (w : World) (hg : Er.Handle w) : Calls Tryd.prog 9 #[errE n, nu n] w fun e w' => e = .returned (.bool true) ∧ Below w.heap.size w w' := by
  cases n with
  | zero => exact Er.plain_nil 0 w
  | succ n =>
    have := Er.plain_no (n + 1) ((n + 1 : Nat) : Int) (by omega) h w hg
    rw [decide_eq_true rfl] at this
    exact this

theorem dec_le (b : List UInt8) : (decE b).2 ≤ 24 := by
  obtain ⟨k, t, hk⟩ : ∃ k t, numT ⟨b, 0, false⟩ = (k, t) := ⟨_, _, rfl⟩
  have hnum : ∀ t : Tkn, t.no ≤ 4 → (numT t).2.no ≤ 4 := fun t h => by
    unfold numT
    by_cases h0 : t.no ≠ 0
    · rw [if_pos h0]; exact h
    · rw [if_neg h0]
      by_cases h1 : (Pk.num t.left).2.2 ≠ 0
      · rw [if_pos h1]
        rcases numG_no 10 0 0 t.left with h2 | ⟨_, _, h2 | h2⟩
        · exact absurd h2 h1
        · show (Pk.num t.left).2.2 ≤ 4
          rw [show (Pk.num t.left).2.2 = 2 from h2]; decide
        · show (Pk.num t.left).2.2 ≤ 4
          rw [show (Pk.num t.left).2.2 = 4 from h2]; decide
      · rw [if_neg h1]; exact Nat.zero_le _
  have hint : ∀ t : Tkn, t.no ≤ 4 → (intT t).2.no ≤ 4 := fun t h => by
    have := hnum t h
    unfold intT
    split
    · exact this
    · exact this
  have htxt : ∀ t : Tkn, t.no ≤ 4 → (txtT t).2.no ≤ 4 := fun t h => by
    unfold txtT
    by_cases h0 : t.no ≠ 0
    · rw [if_pos h0]; exact h
    · rw [if_neg h0]
      by_cases h1 : (taken t.left 32).2.2 ≠ 0
      · rw [if_pos h1]
        show (taken t.left 32).2.2 ≤ 4
        unfold taken
        by_cases h2 : (Pk.num t.left).2.2 ≠ 0
        · rw [if_pos h2]
          rcases numG_no 10 0 0 t.left with h3 | ⟨_, _, h3 | h3⟩
          · exact absurd h3 h2
          · rw [show (Pk.num t.left).2.2 = 2 from h3]; decide
          · rw [show (Pk.num t.left).2.2 = 4 from h3]; decide
        · rw [if_neg h2]
          split
          · decide
          · split
            · decide
            · exact Nat.zero_le _
      · rw [if_neg h1]; exact Nat.zero_le _
  have hborn : ∀ t : Tkn, t.no ≤ 4 → (bornT t).2.no ≤ 4 := fun t h => by
    have k0 := h
    obtain ⟨v1, t1, g1⟩ : ∃ v t', intT t = (v, t') := ⟨_, _, rfl⟩
    have k1 := hint _ k0
    rw [g1] at k1
    obtain ⟨v2, t2, g2⟩ : ∃ v t', intT t1 = (v, t') := ⟨_, _, rfl⟩
    have k2 := hint _ k1
    rw [g2] at k2
    obtain ⟨v3, t3, g3⟩ : ∃ v t', intT t2 = (v, t') := ⟨_, _, rfl⟩
    have k3 := hint _ k2
    rw [g3] at k3
    obtain ⟨v4, t4, g4⟩ : ∃ v t', intT t3 = (v, t') := ⟨_, _, rfl⟩
    have k4 := hint _ k3
    rw [g4] at k4
    obtain ⟨v5, t5, g5⟩ : ∃ v t', intT t4 = (v, t') := ⟨_, _, rfl⟩
    have k5 := hint _ k4
    rw [g5] at k5
    obtain ⟨v6, t6, g6⟩ : ∃ v t', txtT t5 = (v, t') := ⟨_, _, rfl⟩
    have k6 := htxt _ k5
    rw [g6] at k6
    obtain ⟨v7, t7, g7⟩ : ∃ v t', txtT t6 = (v, t') := ⟨_, _, rfl⟩
    have k7 := htxt _ k6
    rw [g7] at k7
    obtain ⟨v8, t8, g8⟩ : ∃ v t', numT t7 = (v, t') := ⟨_, _, rfl⟩
    have k8 := hnum _ k7
    rw [g8] at k8
    obtain ⟨v9, t9, g9⟩ : ∃ v t', intT t8 = (v, t') := ⟨_, _, rfl⟩
    have k9 := hint _ k8
    rw [g9] at k9
    obtain ⟨v10, t10, g10⟩ : ∃ v t', intT t9 = (v, t') := ⟨_, _, rfl⟩
    have k10 := hint _ k9
    rw [g10] at k10
    obtain ⟨v11, t11, g11⟩ : ∃ v t', intT t10 = (v, t') := ⟨_, _, rfl⟩
    have k11 := hint _ k10
    rw [g11] at k11
    obtain ⟨v12, t12, g12⟩ : ∃ v t', intT t11 = (v, t') := ⟨_, _, rfl⟩
    have k12 := hint _ k11
    rw [g12] at k12
    unfold bornT
    simp only [g1, g2, g3, g4, g5, g6, g7, g8, g9, g10, g11, g12]
    exact k12
  have h1 := hnum ⟨b, 0, false⟩ (Nat.zero_le _)
  unfold decE
  rw [hk] at h1 ⊢
  simp only at h1 ⊢
  by_cases h0 : t.no ≠ 0
  · rw [if_pos h0]; show t.no ≤ 24; omega
  · rw [if_neg h0]
    by_cases h2 : 2 < k
    · rw [if_pos h2]; show 1 ≤ 24; decide
    · rw [if_neg h2]
      have hr : (restT k t).2.no ≤ 4 := by
        by_cases k0 : k = 0
        · subst k0
          simp only [rest0]
          exact hborn t h1
        · by_cases k1 : k = 1
          · subst k1
            simp only [rest1]
            exact hint t h1
          · obtain rfl : k = 2 := by omega
            simp only [rest2]
            exact hint t h1
      obtain ⟨x, u, hx⟩ : ∃ x u, restT k t = (x, u) := ⟨(restT k t).1, (restT k t).2, (Prod.eta _).symm⟩
      rw [hx] at hr ⊢
      simp only at hr
      unfold endT
      simp only
      by_cases u0 : u.no ≠ 0
      · rw [if_pos u0]
        show u.no ≤ 24
        omega
      · rw [if_neg u0]
        by_cases u1 : u.left ≠ []
        · rw [if_pos u1]
          show 3 ≤ 24
          decide
        · rw [if_neg u1]
          by_cases u2 : (u.big || !mayE x) = true
          · rw [if_pos u2]
            show 1 ≤ 24
            decide
          · rw [if_neg u2]
            exact Nat.zero_le _

end Ev
end Go.Proofs.YtnllplholfhbdaaDoor
