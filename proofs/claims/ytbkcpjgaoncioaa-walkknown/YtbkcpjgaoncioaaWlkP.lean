/- Up the links in plain words. No program is named here. -/
import Derived.Test.YtbkcpjgaoncioaaArnP
namespace Go.Proofs.Ytbkcpjgaoncioaa
set_option linter.ambiguousOpen false
open Go.RowKit
namespace Wk
open An
set_option linter.unusedSimpArgs false
set_option linter.unusedVariables false

/-- What a slot holds. -/
def atW (S : List Slt) (i : Int) : Slt := S.getD i.toNat bare

/-- A slot holds the session of a link. -/
def hold (S : List Slt) (s b : Int) : Prop := there s ∧ 1 ≤ b ∧ (atW S s).used = true ∧ (atW S s).dead = false ∧ (atW S s).s.birth = b

instance (S : List Slt) (s b : Int) : Decidable (hold S s b) := by unfold hold; infer_instance

/-- The slots that one comes to, and: does it live? -/
def up : Nat → List Slt → Int → Int → List Nat × Bool
  | 0, _, _, _ => ([], false)
  | f + 1, S, s, b => if hold S s b then (if (atW S s).s.ub = 0 then ([s.toNat], true) else (s.toNat :: (up f S (atW S s).s.us (atW S s).s.ub).1, (up f S (atW S s).s.us (atW S s).s.ub).2)) else ([], false)

theorem up_no (f : Nat) (S : List Slt) (s b : Int) (h : ¬ hold S s b) : up (f + 1) S s b = ([], false) := if_neg h

theorem up_top (f : Nat) (S : List Slt) (s b : Int) (h : hold S s b) (h0 : (atW S s).s.ub = 0) : up (f + 1) S s b = ([s.toNat], true) := by
  unfold up
  rw [if_pos h, if_pos h0]

theorem up_on (f : Nat) (S : List Slt) (s b : Int) (h : hold S s b) (h0 : (atW S s).s.ub ≠ 0) : up (f + 1) S s b = (s.toNat :: (up f S (atW S s).s.us (atW S s).s.ub).1, (up f S (atW S s).s.us (atW S s).s.ub).2) := by
  rw [up, if_pos h, if_neg h0]

theorem up_len : ∀ (f : Nat) (S : List Slt) (s b : Int), (up f S s b).1.length ≤ f
  | 0, _, _, _ => by simp [up]
  | f + 1, S, s, b => by
    by_cases h : hold S s b
    · by_cases h0 : (atW S s).s.ub = 0
      · rw [up_top f S s b h h0]
        simp
      · rw [up_on f S s b h h0]
        have := up_len f S (atW S s).s.us (atW S s).s.ub
        simp
        omega
    · rw [up_no f S s b h]
      simp

theorem up_pos : ∀ (f : Nat) (S : List Slt) (s b : Int), (up f S s b).2 = true → 1 ≤ (up f S s b).1.length
  | 0, _, _, _, h => by simp [up] at h
  | f + 1, S, s, b, h => by
    by_cases hh : hold S s b
    · by_cases h0 : (atW S s).s.ub = 0
      · rw [up_top f S s b hh h0]
        simp
      · rw [up_on f S s b hh h0]
        simp
    · rw [up_no f S s b hh] at h
      simp at h

theorem up_lt : ∀ (f : Nat) (S : List Slt) (s b : Int), ∀ x ∈ (up f S s b).1, x < 32
  | 0, _, _, _, x, hx => by simp [up] at hx
  | f + 1, S, s, b, x, hx => by
    by_cases hh : hold S s b
    · have ht := hh.1
      by_cases h0 : (atW S s).s.ub = 0
      · rw [up_top f S s b hh h0] at hx
        simp at hx
        omega
      · rw [up_on f S s b hh h0] at hx
        simp only [List.mem_cons] at hx
        rcases hx with rfl | hx
        · omega
        · exact up_lt f S _ _ x hx
    · rw [up_no f S s b hh] at hx
      simp at hx

/-- Does it live; how many times one has gone up; the path. -/
def livB (S : List Slt) (s b : Int) : Bool := (up 7 S s b).2

def livN (S : List Slt) (s b : Int) : Nat := if (up 7 S s b).2 = true then (up 7 S s b).1.length - 1 else min (up 7 S s b).1.length 6

def pth (S : List Slt) (s b : Int) : List Nat := if (up 7 S s b).2 = true then (up 7 S s b).1 else []

theorem pth_len (S : List Slt) (s b : Int) : (pth S s b).length ≤ 7 := by
  unfold pth
  split
  · exact up_len 7 S s b
  · simp

theorem pth_lt (S : List Slt) (s b : Int) : ∀ x ∈ pth S s b, x < 32 := fun x hx => by
  unfold pth at hx
  split at hx
  · exact up_lt 7 S s b x hx
  · simp at hx

theorem livN_le (S : List Slt) (s b : Int) : livN S s b ≤ 6 := by
  have := up_len 7 S s b
  unfold livN
  split <;> omega
end Wk
end Go.Proofs.Ytbkcpjgaoncioaa
