import Derived.Test.YthabnombfbehkaaRgP
/- Trees in plain words: what is hung, what is cut, what is gone through. No program is named here. -/
namespace Go.Proofs.Ythabnombfbehkaa
set_option linter.ambiguousOpen false
open Go.RowKit
namespace Tr
open An Rg
set_option linter.unusedSimpArgs false
set_option linter.unusedVariables false

/-- What a slot holds. -/
def at' (S : List Slt) (i : Int) : Slt := S.getD i.toNat bare

def usedE (S : List Slt) (i : Int) : Nat := if ¬ there i then 1 else if (at' S i).used = true then 0 else 10

/-- A parent is there. -/
def isUp (S : List Slt) (us ub : Int) : Prop := there us ∧ (at' S us).used = true ∧ (at' S us).s.birth = ub

instance (S : List Slt) (us ub : Int) : Decidable (isUp S us ub) := by unfold isUp; infer_instance

def ringOf (S : List Slt) (last us ub : Int) : Int := if ub = 0 then last else (at' S us).kids

def setK (S : List Slt) (i k : Int) : List Slt := S.set i.toNat { at' S i with kids := k }

/-- A slot hangs below another one. -/
def hung (x : Slt) (us ub : Int) : Slt := ⟨x.used, x.dead, x.kids, x.prev, x.next, { x.s with us := us, ub := ub }, x.tx⟩

def setU (S : List Slt) (i us ub : Int) : List Slt := S.set i.toNat (hung (at' S i) us ub)

/-- What a call answers: the error, its place, the slots, the last one of the roots. -/
structure TAns where
  no : Nat
  pl : Int
  sl : List Slt
  last : Int

def addT (S : List Slt) (last i us ub : Int) : TAns :=
  if usedE S i ≠ 0 then ⟨usedE S i, -1, S, last⟩
  else if ub ≠ 0 ∧ ¬ there us then ⟨1, -1, S, last⟩
  else if ub ≠ 0 ∧ us = i then ⟨9, -1, S, last⟩
  else if ub ≠ 0 ∧ ¬ isUp S us ub then ⟨10, -1, S, last⟩
  else if (push S (ringOf S last us ub) i).no ≠ 0 then ⟨(push S (ringOf S last us ub) i).no, (push S (ringOf S last us ub) i).pl, S, last⟩
  else if ub = 0 then ⟨0, -1, setU (setK (push S last i).sl i (-1)) i 0 0, (push S last i).ans⟩
  else ⟨0, -1, setK (setU (setK (push S (at' S us).kids i).sl i (-1)) i us ub) us (push S (at' S us).kids i).ans, last⟩

def cutU (S : List Slt) (last i us ub : Int) : TAns :=
  if usedE S i ≠ 0 then ⟨usedE S i, -1, S, last⟩
  else if ub ≠ 0 ∧ ¬ isUp S us ub then ⟨10, -1, S, last⟩
  else if (drop S (ringOf S last us ub) i).no ≠ 0 then ⟨(drop S (ringOf S last us ub) i).no, (drop S (ringOf S last us ub) i).pl, S, last⟩
  else if ub = 0 then ⟨0, -1, (drop S last i).sl, (drop S last i).ans⟩
  else ⟨0, -1, setK (drop S (at' S us).kids i).sl us (drop S (at' S us).kids i).ans, last⟩

def cutT (S : List Slt) (last i : Int) : TAns := cutU S last i (at' S i).s.us (at' S i).s.ub

def kidsL (S : List Slt) (i : Int) : List Nat := if there i then allL S (at' S i).kids else []

def und : Nat → List Slt → Nat → List Nat → List Nat
  | 0, _, _, out => out
  | f + 1, S, i, out => if i ∈ out then out else (kidsL S i).foldl (fun o k => und f S k o) (out ++ [i])

def undL (S : List Slt) (i : Int) : List Nat := if there i then und 33 S i.toNat [] else []

theorem setK_len (S : List Slt) (i k : Int) : (setK S i k).length = S.length := by simp [setK]

theorem setU_len (S : List Slt) (i us ub : Int) : (setU S i us ub).length = S.length := by simp [setU]

theorem addT_len (S : List Slt) (last i us ub : Int) : (addT S last i us ub).sl.length = S.length := by
  unfold addT
  repeat' split
  all_goals simp [setK_len, setU_len, push_len]

theorem cutT_len (S : List Slt) (last i : Int) : (cutT S last i).sl.length = S.length := by
  unfold cutT cutU
  repeat' split
  all_goals simp [setK_len, drop_len]

theorem usedE_le (S : List Slt) (i : Int) : usedE S i ≤ 24 := by
  unfold usedE
  repeat' split
  all_goals omega

theorem push_nos (S : List Slt) (l i : Int) : (push S l i).no ≤ 24 ∧ (0 ≤ (push S l i).pl → 1 ≤ (push S l i).no) := by
  unfold push
  repeat' split
  all_goals simp

theorem drop_nos (S : List Slt) (l i : Int) : (drop S l i).no ≤ 24 ∧ (0 ≤ (drop S l i).pl → 1 ≤ (drop S l i).no) := by
  unfold drop
  repeat' split
  all_goals simp

theorem addT_no (S : List Slt) (last i us ub : Int) : (addT S last i us ub).no ≤ 24 ∧ (0 ≤ (addT S last i us ub).pl → 1 ≤ (addT S last i us ub).no) := by
  have h1 := usedE_le S i
  have h2 := push_nos S (ringOf S last us ub) i
  unfold addT
  repeat' split
  all_goals first | exact h2 | simp
  all_goals exact h1

theorem cutT_no (S : List Slt) (last i : Int) : (cutT S last i).no ≤ 24 ∧ (0 ≤ (cutT S last i).pl → 1 ≤ (cutT S last i).no) := by
  have h1 := usedE_le S i
  have h2 := drop_nos S (ringOf S last (at' S i).s.us (at' S i).s.ub) i
  unfold cutT cutU
  repeat' split
  all_goals first | exact h2 | simp
  all_goals exact h1

theorem allL_in (S : List Slt) (last : Int) : ∀ x ∈ allL S last, x < 32 := fun x hx => by
  unfold allL at hx
  split at hx
  · exact goes_lt S last 32 _ x hx
  · simp at hx

theorem kidsL_in (S : List Slt) (i : Int) : ∀ x ∈ kidsL S i, x < 32 := fun x hx => by
  unfold kidsL at hx
  split at hx
  · exact allL_in S _ x hx
  · simp at hx

/-- What is gone through: each once, each a slot, behind what was there. -/
theorem und_ok (S : List Slt) : ∀ (f i : Nat) (out : List Nat), i < 32 → out.Nodup → (∀ x ∈ out, x < 32) → (und f S i out).Nodup ∧ (∀ x ∈ und f S i out, x < 32) ∧ out <+: und f S i out
  | 0, i, out, _, h2, h3 => ⟨h2, h3, List.prefix_refl _⟩
  | f + 1, i, out, h1, h2, h3 => by
    unfold und
    by_cases hm : i ∈ out
    · rw [if_pos hm]
      exact ⟨h2, h3, List.prefix_refl _⟩
    · rw [if_neg hm]
      have key : ∀ (l o : List Nat), (∀ x ∈ l, x < 32) → o.Nodup → (∀ x ∈ o, x < 32) → (l.foldl (fun o k => und f S k o) o).Nodup ∧ (∀ x ∈ l.foldl (fun o k => und f S k o) o, x < 32) ∧ o <+: l.foldl (fun o k => und f S k o) o := by
        intro l
        induction l with
        | nil => exact fun o _ h h' => ⟨h, h', List.prefix_refl _⟩
        | cons k r ih =>
          intro o hl ho ho'
          obtain ⟨a1, a2, a3⟩ := und_ok S f k o (hl k (by simp)) ho ho'
          obtain ⟨b1, b2, b3⟩ := ih _ (fun x hx => hl x (List.mem_cons_of_mem _ hx)) a1 a2
          exact ⟨b1, b2, a3.trans b3⟩
      obtain ⟨a1, a2, a3⟩ := key (kidsL S i) (out ++ [i]) (kidsL_in S i) (List.nodup_append.2 ⟨h2, by simp, fun x hx y hy e => hm (by simp at hy; subst hy; exact e ▸ hx)⟩) (fun x hx => by
        rcases List.mem_append.1 hx with hx | hx
        · exact h3 x hx
        · simp at hx
          omega)
      exact ⟨a1, a2, (List.prefix_append _ _).trans a3⟩
end Tr
end Go.Proofs.Ythabnombfbehkaa
