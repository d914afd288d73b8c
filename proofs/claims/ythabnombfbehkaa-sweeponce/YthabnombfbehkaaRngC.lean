import Derived.Test.YthabnombfbehkaaRgM
import Derived.Test.YthabnombfbehkaaArnA
/- What the program's rings must answer; what the laws ask first of errors and slots. -/
namespace Go.Proofs.Ythabnombfbehkaa
set_option linter.ambiguousOpen false
open Go.RowKit
namespace Rg
open An Ft Lv
set_option linter.unusedSimpArgs false
set_option linter.unusedVariables false

/-- An error with its place; below 0: it tells none. -/
def errP (no : Nat) (pl : Int) : Value := if pl < 0 then errE no else .iface 96 (.agg #[.int .i64 (no : Int), .int .i64 pl])

@[reducible] def I64 (i : Int) : Prop := -9223372036854775808 ≤ i ∧ i ≤ 9223372036854775807

def PushC (Rep : World → Nat → (Nat → Prop) → Arn → Prop) : Prop := ∀ (w : World) (p : Nat) (F : Nat → Prop) (A : Arn) (last i : Int), Rep w p F A → An.Good A → A.wr ≤ 999999990 → I64 last → I64 i → Calls Try.prog 30 #[ptr p, nu last, nu i] w fun e w' => e = .returned (.tuple #[nu (push A.sl last i).ans, errP (push A.sl last i).no (push A.sl last i).pl]) ∧ ∃ n, n ≤ 3 ∧ ((push A.sl last i).no ≠ 0 → n = 0) ∧ An.Left Rep w w' p F ⟨(push A.sl last i).sl, A.fr, A.wr + n⟩

def PushU (Rep : World → Nat → (Nat → Prop) → Arn → Prop) : Prop := ∀ (w : World) (p : Nat) (F : Nat → Prop) (A : Arn) (last i : Int), Rep w p F A → An.Good A → A.wr ≤ 999999990 → Calls Try.prog 30 #[ptr p, nu last, nu i] w fun e w' => e = .returned (.tuple #[nu (push A.sl last i).ans, errP (push A.sl last i).no (push A.sl last i).pl]) ∧ ∃ n, n ≤ 3 ∧ ((push A.sl last i).no ≠ 0 → n = 0) ∧ An.Left Rep w w' p F ⟨(push A.sl last i).sl, A.fr, A.wr + n⟩

def DropC (Rep : World → Nat → (Nat → Prop) → Arn → Prop) : Prop := ∀ (w : World) (p : Nat) (F : Nat → Prop) (A : Arn) (last i : Int), Rep w p F A → An.Good A → A.wr ≤ 999999990 → I64 last → I64 i → Calls Try.prog 26 #[ptr p, nu last, nu i] w fun e w' => e = .returned (.tuple #[nu (drop A.sl last i).ans, errP (drop A.sl last i).no (drop A.sl last i).pl]) ∧ ∃ n, n ≤ 3 ∧ ((drop A.sl last i).no ≠ 0 → n = 0) ∧ An.Left Rep w w' p F ⟨(drop A.sl last i).sl, A.fr, A.wr + n⟩

def DropU (Rep : World → Nat → (Nat → Prop) → Arn → Prop) : Prop := ∀ (w : World) (p : Nat) (F : Nat → Prop) (A : Arn) (last i : Int), Rep w p F A → An.Good A → A.wr ≤ 999999990 → Calls Try.prog 26 #[ptr p, nu last, nu i] w fun e w' => e = .returned (.tuple #[nu (drop A.sl last i).ans, errP (drop A.sl last i).no (drop A.sl last i).pl]) ∧ ∃ n, n ≤ 3 ∧ ((drop A.sl last i).no ≠ 0 → n = 0) ∧ An.Left Rep w w' p F ⟨(drop A.sl last i).sl, A.fr, A.wr + n⟩

def SpliceC (Rep : World → Nat → (Nat → Prop) → Arn → Prop) : Prop := ∀ (w : World) (p : Nat) (F : Nat → Prop) (A : Arn) (one two : Int), Rep w p F A → An.Good A → A.wr ≤ 999999990 → I64 one → I64 two → Calls Try.prog 33 #[ptr p, nu one, nu two] w fun e w' => e = .returned (.tuple #[nu (splice A.sl one two).ans, errP (splice A.sl one two).no (splice A.sl one two).pl]) ∧ ∃ n, n ≤ 4 ∧ ((splice A.sl one two).no ≠ 0 → n = 0) ∧ An.Left Rep w w' p F ⟨(splice A.sl one two).sl, A.fr, A.wr + n⟩

def SpliceU (Rep : World → Nat → (Nat → Prop) → Arn → Prop) : Prop := ∀ (w : World) (p : Nat) (F : Nat → Prop) (A : Arn) (one two : Int), Rep w p F A → An.Good A → A.wr ≤ 999999990 → Calls Try.prog 33 #[ptr p, nu one, nu two] w fun e w' => e = .returned (.tuple #[nu (splice A.sl one two).ans, errP (splice A.sl one two).no (splice A.sl one two).pl]) ∧ ∃ n, n ≤ 4 ∧ ((splice A.sl one two).no ≠ 0 → n = 0) ∧ An.Left Rep w w' p F ⟨(splice A.sl one two).sl, A.fr, A.wr + n⟩

def AllC (Rep : World → Nat → (Nat → Prop) → Arn → Prop) : Prop := ∀ (w : World) (p : Nat) (F : Nat → Prop) (A : Arn) (last : Int), Rep w p F A → An.Good A → I64 last → Calls Try.prog 58 #[ptr p, nu last] w fun e w' => ∃ fv X, e = .returned fv ∧ IterA w' fv X (allL A.sl last) ∧ (∀ b, X b → w.heap.size ≤ b) ∧ Below w.heap.size w w'

def AllU (Rep : World → Nat → (Nat → Prop) → Arn → Prop) : Prop := ∀ (w : World) (p : Nat) (F : Nat → Prop) (A : Arn) (last : Int), Rep w p F A → An.Good A → Calls Try.prog 58 #[ptr p, nu last] w fun e w' => ∃ fv X, e = .returned fv ∧ IterA w' fv X (allL A.sl last) ∧ (∀ b, X b → w.heap.size ≤ b) ∧ Below w.heap.size w w'

/-- Links that are turned leave an arena good. -/
theorem good_sl {A : Arn} (h : An.Good A) {S : List Slt} {n : Nat} (hS : S.length = A.sl.length) : An.Good ⟨S, A.fr, n⟩ := ⟨hS.trans h.len, h.nd, h.lt⟩

/-! ### Errors -/

theorem push_no (S : List Slt) (l i : Int) : (push S l i).no ≤ 24 ∧ (0 ≤ (push S l i).pl → 1 ≤ (push S l i).no) := by
  unfold push
  repeat' split
  all_goals simp

theorem drop_no (S : List Slt) (l i : Int) : (drop S l i).no ≤ 24 ∧ (0 ≤ (drop S l i).pl → 1 ≤ (drop S l i).no) := by
  unfold drop
  repeat' split
  all_goals simp

theorem splice_no (S : List Slt) (l i : Int) : (splice S l i).no ≤ 24 ∧ (0 ≤ (splice S l i).pl → 1 ≤ (splice S l i).no) := by
  unfold splice
  repeat' split
  all_goals simp

/-! ### The slots hold the same -/

theorem at_in (A : Arn) (k : Nat) (h : k < 32) : A.at k = A.sl.getD k bare ∧ Arn.atE k = 0 := by
  unfold Arn.at Arn.atE
  rw [if_pos (by omega), if_pos (by omega), Int.toNat_natCast]
  exact ⟨rfl, rfl⟩

end Rg
end Go.Proofs.Ythabnombfbehkaa
