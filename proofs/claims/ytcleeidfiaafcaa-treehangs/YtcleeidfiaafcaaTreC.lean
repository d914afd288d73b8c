import Derived.Test.YtcleeidfiaafcaaTrM
import Derived.Test.YtcleeidfiaafcaaTreT
import Derived.Test.YtcleeidfiaafcaaRngC
/- What the program's trees must answer; both sides' trees side by side. -/
namespace Go.Proofs.Ytcleeidfiaafcaa
set_option linter.ambiguousOpen false
open Go.RowKit
namespace Tr
open An Rg Ft Lv
set_option linter.unusedSimpArgs false
set_option linter.unusedVariables false

/-- How a tree (at q) over an arena (at p) lies: slots, free ones, writes; the last one of the roots. -/
@[reducible] def RepTy : Type := World → Nat → Nat → (Nat → Prop) → Arn → Int → Prop

/-- The arena of such a tree. -/
@[reducible] def RepTy.ar (R : RepTy) (q : Nat) (l : Int) : World → Nat → (Nat → Prop) → Arn → Prop := fun w p F A => R w p q F A l

/-- What a call leaves of a tree. -/
def LeftT (R : RepTy) (w w' : World) (p q : Nat) (F : Nat → Prop) (A : Arn) (l : Int) : Prop := ∃ G, R w' p q G A l ∧ Keep F w w' ∧ Goes w F G

/-- What the program must answer, call by call. -/
structure TreeC (Rep : World → Nat → (Nat → Prop) → Arn → Prop) (R : RepTy) : Prop where
  keep : ∀ q l, KeepC (R.ar q l)
  get : ∀ q l, GetC (R.ar q l)
  put : ∀ q l, PutC (R.ar q l)
  new : ∀ (w : World) (p : Nat) (F : Nat → Prop) (A : Arn), Rep w p F A → An.Good A → Calls Try.prog 16 #[ptr p] w fun e w' => ∃ q G, e = .returned (ptr q) ∧ R w' p q G A (-1) ∧ (∀ k, G k → F k ∨ w.heap.size ≤ k) ∧ Below w.heap.size w w'
  add : ∀ (w : World) (p q : Nat) (F : Nat → Prop) (A : Arn) (l i us ub : Int), R w p q F A l → An.Good A → A.wr ≤ 999999980 → I64 i → I64 us → I64 ub → Calls Try.prog 7 #[ptr q, nu i, lkU us ub] w fun e w' => e = .returned (errP (addT A.sl l i us ub).no (addT A.sl l i us ub).pl) ∧ ∃ n, n ≤ 8 ∧ ((addT A.sl l i us ub).no ≠ 0 → n = 0) ∧ LeftT R w w' p q F ⟨(addT A.sl l i us ub).sl, A.fr, A.wr + n⟩ (addT A.sl l i us ub).last
  cut : ∀ (w : World) (p q : Nat) (F : Nat → Prop) (A : Arn) (l i : Int), R w p q F A l → An.Good A → A.wr ≤ 999999980 → I64 i → Calls Try.prog 10 #[ptr q, nu i] w fun e w' => e = .returned (errP (cutT A.sl l i).no (cutT A.sl l i).pl) ∧ ∃ n, n ≤ 8 ∧ ((cutT A.sl l i).no ≠ 0 → n = 0) ∧ LeftT R w w' p q F ⟨(cutT A.sl l i).sl, A.fr, A.wr + n⟩ (cutT A.sl l i).last
  last : ∀ (w : World) (p q : Nat) (F : Nat → Prop) (A : Arn) (l : Int), R w p q F A l → Calls Try.prog 9 #[ptr q] w fun e w' => e = .returned (nu l) ∧ Below w.heap.size w w'
  roots : ∀ (w : World) (p q : Nat) (F : Nat → Prop) (A : Arn) (l : Int), R w p q F A l → An.Good A → Calls Try.prog 24 #[ptr q] w fun e w' => ∃ fv X, e = .returned fv ∧ IterA w' fv X (allL A.sl l) ∧ (∀ b, X b → w.heap.size ≤ b) ∧ Below w.heap.size w w'
  kids : ∀ (w : World) (p q : Nat) (F : Nat → Prop) (A : Arn) (l i : Int), R w p q F A l → An.Good A → I64 i → Calls Try.prog 25 #[ptr q, nu i] w fun e w' => ∃ fv X, e = .returned fv ∧ IterA w' fv X (kidsL A.sl i) ∧ (∀ b, X b → w.heap.size ≤ b) ∧ Below w.heap.size w w'
  under : ∀ (w : World) (p q : Nat) (F : Nat → Prop) (A : Arn) (l i : Int), R w p q F A l → An.Good A → I64 i → Calls Try.prog 26 #[ptr q, nu i] w fun e w' => ∃ fv X, e = .returned fv ∧ IterA w' fv X (undL A.sl i) ∧ (∀ b, X b → w.heap.size ≤ b) ∧ Below w.heap.size w w'

/-! ### Errors, slots -/

theorem at_in (A : Arn) (k : Nat) (h : k < 32) : A.at k = A.sl.getD k bare ∧ Arn.atE k = 0 := Rg.at_in A k h

/-! ### The document's tree -/

section
variable {base : Nat} {w w' : World} {t g : Nat} {F G : Nat → Prop} {A : Arn} {l : Int}

end


end Tr
end Go.Proofs.Ytcleeidfiaafcaa
