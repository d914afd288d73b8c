import Derived.Test.YthabnombfbehkaaTrM
import Derived.Test.YthabnombfbehkaaRngC
/- What the program's trees must answer; both sides' trees side by side. -/
namespace Go.Proofs.Ythabnombfbehkaa
set_option linter.ambiguousOpen false
open Go.RowKit
namespace Tr
open An Rg Ft Lv
set_option linter.unusedSimpArgs false
set_option linter.unusedVariables false

/-- How a tree (at q) over an arena (at p) lies: slots, free ones, writes; the last one of the roots. -/
@[reducible] def RepTy : Type := World → Nat → Nat → (Nat → Prop) → Arn → Int → Prop

/-- The arena of such a tree. -/
@[reducible] def RepTy.ar (R : RepTy) (q : Nat) (l : Int) : World → Nat → (Nat → Prop) → Arn → Prop := fun w p F A => R w p q F A l

/-- What a call leaves of a tree. -/
def LeftT (R : RepTy) (w w' : World) (p q : Nat) (F : Nat → Prop) (A : Arn) (l : Int) : Prop := ∃ G, R w' p q G A l ∧ Keep F w w' ∧ Goes w F G

/-! ### Errors, slots -/

theorem at_in (A : Arn) (k : Nat) (h : k < 32) : A.at k = A.sl.getD k bare ∧ Arn.atE k = 0 := Rg.at_in A k h

/-! ### The document's tree -/

section
variable {base : Nat} {w w' : World} {t g : Nat} {F G : Nat → Prop} {A : Arn} {l : Int}

end


end Tr
end Go.Proofs.Ythabnombfbehkaa
