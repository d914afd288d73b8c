/- The document's rings: All; its calls over an arena. -/
import Derived.Test.YtckgecmcjnhceaaRngS
namespace Go.Proofs.Ytckgecmcjnhceaa
set_option linter.ambiguousOpen false
open Go.RowKit
namespace Rg
open An Ft Lv
set_option linter.unusedSimpArgs false
set_option linter.unusedVariables false

theorem goes_no (S : List Slt) (last i : Int) (f : Nat) (h : ¬ there i) : goes S last f i = [] := by
  cases f with
  | zero => rfl
  | succ f => unfold goes; rw [if_neg h]

theorem goes_last (S : List Slt) (last i : Int) (f : Nat) (h : there i) (he : i = last) : goes S last (f + 1) i = [i.toNat] := by
  unfold goes
  rw [if_pos h, if_pos he]

theorem goes_more (S : List Slt) (last i : Int) (f : Nat) (h : there i) (he : i ≠ last) : goes S last (f + 1) i = i.toNat :: goes S last f (nx S i) := by
  conv => lhs; unfold goes
  rw [if_pos h, if_neg he]

end Rg
end Go.Proofs.Ytckgecmcjnhceaa
