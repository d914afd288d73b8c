/- The document's heap: Key, Least, Pairs; ahead. -/
import Derived.Test.YteclbmmhidmklaaHepR
import Derived.BigQuiet
namespace Go.Proofs.Yteclbmmhidmklaa
set_option linter.ambiguousOpen false
open Go.RowKit
namespace Hh
open Ft
set_option linter.unusedSimpArgs false
set_option linter.unusedVariables false
attribute [local go_sem] Oper.semAt_some

theorem keyH_app (A B : List It) (i : Int) : keyH (A ++ B) i = (keyH A i).or (keyH B i) := by
  unfold keyH
  rw [List.find?_append]
  cases List.find? (fun x => x.i == i) A <;> rfl

theorem keyH_at {L : List It} {i : Int} {k : Nat} {x : It} (hx : L[k]? = some x) (h : keyH (L.take k) i = none) : (x.i = i → keyH L i = some x.k) ∧ (x.i ≠ i → keyH (L.take (k + 1)) i = none) := by
  obtain ⟨hk, hxe⟩ := List.getElem?_eq_some_iff.1 hx
  have e : L.take (k + 1) = L.take k ++ [x] := by rw [← hxe]; exact List.take_succ_eq_append_getElem hk
  constructor
  · intro he
    rw [← List.take_append_drop (k + 1) L, keyH_app, e, keyH_app, h]
    simp [keyH, he]
  · intro he
    rw [e, keyH_app, h]
    simp [keyH, he]

/-- The first one. -/
def fstI (L : List It) : Int := match L with
  | [] => 0
  | x :: _ => x.i

def fstK (L : List It) : Int := match L with
  | [] => 0
  | x :: _ => x.k

end Hh
end Go.Proofs.Yteclbmmhidmklaa
