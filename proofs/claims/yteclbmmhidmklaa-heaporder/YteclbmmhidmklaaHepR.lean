/- The document's heap: New, Drop, Key, Least. -/
import Derived.Test.YteclbmmhidmklaaHepS
import Derived.Deep.RegionHeld3
import Derived.RangeFuncBox
namespace Go.Proofs.Yteclbmmhidmklaa
set_option linter.ambiguousOpen false
open Go.RowKit
namespace Hh
open Ft
set_option linter.unusedSimpArgs false
set_option linter.unusedVariables false

theorem drop_lt (L : List It) (i : Int) : ((dropH L i).length < L.length) ↔ hasH L i = true := by
  unfold dropH hasH
  induction L with
  | nil => simp
  | cons x L ih =>
    have h2 := List.length_filter_le (fun x => !(x.i == i)) L
    rw [List.filter_cons, List.any_cons]
    cases hx : x.i == i
    · have e1 : (x :: L).length = L.length + 1 := rfl
      simp only [Bool.not_false, if_true, List.length_cons, Bool.false_or]
      rw [← ih]
      omega
    · simp
      omega

theorem dropH_take (L : List It) (i : Int) (k : Nat) (x : It) (hx : L[k]? = some x) : dropH (L.take (k + 1)) i = if x.i = i then dropH (L.take k) i else dropH (L.take k) i ++ [x] := by
  have e : L.take (k + 1) = L.take k ++ [x] := by
    obtain ⟨h1, rfl⟩ := List.getElem?_eq_some_iff.1 hx
    exact List.take_succ_eq_append_getElem h1
  rw [e]
  unfold dropH
  rw [List.filter_append]
  by_cases h : x.i = i
  · rw [if_pos h]
    simp [h]
  · rw [if_neg h]
    simp [h]

section
variable {base t : Nat} {w w' : World} {N : Int} {lv : Value} {L : List It}

end


end Hh
end Go.Proofs.Yteclbmmhidmklaa
