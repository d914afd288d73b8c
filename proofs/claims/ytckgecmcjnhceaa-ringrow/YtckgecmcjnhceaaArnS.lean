/- The document's arena: a slot is taken out of the free ones; Take, Place. -/
import Derived.Test.YtckgecmcjnhceaaArnR
namespace Go.Proofs.Ytckgecmcjnhceaa
set_option linter.ambiguousOpen false
open Go.RowKit
namespace An
open Ft Lv
set_option linter.unusedSimpArgs false
set_option linter.unusedVariables false

theorem erase_step (l : List Nat) (k i x : Nat) (hx : l[i]? = some x) : (l.take (i + 1)).eraseIdx k = if i = k then (l.take i).eraseIdx k else (l.take i).eraseIdx k ++ [x] := by
  have hi : i < l.length := (List.getElem?_eq_some_iff.1 hx).1
  have e : l.take (i + 1) = l.take i ++ [x] := by
    rw [List.take_add_one, hx]
    rfl
  have hl : (l.take i).length = i := by rw [List.length_take]; omega
  rw [e]
  rcases Nat.lt_trichotomy i k with h | h | h
  · rw [if_neg (by omega), List.eraseIdx_of_length_le (by simp [hl]; omega), List.eraseIdx_of_length_le (by rw [hl]; omega)]
  · subst h
    have e2 : (l.take i).eraseIdx i = l.take i := List.eraseIdx_of_length_le (by rw [hl]; exact Nat.le_refl _)
    rw [if_pos rfl, List.eraseIdx_append_of_length_le (by rw [hl]; exact Nat.le_refl _), hl, e2, Nat.sub_self]
    simp
  · rw [if_neg (by omega), List.eraseIdx_append_of_lt_length (by rw [hl]; exact h)]

theorem erase_idx (i : Nat) : ∀ l : List Nat, l.eraseIdx (l.idxOf i) = l.erase i
  | [] => rfl
  | a :: l => by
    rw [List.idxOf_cons, List.erase_cons]
    cases h : a == i with
    | true => simp
    | false => simp [erase_idx i l]

theorem pos_in {l : List Nat} {i : Nat} (h : i ∈ l) : pos l i = (l.idxOf i : Int) ∧ l.eraseIdx (l.idxOf i) = l.erase i := ⟨by rw [pos, if_pos h], erase_idx i l⟩

theorem pos_out {l : List Nat} {i : Nat} (h : i ∉ l) : pos l i = -1 := by rw [pos, if_neg h]

end An
end Go.Proofs.Ytckgecmcjnhceaa
