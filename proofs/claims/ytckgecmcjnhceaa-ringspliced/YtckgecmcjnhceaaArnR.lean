/- The document's arena: how it lies, and its calls. -/
import Derived.Test.YtckgecmcjnhceaaArnP
import Derived.Test.YtckgecmcjnhceaaOwn
import Derived.Laws.ResultCell
namespace Go.Proofs.Ytckgecmcjnhceaa
set_option linter.ambiguousOpen false
open Go.RowKit
namespace An
open Ft Lv
set_option linter.unusedSimpArgs false
set_option linter.unusedVariables false

/-- Where it lies. -/
def rfp (g : Nat) (sv fv : Value) (k : Nat) : Prop := k = g ∨ sv.ownBlock = some k ∨ fv.ownBlock = some k

section
variable {base : Nat} {w w' : World} {g : Nat} {sv fv : Value} {A : Arn}

theorem own_cellsT {e : TypeId} {size n : Nat} {v : Value} {xs : List Value} (h : w.ownsRow base e size v n xs) {k : Nat} (hk : v.ownBlock = some k) : ∃ cur, w.heap[k]? = some (.cells cur e (0, 0)) ∧ base ≤ k := by
  rcases h.2 with ⟨rfl, _⟩ | ⟨b, cap, cur, rfl, hb, hc, _⟩
  · simp [Value.ownBlock] at hk
  · obtain rfl : b = k := by simpa [Value.ownBlock] using hk
    exact ⟨cur, hc, hb⟩

end


/-! ### The list of free ones -/

/-- Where a slot stands among the free ones. -/
def pos (l : List Nat) (i : Nat) : Int := if i ∈ l then (l.idxOf i : Int) else -1

theorem idx_first (l : List Nat) (i k : Nat) (hk : k < l.length) (he : l[k]? = some i) (hn : ∀ j, j < k → l[j]? ≠ some i) : l.idxOf i = k := by
  induction l generalizing k with
  | nil => simp at hk
  | cons a l ih =>
    cases k with
    | zero =>
      simp at he
      subst he
      simp
    | succ k =>
      have h0 := hn 0 (by omega)
      have ha : a ≠ i := fun e => h0 (by simp [e])
      have := ih k (by simpa using hk) (by simpa using he) (fun j hj => by
        have := hn (j + 1) (by omega)
        simpa using this)
      have hb : (a == i) = false := by simpa using ha
      rw [List.idxOf_cons, this, hb]
      rfl

end An
end Go.Proofs.Ytckgecmcjnhceaa
