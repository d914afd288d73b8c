/- The document's arena: Put, Give, New. -/
import Derived.Test.YtckgecmcjnhceaaArnS
namespace Go.Proofs.Ytckgecmcjnhceaa
set_option linter.ambiguousOpen false
open Go.RowKit
namespace An
open Ft Lv
set_option linter.unusedSimpArgs false
set_option linter.unusedVariables false

theorem heap_setCells (b : Nat) (T : TypeId) : ∀ (vs : List Value) (o : Nat) (w : World) (C : Array Value), w.heap[b]? = some (.cells C T) → o + vs.length ≤ C.size → ∃ C' : Array Value, (w.setCells b o vs).heap[b]? = some (.cells C' T) ∧ C'.toList = C.toList.take o ++ vs ++ C.toList.drop (o + vs.length)
  | [], o, w, C, h, hs => ⟨C, h, by simp⟩
  | v :: r, o, w, C, h, hs => by
    simp only [List.length_cons] at hs
    have h1 := heap_setCell_same w b o C T v h
    obtain ⟨C', h2, h3⟩ := heap_setCells b T r (o + 1) (w.setCell ⟨b, o, none⟩ v) _ h1 (by simp; omega)
    refine ⟨C', h2, ?_⟩
    have ho : o < C.toList.length := by rw [Array.length_toList]; omega
    have e0 : (C.toList.set o v).drop (o + 1 + r.length) = C.toList.drop (o + 1 + r.length) := List.drop_set_of_lt (by omega)
    rw [h3, Array.toList_setIfInBounds, List.take_set, e0]
    have e : (C.toList.take (o + 1)).set o v = C.toList.take o ++ [v] := by
      rw [List.take_add_one, List.getElem?_eq_getElem ho, List.set_append_right _ _ (by rw [List.length_take]; omega), List.length_take, show o - min o C.toList.length = 0 by omega]
      simp
    rw [e]
    simp only [List.length_cons, List.append_assoc, List.cons_append, List.nil_append]
    rw [show o + 1 + r.length = o + (r.length + 1) by omega]

theorem grown_setCells (b : Nat) : ∀ (vs : List Value) (o : Nat) (w : World), w.grownBy (w.setCells b o vs) (some b)
  | [], o, w => ⟨rfl, rfl, rfl, Nat.le_refl _, fun _ _ _ => rfl⟩
  | v :: r, o, w => by
    have ih := grown_setCells b r (o + 1) (w.setCell ⟨b, o, none⟩ v)
    exact ⟨ih.os, ih.tape, ih.output, by have := ih.size; rw [World.setCells]; simpa using this, fun k hk hn => (ih.block k (by simpa using hk) hn).trans (Below.heap_setCell _ _ _ k (fun e => hn (by rw [e])))⟩

section
variable {base : Nat} {w : World} {g b cap : Nat} {fv : Value} {A : Arn}

end


end An
end Go.Proofs.Ytckgecmcjnhceaa
