/- The document's heap: Set. -/
import Derived.Test.YteclbmmhidmklaaHepT
import Derived.Deep.CutBlock
namespace Go.Proofs.Yteclbmmhidmklaa
set_option linter.ambiguousOpen false
open Go.RowKit
namespace Hh
open Ft
set_option linter.unusedSimpArgs false
set_option linter.unusedVariables false
attribute [local go_sem] Oper.semAt_some

/-- Where a row of items lies that begins k further on. -/
def furtherI (a : Option Addr) (cap k : Nat) : Option Addr :=
  match a with
  | none => none
  | some ad => if cap = k then some ad else some (if k * 2 = 0 then ad else { block := ad.block, off := ad.off + k * 2 })

theorem RdI.drop {w : World} {a : Option Addr} {l : List It} {cap : Nat} (h : RdI w (.slice a l.length cap) l) (m : Nat) (hm : m ≤ l.length) : RdI w (.slice (furtherI a cap m) (l.length - m) (cap - m)) (l.drop m) := by
  obtain ⟨a', cap', e, h1, h2, h3⟩ := h
  cases e
  have hl : (l.drop m).length = l.length - m := by rw [List.length_drop]
  refine ⟨furtherI a cap m, cap - m, by rw [hl], by omega, by unfold maxLen at *; omega, fun h0 => ?_⟩
  rw [hl] at h0
  obtain ⟨g, o, rfl, e3⟩ := h3 (by omega)
  refine ⟨g, o + m * 2, ?_, fun j hj c v hv => ?_⟩
  · unfold furtherI
    dsimp only
    rw [if_neg (by omega)]
    by_cases h4 : m = 0
    · subst h4
      simp
    · rw [if_neg (by omega)]
  · rw [hl] at hj
    have := e3 (m + j) (by omega) c v (by rw [← hv, List.getElem_drop])
    rwa [show o + (m + j) * 2 + c = o + m * 2 + j * 2 + c by omega] at this

theorem ins_at {D : List It} {x : It} {k : Nat} (h1 : ∀ y ∈ D.take k, ahd y x = true) (h2 : D.length ≤ k ∨ ∃ y, D[k]? = some y ∧ ahd y x = false) : D.take k ++ x :: D.drop k = insH D x := by
  have e := List.take_append_drop k D
  have hw : D.takeWhile (fun y => ahd y x) = D.take k ∧ D.dropWhile (fun y => ahd y x) = D.drop k := by
    have ht : ∀ (A B : List It), (∀ y ∈ A, ahd y x = true) → (B = [] ∨ ∃ y B', B = y :: B' ∧ ahd y x = false) → (A ++ B).takeWhile (fun y => ahd y x) = A ∧ (A ++ B).dropWhile (fun y => ahd y x) = B := by
      intro A
      induction A with
      | nil =>
        intro B _ hB
        rcases hB with rfl | ⟨y, B', rfl, hy⟩
        · exact ⟨rfl, rfl⟩
        · simp [hy]
      | cons z A ih =>
        intro B hA hB
        have hz := hA z (by simp)
        obtain ⟨i1, i2⟩ := ih B (fun y hy => hA y (by simp [hy])) hB
        simp [hz, i1, i2]
    have := ht (D.take k) (D.drop k) h1 (by
      rcases h2 with h2 | ⟨y, hy, hf⟩
      · left
        exact List.drop_eq_nil_of_le h2
      · right
        obtain ⟨hk, hye⟩ := List.getElem?_eq_some_iff.1 hy
        exact ⟨y, D.drop (k + 1), by rw [List.drop_eq_getElem_cons hk, hye], hf⟩)
    rwa [e] at this
  unfold insH
  rw [hw.1, hw.2]

theorem own_shape {w : World} {base n size : Nat} {e : TypeId} {v : Value} {xs : List Value} (h : w.ownsRow base e size v n xs) : ∃ a c, v = .slice a n c := by
  have h2 := h.2
  rcases h2 with ⟨rfl, h0⟩ | ⟨g, cap, cur, rfl, _⟩
  · exact ⟨none, 0, by rw [h0]⟩
  · exact ⟨_, cap, rfl⟩

end Hh
end Go.Proofs.Yteclbmmhidmklaa
