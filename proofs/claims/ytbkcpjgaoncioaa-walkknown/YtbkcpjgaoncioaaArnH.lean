/- The program's arena: Frees (an iterator over a copy, from its end on), whether a slot is free. -/
import Derived.Test.YtbkcpjgaoncioaaArnG
import Derived.Test.YtbkcpjgaoncioaaArnA
namespace Go.Proofs.Ytbkcpjgaoncioaa
set_option linter.ambiguousOpen false
open Go.RowKit
namespace An
open Ft Lv
set_option linter.unusedSimpArgs false
set_option linter.unusedVariables false
attribute [local go_sem] Oper.semAt_some

/-- Numbers that lie there, the first one last. -/
def RdF (w : World) (v : Value) (L : List Nat) : Prop :=
  ∃ a cap, v = .slice a L.length cap ∧ L.length ≤ cap ∧ cap ≤ maxLen ∧ (0 < L.length → ∃ g, a = some ⟨g, 0, none⟩ ∧ ∀ k i, L.reverse[k]? = some i → w.cell? ⟨g, k, none⟩ = some (nun i))

theorem rdF_own {w : World} {base n : Nat} {v : Value} {L : List Nat} (h : w.ownsRow base 3 1 v n (L.reverse.map nun)) : RdF w v L := by
  have hl := h.1
  simp only [List.length_map, List.length_reverse, Nat.mul_one] at hl
  subst hl
  obtain ⟨a, cap, hv, h1, h2, h3⟩ := Nm.own_shape h
  refine ⟨a, cap, hv, h1, h2, fun h0 => ?_⟩
  obtain ⟨g, rfl⟩ := h3 h0
  subst hv
  refine ⟨g, rfl, fun k i hk => ?_⟩
  have hkl := (List.getElem?_eq_some_iff.1 hk).1
  rw [List.length_reverse] at hkl
  have := h.cellAt (g := g) (cap := cap) k (by omega)
  rw [this, List.getElem?_map, hk]
  rfl

theorem cell_block {A B : World} {b o : Nat} (h : B.heap[b]? = A.heap[b]?) : B.cell? ⟨b, o, none⟩ = A.cell? ⟨b, o, none⟩ := by
  unfold World.cell?
  rw [h]

end An
end Go.Proofs.Ytbkcpjgaoncioaa
