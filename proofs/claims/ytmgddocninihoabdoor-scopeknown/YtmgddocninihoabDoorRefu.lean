/- The document's answer: Under and Compare, each as the same plain function of the texts' bytes. -/
import Derived.Test.YtmgddocninihoabDoorRefs
namespace Go.Proofs.YtmgddocninihoabDoor
open Go.RowKit
namespace Nm

theorem parts_of {l : List UInt8} (h : dottedB l = true) : partsL l = pieces l := by unfold partsL; rw [h]; rfl
theorem parts_not {l : List UInt8} (h : dottedB l = false) : partsL l = [] := by unfold partsL; rw [h]; rfl

theorem under_no1 {a b : List UInt8} (h : dottedB a = false) : underB a b = false := by
  unfold underB; rw [parts_not h]
  cases hp : partsL b with
  | nil => rfl
  | cons x y => simp
theorem under_no2 {a b : List UInt8} (h : dottedB b = false) : underB a b = false := by
  unfold underB; rw [parts_not h]; rfl

theorem eqs_take {pa pb : List (List UInt8)} (hl : pb.length ≤ pa.length) (h : ∀ j (hj : j < pb.length), pa[j]'(by omega) = pb[j]) : pa.take pb.length = pb := by
  apply List.ext_getElem
  · simp; omega
  · intro i h1 h2
    rw [List.getElem_take]
    exact h i h2

theorem under_yes {a b : List UInt8} (ha : dottedB a = true) (hb : dottedB b = true) (hl : (pieces b).length ≤ (pieces a).length) (h : ∀ j (hj : j < (pieces b).length), (pieces a)[j]'(by omega) = (pieces b)[j]) : underB a b = true := by
  unfold underB
  rw [parts_of ha, parts_of hb, eqs_take hl h]
  have := pieces_pos b
  simp; omega

theorem under_miss {a b : List UInt8} (ha : dottedB a = true) (hb : dottedB b = true) (j : Nat) (hj : j < (pieces b).length) (hj2 : j < (pieces a).length) (h : (pieces a)[j] ≠ (pieces b)[j]) : underB a b = false := by
  unfold underB
  rw [parts_of ha, parts_of hb, Bool.and_eq_false_iff]
  right
  rw [beq_eq_false_iff_ne]
  intro e
  apply h
  have : (List.take (pieces b).length (pieces a))[j]? = (pieces b)[j]? := by rw [e]
  rw [List.getElem?_take_of_lt hj, List.getElem?_eq_getElem hj2, List.getElem?_eq_getElem hj] at this
  exact Option.some.inj this

/-! bytewise -/
theorem cb_drop (a b : List UInt8) (k : Nat) (ha : k < a.length) (hb : k < b.length) (he : a[k] = b[k]) : Lib.compareBytes (a.drop k) (b.drop k) = Lib.compareBytes (a.drop (k + 1)) (b.drop (k + 1)) := by
  rw [List.drop_eq_getElem_cons ha, List.drop_eq_getElem_cons hb, Lib.compareBytes, he]
  simp
theorem cb_less (a b : List UInt8) (k : Nat) (ha : k < a.length) (hb : k < b.length) (he : a[k].toNat < b[k].toNat) : Lib.compareBytes (a.drop k) (b.drop k) = -1 := by
  rw [List.drop_eq_getElem_cons ha, List.drop_eq_getElem_cons hb, Lib.compareBytes, if_pos (UInt8.lt_iff_toNat_lt.2 he)]
theorem cb_more (a b : List UInt8) (k : Nat) (ha : k < a.length) (hb : k < b.length) (he : b[k].toNat < a[k].toNat) : Lib.compareBytes (a.drop k) (b.drop k) = 1 := by
  rw [List.drop_eq_getElem_cons ha, List.drop_eq_getElem_cons hb, Lib.compareBytes, if_neg (by rw [UInt8.lt_iff_toNat_lt]; omega), if_pos (UInt8.lt_iff_toNat_lt.2 he)]
theorem cb_end (a b : List UInt8) (k : Nat) (h : k = a.length ∨ k = b.length) (ha : k ≤ a.length) (hb : k ≤ b.length) :
    Lib.compareBytes (a.drop k) (b.drop k) = if a.length = b.length then 0 else if a.length < b.length then -1 else 1 := by
  rcases Nat.lt_or_ge k a.length with h1 | h1
  · have : k = b.length := by omega
    subst this
    rw [List.drop_length, List.drop_eq_getElem_cons h1, if_neg (by omega), if_neg (by omega)]
    rfl
  · rw [List.drop_of_length_le h1]
    rcases Nat.lt_or_ge k b.length with h2 | h2
    · rw [List.drop_eq_getElem_cons h2, if_neg (by omega), if_pos (by omega)]; rfl
    · rw [List.drop_of_length_le h2, if_pos (by omega)]; rfl

end Nm
end Go.Proofs.YtmgddocninihoabDoor
