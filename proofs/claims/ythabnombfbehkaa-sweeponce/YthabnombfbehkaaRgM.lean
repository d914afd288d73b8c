/- RngR, RngS, RngT, in one text. -/
import Derived.Test.YthabnombfbehkaaRgP
import Derived.Test.YthabnombfbehkaaArM
/- The document's rings: Well, link, Push, Drop, Splice. -/
namespace Go.Proofs.Ythabnombfbehkaa
set_option linter.ambiguousOpen false
open Go.RowKit
namespace Rg
open An Ft Lv
set_option linter.unusedSimpArgs false
set_option linter.unusedVariables false

/-- One cell of a row of one's own is written. -/
theorem own_cellSet {w : World} {base g cap n size : Nat} {e : TypeId} {xs : List Value} (h : w.ownsRow base e size (.slice (some ⟨g, 0, none⟩) n cap) n xs) (i : Nat) (u : Value) :
    (w.setCell ⟨g, i, none⟩ u).ownsRow base e size (.slice (some ⟨g, 0, none⟩) n cap) n (xs.set i u) := by
  rcases h.2 with ⟨hv, _⟩ | ⟨g', cap', cur, hv, hbg, hg, hnc, hcm, hcs, htake⟩
  · simp at hv
  · simp only [Value.slice.injEq, Option.some.injEq, Addr.mk.injEq, and_true, true_and] at hv
    obtain ⟨rfl, rfl⟩ := hv
    refine ⟨by simpa using h.1, .inr ⟨g, cap, cur.setIfInBounds i u, rfl, hbg, ?_, hnc, hcm, by simpa using hcs, ?_⟩⟩
    · have hlt : g < w.heap.size := (Array.getElem?_eq_some_iff.1 hg).1
      simp [World.setCell, Array.getElem?_modify, hg]
    · rw [← htake]
      simp [List.take_set]

theorem scs_mid (S : List Slt) (k : Nat) (hk : k < S.length) (x : Slt) (j : Nat) (v : Value) (hj : j < 17) (hx : (S.getD k bare).cells.set j v = x.cells) : scs (S.set k x) = (scs S).set (k * 17 + j) v := by
  have h0 : S.set k (S.getD k bare) = S := by
    rw [List.getD_eq_getElem?_getD, List.getElem?_eq_getElem hk]
    simp
  have h1 := scs_set S k x hk
  have h2 := scs_set S k (S.getD k bare) hk
  have hlen := scs_len S
  rw [h0] at h2
  have hl : ((scs S).take (k * 17)).length = k * 17 := by rw [List.length_take]; omega
  rw [h1]
  conv => rhs; rw [h2]
  rw [List.append_assoc, List.append_assoc, List.set_append_right _ _ (by omega), hl, Nat.add_sub_cancel_left, List.set_append_left _ _ (by rw [Slt.len]; exact hj), hx]

section
variable {base : Nat} {w : World} {g b cap : Nat} {fv : Value} {A : Arn}

end


end Rg
end Go.Proofs.Ythabnombfbehkaa
/- The document's rings: Push, Drop, Splice. -/
namespace Go.Proofs.Ythabnombfbehkaa
set_option linter.ambiguousOpen false
open Go.RowKit
namespace Rg
open An Ft Lv
set_option linter.unusedSimpArgs false
set_option linter.unusedVariables false

end Rg
end Go.Proofs.Ythabnombfbehkaa
/- The document's rings: All; its calls over an arena. -/
namespace Go.Proofs.Ythabnombfbehkaa
set_option linter.ambiguousOpen false
open Go.RowKit
namespace Rg
open An Ft Lv
set_option linter.unusedSimpArgs false
set_option linter.unusedVariables false

theorem goes_no (S : List Slt) (last i : Int) (f : Nat) (h : ¬ there i) : goes S last f i = [] := by
  cases f with
  | zero => rfl
  | succ f => unfold goes; rw [if_neg h]

theorem goes_last (S : List Slt) (last i : Int) (f : Nat) (h : there i) (he : i = last) : goes S last (f + 1) i = [i.toNat] := by
  unfold goes
  rw [if_pos h, if_pos he]

theorem goes_more (S : List Slt) (last i : Int) (f : Nat) (h : there i) (he : i ≠ last) : goes S last (f + 1) i = i.toNat :: goes S last f (nx S i) := by
  conv => lhs; unfold goes
  rw [if_pos h, if_neg he]

end Rg
end Go.Proofs.Ythabnombfbehkaa
