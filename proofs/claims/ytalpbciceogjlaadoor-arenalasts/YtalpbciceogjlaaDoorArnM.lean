/- Each slot is free, once, or taken: out of what the program's calls must answer. -/
import Derived.Test.YtalpbciceogjlaaDoorArnW
namespace Go.Proofs.YtalpbciceogjlaaDoor
set_option linter.ambiguousOpen false
open Go.RowKit
namespace An
open Ft Lv
set_option linter.unusedSimpArgs false
set_option linter.unusedVariables false
attribute [local go_sem] Oper.semAt_some

section
variable {Rep : World → Nat → (Nat → Prop) → Arn → Prop} {w0 w w' : World} {p X1 T : Nat} {F : Nat → Prop} {A A' : Arn}

end


theorem put_fr (A : Arn) (i : Int) (x : Slt) : (A.put i x).2.fr = A.fr := by
  unfold Arn.put
  split <;> rfl

theorem take_fr_nil {A : Arn} (h : A.fr = []) : A.take = (19, 0, A) := by
  unfold Arn.take
  rw [h]

theorem take_fr_cons {A : Arn} {i : Nat} {r : List Nat} (h : A.fr = i :: r) : A.take = (0, i, ⟨A.sl, r, A.wr⟩) := by
  unfold Arn.take
  rw [h]

theorem there_nat {q : Nat} (h : q < 32) : there (q : Int) := by unfold there; omega

theorem place_in {A : Arn} {q : Nat} (h : q < 32) (hm : q ∈ A.fr) : A.place (q : Int) = (0, ⟨A.sl, A.fr.erase q, A.wr⟩) := by
  unfold Arn.place
  rw [if_pos (there_nat h)]
  simp only [Int.toNat_natCast]
  rw [if_pos hm]

theorem place_out {A : Arn} {q : Nat} (h : q < 32) (hm : q ∉ A.fr) : A.place (q : Int) = (10, A) := by
  unfold Arn.place
  rw [if_pos (there_nat h)]
  simp only [Int.toNat_natCast]
  rw [if_neg hm]

theorem free_in {A : Arn} {q : Nat} (h : q < 32) (hm : q ∈ A.fr) : A.free (q : Int) = (9, A) := by
  unfold Arn.free
  rw [if_pos (there_nat h)]
  simp only [Int.toNat_natCast]
  rw [if_pos hm]

theorem free_out {A : Arn} {q : Nat} (h : q < 32) (hm : q ∉ A.fr) : A.free (q : Int) = (0, ⟨A.sl.set q bare, q :: A.fr, A.wr + 1⟩) := by
  unfold Arn.free
  rw [if_pos (there_nat h)]
  simp only [Int.toNat_natCast]
  rw [if_neg hm]

theorem put_in {A : Arn} {q : Nat} (h : q < 32) (s : Slt) : (A.put (q : Int) s).1 = 0 := by
  unfold Arn.put
  rw [if_pos (there_nat h)]

end An
end Go.Proofs.YtalpbciceogjlaaDoor
