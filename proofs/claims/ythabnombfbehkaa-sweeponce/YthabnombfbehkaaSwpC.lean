import Derived.Test.YthabnombfbehkaaSwM
import Derived.Test.YthabnombfbehkaaRngC
/- What the program's garbage must answer; the document's, as it lies. -/
namespace Go.Proofs.Ythabnombfbehkaa
set_option linter.ambiguousOpen false
open Go.RowKit
namespace Sw
open An Rg Ft Lv
set_option linter.unusedSimpArgs false
set_option linter.unusedVariables false

/-- How garbage (at q) over an arena (at p) lies: slots, free ones, writes; the last one of its ring. -/
@[reducible] def RepTy : Type := World → Nat → Nat → (Nat → Prop) → Arn → Int → Prop

/-- Its arena. -/
@[reducible] def RepTy.ar (R : RepTy) (q : Nat) (l : Int) : World → Nat → (Nat → Prop) → Arn → Prop := fun w p F A => R w p q F A l

/-- What a call leaves of it. -/
def LeftT (R : RepTy) (w w' : World) (p q : Nat) (F : Nat → Prop) (A : Arn) (l : Int) : Prop := ∃ G, R w' p q G A l ∧ Keep F w w' ∧ Goes w F G

/-- What All must answer. -/
def AllG (R : RepTy) : Prop := ∀ (w : World) (p q : Nat) (F : Nat → Prop) (A : Arn) (l : Int), R w p q F A l → An.Good A → okL l → Calls Try.prog 16 #[ptr q] w fun e w' => ∃ fv X, e = .returned fv ∧ IterA w' fv X (allG A.sl l) ∧ (∀ b, X b → w.heap.size ≤ b) ∧ Below w.heap.size w w'

/-! ### Errors -/

theorem at_in (A : Arn) (k : Nat) (h : k < 32) : A.at k = A.sl.getD k bare ∧ Arn.atE k = 0 := Rg.at_in A k h

/-! ### The document's garbage -/

section
variable {base : Nat} {w w' : World} {t g : Nat} {F G : Nat → Prop} {A : Arn} {l : Int}

end


theorem unit_good {A : Arn} (h : An.Good A) (l : Int) (n : Nat) : An.Good ⟨(unitG A.sl A.fr l).sl, (unitG A.sl A.fr l).fr, n⟩ := by
  refine ⟨(unitG_len A.sl A.fr l).trans h.len, ?_, ?_⟩
  · rcases unitG_fr A.sl A.fr l with e | ⟨f, _, h2, e⟩
    · show (unitG A.sl A.fr l).fr.Nodup
      rw [e]
      exact h.nd
    · show (unitG A.sl A.fr l).fr.Nodup
      rw [e]
      exact List.nodup_cons.2 ⟨h2, h.nd⟩
  · rcases unitG_fr A.sl A.fr l with e | ⟨f, h1, _, e⟩
    · show ∀ i ∈ (unitG A.sl A.fr l).fr, i < 32
      rw [e]
      exact h.lt
    · show ∀ i ∈ (unitG A.sl A.fr l).fr, i < 32
      rw [e]
      intro i hi
      rcases List.mem_cons.1 hi with rfl | hi
      · exact h1
      · exact h.lt i hi

theorem add_good {A : Arn} (h : An.Good A) (l i : Int) (n : Nat) : An.Good ⟨(addG A.sl l i).sl, A.fr, n⟩ := ⟨(addG_len A.sl l i).trans h.len, h.nd, h.lt⟩

end Sw
end Go.Proofs.Ythabnombfbehkaa
