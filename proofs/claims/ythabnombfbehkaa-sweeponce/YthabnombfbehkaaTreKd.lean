import Derived.Test.YthabnombfbehkaaTrF
import Derived.Test.YthabnombfbehkaaShelf
import Derived.Test.YthabnombfbehkaaRngN
/- The program's trees: New, Last, Roots, Kids; a slot's children, the last one first. -/
namespace Go.Proofs.Ythabnombfbehkaa
set_option linter.ambiguousOpen false
open Go.RowKit
namespace Tr
open An Rg Ft Lv
set_option linter.unusedSimpArgs false
set_option linter.unusedVariables false
attribute [local go_sem] Oper.semAt_some

section
variable {Rep : World → Nat → (Nat → Prop) → Arn → Prop}

set_option maxRecDepth 100000 in
theorem new_p (C : ArC Rep) (w : World) (p : Nat) (F : Nat → Prop) (A : Arn) (h : Rep w p F A) (hg : An.Good A) :
    Calls Try.prog 18 #[ptr p] w fun e w' => ∃ q G, e = .returned (ptr q) ∧ RepT Rep w' p q G A (-1) ∧ (∀ k, G k → F k ∨ w.heap.size ≤ k) ∧ Below w.heap.size w w' := by
  have hB : Below w.heap.size w (w.alloc (.cells #[ptr p, nu (-1)] 68)) := (Below.refl _ _).alloc (Nat.le_refl _) _
  have HB := Hid.mk' hB
  have HR : Hid (RepT Rep (w.alloc (.cells #[ptr p, nu (-1)] 68)) p w.heap.size (fun k => k = w.heap.size ∨ F k) A (-1)) := ⟨F, C.keep.below h hB, heap_alloc_new _ _, fun e => by have := C.keep.lt h _ e; omega, rfl⟩
  clear hB h hg C
  go_enter Try.func18, Try.ntmps18
  go_wp2
  go_ret
  exact ⟨_, _, rfl, HR.out, fun k hk => hk.elim (fun e => .inr (by omega)) .inl, HB.out⟩

/-- All, from a later world on. -/
theorem all_h (C : ArC Rep) (w : World) (p q : Nat) (F : Nat → Prop) (A : Arn) (l r : Int) (h : RepT Rep w p q F A l) (hg : An.Good A) (wx : World) (hb : Below w.heap.size w wx) :
    Calls Try.prog 58 #[ptr p, nu r] wx fun e w' => ∃ gf lb, e = .returned (.func (.func gf) #[] lb) ∧ Hid (Below w.heap.size w w' ∧ Below wx.heap.size wx w' ∧ ∃ X, IterA w' (.func (.func gf) #[] lb) X (allL A.sl r) ∧ ∀ b, X b → w.heap.size ≤ b) := by
  obtain ⟨Fa, h1, h2, h3, rfl⟩ := h.below C.keep hb
  refine (C.all wx p Fa A r h1 hg).mono ?_
  rintro e w' ⟨fv, X, rfl, hit, hX, hb'⟩
  obtain ⟨gf, lb, k, rfl, rest⟩ := hit
  exact ⟨gf, lb, rfl, hb.trans (hb'.mono hb.size), hb', X, ⟨gf, lb, k, rfl, rest⟩, fun b hx => Nat.le_trans hb.size (hX b hx)⟩

end
end Tr
end Go.Proofs.Ythabnombfbehkaa
