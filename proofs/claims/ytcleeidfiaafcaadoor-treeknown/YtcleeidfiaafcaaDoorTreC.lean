import Derived.Test.YtcleeidfiaafcaaDoorTrM
import Derived.Test.YtcleeidfiaafcaaDoorTreT
import Derived.Test.YtcleeidfiaafcaaDoorRngC
/- What the program's trees must answer; both sides' trees side by side. -/
namespace Go.Proofs.YtcleeidfiaafcaaDoor
set_option linter.ambiguousOpen false
open Go.RowKit
namespace Tr
open An Rg Ft Lv
set_option linter.unusedSimpArgs false
set_option linter.unusedVariables false

/-- How a tree (at q) over an arena (at p) lies: slots, free ones, writes; the last one of the roots. -/
@[reducible] def RepTy : Type := World → Nat → Nat → (Nat → Prop) → Arn → Int → Prop

/-- The arena of such a tree. -/
@[reducible] def RepTy.ar (R : RepTy) (q : Nat) (l : Int) : World → Nat → (Nat → Prop) → Arn → Prop := fun w p F A => R w p q F A l

/-- What a call leaves of a tree. -/
def LeftT (R : RepTy) (w w' : World) (p q : Nat) (F : Nat → Prop) (A : Arn) (l : Int) : Prop := ∃ G, R w' p q G A l ∧ Keep F w w' ∧ Goes w F G

/-- What the program must answer, call by call. -/
structure TreeC (Rep : World → Nat → (Nat → Prop) → Arn → Prop) (R : RepTy) : Prop where
  keep : ∀ q l, KeepC (R.ar q l)
  get : ∀ q l, GetC (R.ar q l)
  put : ∀ q l, PutC (R.ar q l)
  new : ∀ (w : World) (p : Nat) (F : Nat → Prop) (A : Arn), Rep w p F A → An.Good A → Calls Tryd.prog 14 #[ptr p] w fun e w' => ∃ q G, e = .returned (ptr q) ∧ R w' p q G A (-1) ∧ (∀ k, G k → F k ∨ w.heap.size ≤ k) ∧ Below w.heap.size w w'
  add : ∀ (w : World) (p q : Nat) (F : Nat → Prop) (A : Arn) (l i us ub : Int), R w p q F A l → An.Good A → A.wr ≤ 999999980 → I64 i → I64 us → I64 ub → Calls Tryd.prog 6 #[ptr q, nu i, lkU us ub] w fun e w' => e = .returned (errP (addT A.sl l i us ub).no (addT A.sl l i us ub).pl) ∧ ∃ n, n ≤ 8 ∧ ((addT A.sl l i us ub).no ≠ 0 → n = 0) ∧ LeftT R w w' p q F ⟨(addT A.sl l i us ub).sl, A.fr, A.wr + n⟩ (addT A.sl l i us ub).last
  cut : ∀ (w : World) (p q : Nat) (F : Nat → Prop) (A : Arn) (l i : Int), R w p q F A l → An.Good A → A.wr ≤ 999999980 → I64 i → Calls Tryd.prog 10 #[ptr q, nu i] w fun e w' => e = .returned (errP (cutT A.sl l i).no (cutT A.sl l i).pl) ∧ ∃ n, n ≤ 8 ∧ ((cutT A.sl l i).no ≠ 0 → n = 0) ∧ LeftT R w w' p q F ⟨(cutT A.sl l i).sl, A.fr, A.wr + n⟩ (cutT A.sl l i).last
  last : ∀ (w : World) (p q : Nat) (F : Nat → Prop) (A : Arn) (l : Int), R w p q F A l → Calls Tryd.prog 7 #[ptr q] w fun e w' => e = .returned (nu l) ∧ Below w.heap.size w w'
  roots : ∀ (w : World) (p q : Nat) (F : Nat → Prop) (A : Arn) (l : Int), R w p q F A l → An.Good A → Calls Tryd.prog 22 #[ptr q] w fun e w' => ∃ fv X, e = .returned fv ∧ IterA w' fv X (allL A.sl l) ∧ (∀ b, X b → w.heap.size ≤ b) ∧ Below w.heap.size w w'
  kids : ∀ (w : World) (p q : Nat) (F : Nat → Prop) (A : Arn) (l i : Int), R w p q F A l → An.Good A → I64 i → Calls Tryd.prog 23 #[ptr q, nu i] w fun e w' => ∃ fv X, e = .returned fv ∧ IterA w' fv X (kidsL A.sl i) ∧ (∀ b, X b → w.heap.size ≤ b) ∧ Below w.heap.size w w'
  under : ∀ (w : World) (p q : Nat) (F : Nat → Prop) (A : Arn) (l i : Int), R w p q F A l → An.Good A → I64 i → Calls Tryd.prog 24 #[ptr q, nu i] w fun e w' => ∃ fv X, e = .returned fv ∧ IterA w' fv X (undL A.sl i) ∧ (∀ b, X b → w.heap.size ≤ b) ∧ Below w.heap.size w w'

/-! ### Errors, slots -/

set_option maxRecDepth 100000 in
theorem told17 (no : Nat) (pl : Int) (h : no ≤ 24) (h1 : 0 ≤ pl → 1 ≤ no) (w : World) (hg : Er.Handle w) :
    Calls Tryd.prog 11 #[errP no pl, nun no, nu pl] w fun e w' => e = .returned (.bool true) ∧ Below w.heap.size w w' := by
  unfold errP
  by_cases hp : pl < 0
  · rw [if_pos hp]
    have c1 := Hid.mk' (plainA no h w hg)
    generalize errE no = ev at *
    clear hg h1
    go_enter Tryd.func11, Tryd.ntmps11
    go_wp2_with fail
    refine c1.out.mono ?_
    rintro e w1 ⟨rfl, hb⟩
    have HB := Hid.mk' hb
    clear hb
    go_wp2
    go_ret
    exact ⟨rfl, HB.out⟩
  · rw [if_neg hp]
    have c1 := Hid.mk' (Er.at_at no pl (h1 (by omega)) h w hg)
    unfold Er.atV at c1
    clear hg h1
    go_enter Tryd.func11, Tryd.ntmps11
    go_wp2_with fail
    refine c1.out.mono ?_
    rintro e w1 ⟨rfl, hb⟩
    have HB := Hid.mk' hb
    clear hb
    go_wp2
    go_ret
    exact ⟨rfl, HB.out⟩

theorem at_in (A : Arn) (k : Nat) (h : k < 32) : A.at k = A.sl.getD k bare ∧ Arn.atE k = 0 := Rg.at_in A k h

/-! ### The document's tree -/

section
variable {base : Nat} {w w' : World} {t g : Nat} {F G : Nat → Prop} {A : Arn} {l : Int}

end


end Tr
end Go.Proofs.YtcleeidfiaafcaaDoor
