/- One act, whichever it is. -/
import Derived.Test.YtalpbciceogjlaaDoorArnD1
import Derived.Test.YtalpbciceogjlaaDoorArnD2
import Derived.Test.YtalpbciceogjlaaDoorArnD3
namespace Go.Proofs.YtalpbciceogjlaaDoor
set_option linter.ambiguousOpen false
open Go.RowKit
namespace An
open Ft Lv
set_option linter.unusedVariables false

theorem does_any {Rep : World → Nat → (Nat → Prop) → Arn → Prop} (H : KeepC Rep) (CG : GetC Rep) (CP : PutC Rep) (CT : TakeC Rep) (CL : PlaceC Rep) (CX : FreeC Rep) (CF : FreesC Rep) (CW : WritesC Rep) (base : Nat) (w0 w : World) (p g : Nat) (F G : Nat → Prop) (A : Arn) (k n : Int) (s : Slt)
    (hP : Pr Rep (RepA base) w0 w p g F G A A) (hwr : A.wr ≤ 999999999) (hE : Er.Handle w0) (hk : -9223372036854775808 ≤ k ∧ k ≤ 9223372036854775807) (hn : -9223372036854775808 ≤ n ∧ n ≤ 9223372036854775807) :
    Calls Tryd.prog 8 #[ptr p, ptr g, actV k n s] w fun e w' => e = .returned (.bool true) ∧ ∃ F' G', Dn Rep (RepA base) w0 w w' p g F G F' G' (step A k n s) (step A k n s) := by
  rcases (show k % 7 = ((0 : Nat) : Int) ∨ k % 7 = ((1 : Nat) : Int) ∨ k % 7 = ((2 : Nat) : Int) ∨ k % 7 = ((3 : Nat) : Int) ∨ k % 7 = ((4 : Nat) : Int) ∨ k % 7 = ((5 : Nat) : Int) ∨ k % 7 = ((6 : Nat) : Int) by omega) with h | h | h | h | h | h | h
  · exact does_get H CG CP CT CL CX CF CW base w0 w p g F G A k n s hP hwr hE hk hn h
  · exact does_put H CG CP CT CL CX CF CW base w0 w p g F G A k n s hP hwr hE hk hn h
  · exact does_take H CG CP CT CL CX CF CW base w0 w p g F G A k n s hP hwr hE hk hn h
  · exact does_takt H CG CP CT CL CX CF CW base w0 w p g F G A k n s hP hwr hE hk hn h
  · exact does_place H CG CP CT CL CX CF CW base w0 w p g F G A k n s hP hwr hE hk hn h
  · exact does_free H CG CP CT CL CX CF CW base w0 w p g F G A k n s hP hwr hE hk hn h
  · exact does_asked H CG CP CT CL CX CF CW base w0 w p g F G A k n s hP hwr hE hk hn h
end An
end Go.Proofs.YtalpbciceogjlaaDoor
