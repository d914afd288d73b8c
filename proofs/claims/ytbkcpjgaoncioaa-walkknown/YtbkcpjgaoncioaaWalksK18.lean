/- WalkKnown over the program's own calls. -/
import Derived.Test.YtbkcpjgaoncioaaWalksV18
import Derived.Test.YtbkcpjgaoncioaaWalksA18
import Derived.Test.YtbkcpjgaoncioaaWalksP18
import Derived.Test.YtbkcpjgaoncioaaWlkU
import Derived.Test.YtbkcpjgaoncioaaWlkZ
namespace Go.Proofs.Ytbkcpjgaoncioaa
set_option linter.ambiguousOpen false
open Go.RowKit
namespace Wk
open An Ft Lv
set_option linter.unusedVariables false

set_option maxRecDepth 100000 in
theorem walkKnown_walk (w : World) :
    Calls Try.prog 6 #[] w fun e w' => e = .returned (.bool true) ∧ Below w.heap.size w w' := by
  have c1 := Hid.mk' (knownSaid_yes keepP new_any put_any walkP w)
  have c2 : Hid (∀ wx, Below w.heap.size w wx → Calls Try.prog 23 #[] wx fun e w' => e = .returned (.bool true) ∧ Below w.heap.size w w') := fun wx hb => by
    refine (knownLines_yes wx (fun wy v l a k h1 h2 h3 h4 => walkAbove_walk v l a k wy h1 h2 h3 h4)).mono ?_
    rintro e w' ⟨rfl, hb'⟩
    exact ⟨rfl, hb.trans (hb'.mono hb.size)⟩
  have c3 : Hid (∀ wx, Below w.heap.size w wx → Calls Try.prog 24 #[] wx fun e w' => e = .returned (.bool true) ∧ Below w.heap.size w w') := fun wx hb => by
    refine (knownLinks_yes wx (fun wy v L u K h1 h2 h3 h4 => walkLives_walk v L u K wy h1 h2 h3 h4) (fun wy v L us ub h1 h2 h3 h4 => walkPath_walk v L us ub wy h1 h2 h3 h4)).mono ?_
    rintro e w' ⟨rfl, hb'⟩
    exact ⟨rfl, hb.trans (hb'.mono hb.size)⟩
  go_enter Try.func6, Try.ntmps6
  go_wp2_with fail
  refine c1.out.mono ?_
  rintro e w1 ⟨rfl, hb1⟩
  have HB1 := Hid.mk' hb1
  clear hb1 c1
  go_wp2_with fail
  refine (c2.out _ HB1.out).mono ?_
  rintro e w2 ⟨rfl, hb2⟩
  have HB2 := Hid.mk' hb2
  clear hb2 c2 HB1
  go_wp2_with fail
  refine (c3.out _ HB2.out).mono ?_
  rintro e w3 ⟨rfl, hb3⟩
  have HB3 := Hid.mk' hb3
  clear hb3 c3 HB2
  go_wp2
  go_ret
  exact ⟨rfl, HB3.out⟩
end Wk
end Go.Proofs.Ytbkcpjgaoncioaa
