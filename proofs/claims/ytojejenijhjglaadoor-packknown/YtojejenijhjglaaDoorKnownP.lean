/- PackKnown. -/
import Derived.Test.YtojejenijhjglaaDoorSaidP
import Derived.Test.YtojejenijhjglaaDoorNumsP
import Derived.Test.YtojejenijhjglaaDoorRowsP
namespace Go.Proofs.YtojejenijhjglaaDoor
set_option linter.ambiguousOpen false
open Go.RowKit
namespace Pk
open Sm Ft
set_option linter.unusedSimpArgs false
set_option linter.unusedVariables false
variable {RW RR : World → Nat → (Nat → Prop) → List UInt8 → Prop}

theorem known_yes (S : Says RW RR) (w : World) (hE : Er.Handle w) : Calls Tryd.prog 4 #[] w fun e w' => e = .returned (.bool true) ∧ Below w.heap.size w w' := by
  have c1 := Hid.mk' (numbers_yes S w)
  have c2 : Hid (∀ wx, Below w.heap.size w wx → Calls Tryd.prog 17 #[] wx fun e w' => e = .returned (.bool true) ∧ Below w.heap.size w w') := fun wx hb => (rows_yes S wx (hE.below hb)).mono fun _ w' ⟨a, b⟩ => ⟨a, hb.trans (b.mono hb.size)⟩
  have c3 : Hid (∀ wx, Below w.heap.size w wx → Calls Tryd.prog 18 #[] wx fun e w' => e = .returned (.bool true) ∧ Below w.heap.size w w') := fun wx hb => (said_yes S wx (hE.below hb)).mono fun _ w' ⟨a, b⟩ => ⟨a, hb.trans (b.mono hb.size)⟩
  clear hE
  go_enter Tryd.func4, Tryd.ntmps4
  go_wp2_with fail
  refine c1.out.mono ?_
  rintro e w1 ⟨rfl, h1⟩
  have C2 := Hid.mk' (c2.out _ h1)
  clear h1
  go_wp2_with fail
  refine C2.out.mono ?_
  rintro e w2 ⟨rfl, h2⟩
  have C3 := Hid.mk' (c3.out _ h2)
  clear h2 C2
  go_wp2_with fail
  refine C3.out.mono ?_
  rintro e w3 ⟨rfl, h3⟩
  have HB := Hid.mk' h3
  clear h3 C3
  go_wp2
  go_ret
  exact ⟨rfl, HB.out⟩
end Pk
end Go.Proofs.YtojejenijhjglaaDoor
