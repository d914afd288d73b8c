/- RingKnown over the program's own calls. -/
import Derived.Test.YtckgecmcjnhceaaDoorRngKn
import Derived.Test.YtckgecmcjnhceaaDoorRngU
import Derived.Test.YtckgecmcjnhceaaDoorArnH
namespace Go.Proofs.YtckgecmcjnhceaaDoor
set_option linter.ambiguousOpen false
open Go.RowKit
namespace Rg
open An Ft Lv
set_option linter.unusedSimpArgs false
set_option linter.unusedVariables false

set_option maxRecDepth 100000 in
theorem ringKnown_walk (w : World) (hE : Er.Handle w) :
    Calls Tryd.prog 4 #[] w fun e w' => e = .returned (.bool true) ∧ Below w.heap.size w w' := by
  have c1 := Hid.mk' (knownSaid_yes keepP new_any pushP dropP allP w hE)
  have c2 : Hid (∀ wx, _) := fun wx => knownSmall_yes wx (fun wx v l h1 h2 => ringRow_yes keepP new_any get_any pushP allP v l wx h1 h2) (fun wx v l which h1 h2 h3 => ringDropped_yes keepP new_any get_any pushP dropP allP v l which wx h1 h2 h3) (fun wx v u l m cut h1 h2 h3 h4 h5 => ringSpliced_yes keepP new_any pushP dropP spliceP allP v u l m cut wx h1 h2 h3 h4 h5)
  have c3 : Hid (∀ wx, Below w.heap.size w wx → _) := fun wx hb => knownLinks_yes wx (hE.below hb) (fun wx v L h1 h2 h3 => ringPlays_yes keepP new_any get_any put_any frees_any writes_any pushP dropP spliceP allP v L wx h1 h2 h3)
  clear hE
  go_enter Tryd.func4, Tryd.ntmps4
  go_wp2_with fail
  refine c1.out.mono ?_
  rintro e w1 ⟨rfl, hb1⟩
  have HB1 := Hid.mk' hb1
  clear hb1
  go_wp2_with fail
  refine (c2.out _).mono ?_
  rintro e w2 ⟨rfl, hb2⟩
  have HB2 : Hid (Below w.heap.size w w2) := HB1.out.trans (hb2.mono HB1.out.size)
  clear hb2
  go_wp2_with fail
  refine (c3.out _ HB2.out).mono ?_
  rintro e w3 ⟨rfl, hb3⟩
  have HB3 : Hid (Below w.heap.size w w3) := HB2.out.trans (hb3.mono HB2.out.size)
  clear hb3
  go_wp2
  go_ret
  exact ⟨rfl, HB3.out⟩
end Rg
end Go.Proofs.YtckgecmcjnhceaaDoor
