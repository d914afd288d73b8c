/- What the frame of GrantKnown calls. -/
import Derived.Test.YtbgggekkkcefcabDoorGrKa
import Derived.Test.YtbgggekkkcefcabDoorGrKc
import Derived.Test.YtbgggekkkcefcabDoorGrY
import Derived.Test.YtbgggekkkcefcabDoorGrYr
import Derived.Test.YtbgggekkkcefcabDoorGrYl
import Derived.Test.YtbgggekkkcefcabDoorGrZb
namespace Go.Proofs.YtbgggekkkcefcabDoor
set_option linter.ambiguousOpen false
open Go.RowKit
namespace Gr
set_option linter.unusedVariables false

theorem laws_of (w : World) (hE : Er.Handle w) (hS : Lv.StepsG w) : LawsC w where
  l := fun wx r now births full hb hr => logins_yes r now births full wx hr (hE.below hb)
  c := fun wx p r now births full hb hp hr => children_yes p r now births full wx hp hr (hE.below hb)
  r := fun wx p r now births full hb hp hr => raises_yes p r now births full wx hp hr (hE.below hb) (hS.below hb)
  o := fun wx p r now births full hb hp hr => order_yes p r now births full wx hp hr (hS.below hb)

theorem LawsC.later {w w' : World} (h : LawsC w) (hb : Below w.heap.size w w') : LawsC w' where
  l := fun wx r now births full hx hr => h.l wx r now births full (hb.trans (hx.mono hb.size)) hr
  c := fun wx p r now births full hx hp hr => h.c wx p r now births full (hb.trans (hx.mono hb.size)) hp hr
  r := fun wx p r now births full hx hp hr => h.r wx p r now births full (hb.trans (hx.mono hb.size)) hp hr
  o := fun wx p r now births full hx hp hr => h.o wx p r now births full (hb.trans (hx.mono hb.size)) hp hr

theorem grantKnown_walk (w : World) (hE : Er.Handle w) (hS : Lv.StepsG w) :
    Calls Tryd.prog 3 #[] w fun e w' => e = .returned (.bool true) ∧ Below w.heap.size w w' := by
  have c1 := hidG (knownSaid_yes w hS)
  have HL := hidG (laws_of w hE hS)
  clear hE hS
  go_enter Tryd.func3, Tryd.ntmps3
  go_wp2_with (first | (go_at_call 4; refine c1.out.mono ?_; rintro e w1 ⟨rfl, hb⟩; have HB1 := hidG hb; clear hb) | (go_at_call 5; refine (knownOrder_yes _ (HL.out.later HB1.out)).mono ?_; rintro e w2 ⟨rfl, hb⟩; have HB2 := hidG (HB1.out.trans (hb.mono HB1.out.size)); clear hb) | (go_at_call 6; refine (knownEnds_yes _ (HL.out.later HB2.out)).mono ?_; rintro e w3 ⟨rfl, hb⟩; have HB3 := hidG (HB2.out.trans (hb.mono HB2.out.size)); clear hb) | fail)
  go_ret
  exact ⟨rfl, HB3.out⟩
end Gr
end Go.Proofs.YtbgggekkkcefcabDoor
