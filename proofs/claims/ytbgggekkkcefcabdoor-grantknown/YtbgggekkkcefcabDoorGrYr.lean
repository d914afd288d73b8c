/- Layer 22: the law of steps up. -/
import Derived.Test.YtbgggekkkcefcabDoorGrXD
import Derived.Test.YtbgggekkkcefcabDoorGrD
namespace Go.Proofs.YtbgggekkkcefcabDoor
set_option linter.ambiguousOpen false
open Go.RowKit
namespace Gr
set_option linter.unusedVariables false
set_option linter.unusedSimpArgs false

set_option maxRecDepth 100000 in
set_option maxHeartbeats 16000000 in
theorem raises_yes (p : Sn) (r : Rq) (now births : Int) (full : Bool) (w : World) (hp : p.fit) (hr : r.fit) (hE : Er.Handle w) (hS : Lv.StepsG w) :
    Calls Tryd.prog 15 #[p.v, r.v, .agg #[nu now, nu births, .bool full]] w fun e w' => e = .returned (.bool true) ∧ Below w.heap.size w w' := by
  have c1 := fun wx (hx : Lv.StepsG wx) => raised_p p r now births full wx hp hr hx
  have c2 := fun wx => rraised_any p r now births full wx hp hr
  have hrg := raise_rng p r now births full
  obtain ⟨E, hEE⟩ : ∃ E, raiseE p r now births full = E := ⟨_, rfl⟩
  rw [hEE] at c1 c2 hrg
  obtain ⟨S, hS⟩ : ∃ S, orS E (raiseS p r now births) = S := ⟨_, rfl⟩
  rw [hS] at c1 c2
  have HC1 := hidG c1
  have HC2 := hidG c2
  have hss := ses_sameV S
  have hsg := fun x y => ses_guard .eql x y S S
  obtain ⟨w0, h0, hA, hB⟩ := atC_start w p r now births full
  have H0 : Hid (((w.alloc (.cells #[nu p.slot, nu p.birth, nu p.us, nu p.ub, nu p.kind, .string p.user, .string p.label, su p.scopes, nu p.level, nu p.born, nu p.deadline, nu p.depth] 28)).alloc (.cells #[.string r.user, .string r.label, su r.scopes, nu r.level, nu r.life] 34)).alloc (.cells #[nu now, nu births, .bool full] 43) = w0) := hidG h0
  have HB := hidG hB
  have HA := hidG hA
  have x0 := hA.x0
  have x1 := hA.x1
  have x2 := hA.x2
  have HE := hidG hE
  clear c1 c2 hEE hS h0 hA hB hp hr hE
  show Calls Tryd.prog 15 #[.agg #[nu p.slot, nu p.birth, nu p.us, nu p.ub, nu p.kind, .string p.user, .string p.label, su p.scopes, nu p.level, nu p.born, nu p.deadline, nu p.depth], .agg #[.string r.user, .string r.label, su r.scopes, nu r.level, nu r.life], .agg #[nu now, nu births, .bool full]] w _
  go_enter Tryd.func15, Tryd.ntmps15
  go_wp2_with (first | (rw [H0.out]; refine wpList_load_sn rfl _ rfl w.heap.size rfl p HA.out.hp ?_) | (refine wpList_load_rq rfl _ rfl (w.heap.size + 1) rfl r HA.out.hr ?_) | fail)
  refine (HC1.out _ (hS.below HB.out)).mono ?_
  rintro e w1 ⟨rfl, hb1⟩
  have HA1 := hidG (HA.out.below hb1)
  have HB1 := hidG (HB.out.trans (hb1.mono HB.out.size))
  have HN1 := hidG (heap_alloc_new w1 (.cells zeroS.arr 28))
  clear hb1 x0 x1 x2
  go_wp2_with (first | (refine wpList_store_sn rfl _ _ rfl w1.heap.size rfl S zeroS rfl HN1.out ?_; intro w2 hh hg; have HA2 := hidG (HA1.out.new hg); have HB2 := hidG (new_below HB1.out hg); have HS2 := hidG hh; have x0 := HA2.out.x0; have x1 := HA2.out.x1; have x2 := HA2.out.x2; clear hh hg) | (refine wpList_load_sn rfl _ rfl w.heap.size rfl p HA2.out.hp ?_) | (refine wpList_load_rq rfl _ rfl (w.heap.size + 1) rfl r HA2.out.hr ?_) | fail)
  refine (HC2.out _).mono ?_
  rintro e w3 ⟨rfl, hb3⟩
  have HB3 := hidG (HB2.out.trans (hb3.mono HB2.out.size))
  have HS3 := hidG ((hb3.block _ (Array.getElem?_eq_some_iff.1 HS2.out).1).trans HS2.out)
  have HN3 := hidG (heap_alloc_new w3 (.cells zeroS.arr 28))
  clear hb3 x0 x1 x2
  go_wp2_with (first | (refine wpList_store_sn rfl _ _ rfl w3.heap.size rfl S zeroS rfl HN3.out ?_; intro w4 hh hg; have HS4 := hidG hh; have HT4 := hidG (new_far HS3.out hg); have HB4 := hidG (new_below HB3.out hg); have HP := hidG (plainE E hrg w4 (HE.out.below HB4.out)); clear hh hg) | (refine wpList_load_sn rfl _ rfl w1.heap.size rfl S HT4.out ?_) | (refine wpList_load_sn rfl _ rfl w3.heap.size rfl S HS4.out ?_) | (go_at_call 30; refine HP.out.mono ?_; rintro e w5 ⟨rfl, hb5⟩) | fail)
  go_ret
  exact ⟨rfl, HB4.out.trans (hb5.mono HB4.out.size)⟩
end Gr
end Go.Proofs.YtbgggekkkcefcabDoor
