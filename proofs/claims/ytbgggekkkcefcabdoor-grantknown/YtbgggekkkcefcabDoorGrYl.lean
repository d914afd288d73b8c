/- Layer 22: the law of logins. -/
import Derived.Test.YtbgggekkkcefcabDoorGrXD
import Derived.Test.YtbgggekkkcefcabDoorGrA
namespace Go.Proofs.YtbgggekkkcefcabDoor
set_option linter.ambiguousOpen false
open Go.RowKit
namespace Gr
set_option linter.unusedVariables false
set_option linter.unusedSimpArgs false

/-- What a law of logins holds. -/
structure AtL (b : Nat) (r : Rq) (now births : Int) (full : Bool) (w : World) : Prop where
  hr : w.heap[b]? = some (.cells r.arr 34)
  hx : w.heap[b + 1]? = some (.cells #[nu now, nu births, .bool full] 43)

section
variable {b : Nat} {r : Rq} {now births : Int} {full : Bool} {w w' : World}

theorem AtL.below (h : AtL b r now births full w) (hb : Below w.heap.size w w') : AtL b r now births full w' :=
  ⟨(hb.block _ (Array.getElem?_eq_some_iff.1 h.hr).1).trans h.hr, (hb.block _ (Array.getElem?_eq_some_iff.1 h.hx).1).trans h.hx⟩

theorem AtL.new {o : Obj} (h : AtL b r now births full w) (hg : (w.alloc o).grownBy w' (some w.heap.size)) : AtL b r now births full w' :=
  ⟨new_far h.hr hg, new_far h.hx hg⟩

theorem AtL.x0 (h : AtL b r now births full w) : w.cell? ⟨b + 1, 0, none⟩ = some (nu now) := by rw [cell_of_row w _ 0 _ _ _ h.hx]; rfl
theorem AtL.x1 (h : AtL b r now births full w) : w.cell? ⟨b + 1, 1, none⟩ = some (nu births) := by rw [cell_of_row w _ 1 _ _ _ h.hx]; rfl
theorem AtL.x2 (h : AtL b r now births full w) : w.cell? ⟨b + 1, 2, none⟩ = some (.bool full) := by rw [cell_of_row w _ 2 _ _ _ h.hx]; rfl
end

theorem atL_start (w : World) (r : Rq) (now births : Int) (full : Bool) : ∃ w3, (w.alloc (.cells r.arr 34)).alloc (.cells #[nu now, nu births, .bool full] 43) = w3 ∧ AtL w.heap.size r now births full w3 ∧ Below w.heap.size w w3 :=
  ⟨_, rfl, ⟨by rw [heap_alloc_old _ _ (by simp)]; exact heap_alloc_new _ _, two_at _ _ _⟩, two_below _ _ _⟩

set_option maxRecDepth 100000 in
set_option maxHeartbeats 16000000 in
theorem logins_yes (r : Rq) (now births : Int) (full : Bool) (w : World) (hr : r.fit) (hE : Er.Handle w) :
    Calls Tryd.prog 13 #[r.v, .agg #[nu now, nu births, .bool full]] w fun e w' => e = .returned (.bool true) ∧ Below w.heap.size w w' := by
  have c1 := fun wx => login_p r now births full wx hr
  have c2 := fun wx => rlogin_any r now births full wx hr
  have hrg := login_rng r now births full
  obtain ⟨E, hEE⟩ : ∃ E, loginE r now births full = E := ⟨_, rfl⟩
  rw [hEE] at c1 c2 hrg
  obtain ⟨S, hS⟩ : ∃ S, orS E (loginS r now births) = S := ⟨_, rfl⟩
  rw [hS] at c1 c2
  have HC1 := hidG c1
  have HC2 := hidG c2
  have hss := ses_sameV S
  have hsg := fun x y => ses_guard .eql x y S S
  obtain ⟨w0, h0, hA, hB⟩ := atL_start w r now births full
  have H0 : Hid ((w.alloc (.cells #[.string r.user, .string r.label, su r.scopes, nu r.level, nu r.life] 34)).alloc (.cells #[nu now, nu births, .bool full] 43) = w0) := hidG h0
  have HB := hidG hB
  have HA := hidG hA
  have x0 := hA.x0
  have x1 := hA.x1
  have x2 := hA.x2
  have HE := hidG hE
  clear c1 c2 hEE hS h0 hA hB hr hE
  show Calls Tryd.prog 13 #[.agg #[.string r.user, .string r.label, su r.scopes, nu r.level, nu r.life], .agg #[nu now, nu births, .bool full]] w _
  go_enter Tryd.func13, Tryd.ntmps13
  go_wp2_with (first | (rw [H0.out]; refine wpList_load_rq rfl _ rfl w.heap.size rfl r HA.out.hr ?_) | fail)
  refine (HC1.out _).mono ?_
  rintro e w1 ⟨rfl, hb1⟩
  have HA1 := hidG (HA.out.below hb1)
  have HB1 := hidG (HB.out.trans (hb1.mono HB.out.size))
  have HN1 := hidG (heap_alloc_new w1 (.cells zeroS.arr 28))
  clear hb1 x0 x1 x2
  go_wp2_with (first | (refine wpList_store_sn rfl _ _ rfl w1.heap.size rfl S zeroS rfl HN1.out ?_; intro w2 hh hg; have HA2 := hidG (HA1.out.new hg); have HB2 := hidG (new_below HB1.out hg); have HS2 := hidG hh; have x0 := HA2.out.x0; have x1 := HA2.out.x1; have x2 := HA2.out.x2; clear hh hg) | (refine wpList_load_rq rfl _ rfl w.heap.size rfl r HA2.out.hr ?_) | fail)
  refine (HC2.out _).mono ?_
  rintro e w3 ⟨rfl, hb3⟩
  have HB3 := hidG (HB2.out.trans (hb3.mono HB2.out.size))
  have HS3 := hidG ((hb3.block _ (Array.getElem?_eq_some_iff.1 HS2.out).1).trans HS2.out)
  have HN3 := hidG (heap_alloc_new w3 (.cells zeroS.arr 28))
  clear hb3 x0 x1 x2
  go_wp2_with (first | (refine wpList_store_sn rfl _ _ rfl w3.heap.size rfl S zeroS rfl HN3.out ?_; intro w4 hh hg; have HS4 := hidG hh; have HT4 := hidG (new_far HS3.out hg); have HB4 := hidG (new_below HB3.out hg); have HP := hidG (plainE E hrg w4 (HE.out.below HB4.out)); clear hh hg) | (refine wpList_load_sn rfl _ rfl w1.heap.size rfl S HT4.out ?_) | (refine wpList_load_sn rfl _ rfl w3.heap.size rfl S HS4.out ?_) | (go_at_call 30; refine HP.out.mono ?_; rintro e w5 ⟨rfl, hb5⟩) | fail)
  go_ret
  exact ⟨rfl, HB4.out.trans (hb5.mono HB4.out.size)⟩
end Gr
end Go.Proofs.YtbgggekkkcefcabDoor
