/- Layer 22: the chapter's examples. -/
import Derived.Test.YtbgggekkkcefcabDoorGrZ
import Derived.Deep.RegionHeld3
namespace Go.Proofs.YtbgggekkkcefcabDoor
set_option linter.ambiguousOpen false
open Go.RowKit
namespace Gr
set_option linter.unusedVariables false
set_option linter.unusedSimpArgs false

instance (n : Int) : Decidable (i64 n) := by unfold i64; infer_instance

@[reducible] def payT : ByteArray := ⟨#[112, 97, 121]⟩

set_option maxRecDepth 100000 in
theorem ses_nsame (a : Sn) (w : World) : (binOp .neq 28 a.v a.v).run Tryd.prog w = .ok (.bool false) w := by
  have hu := Tryd.underlying28
  have hp : Tryd.prog.stoodInHeld 28 = false := by kernel_rfl
  have p2 : Tryd.prog.stoodInHeld 24 = false := by kernel_rfl
  show (binOp .neq 28 (.agg a.arr) (.agg a.arr)).run Tryd.prog w = _
  rw [run_neq_struct]
  rw [show (10000 : Nat) = 9999 + 1 from rfl, run_equalIn_agg _ _ _ _ _ (by rw [hu]; simp [Program.fieldsOf, hu]) hp]
  simp only [Program.fieldsOf, hu, Sn.arr]
  obtain ⟨a0, a1, a2, a3, a4, a5, a6, a7, a8, a9, a10, a11⟩ := a
  have h5 : (a5.toList == a5.toList) = true := by simp
  simp [go_sem, Op.eqFields, part, hp, p2, Tryd.underlying3, Tryd.underlying9, Tryd.underlying26, Tryd.underlying24, Tryd.isAgg3, Tryd.isAgg9, Tryd.isAgg26, Tryd.isAgg24, Tryd.sizeOf3, Tryd.sizeOf9, Tryd.sizeOf26, Tryd.sizeOf24]

set_option maxRecDepth 100000 in
set_option maxHeartbeats 4000000 in
theorem lchild_any (p : Sn) (lab : ByteArray) (sc : Nat) (life : Int) (w : World) (hp : p.fit) (hl : lab.size ≤ 281474976710656) (hs : sc < 18446744073709551616) (hi : i64 life) :
    Calls Tryd.prog 12 #[p.v, .string lab, su sc, nu life] w fun e w' => e = .returned (nu (childE p ⟨ByteArray.empty, lab, sc, 0, life⟩ 40 9 false)) ∧ Below w.heap.size w w' := by
  have hr : (⟨ByteArray.empty, lab, sc, 0, life⟩ : Rq).fit := ⟨Nat.zero_le _, hl, hs, (by decide : i64 0), hi⟩
  have cC := fun wx => child_p p ⟨ByteArray.empty, lab, sc, 0, life⟩ 40 9 false wx hp hr
  have hrg := child_rng p ⟨ByteArray.empty, lab, sc, 0, life⟩ 40 9 false
  obtain ⟨E, hE⟩ : ∃ E, childE p ⟨ByteArray.empty, lab, sc, 0, life⟩ 40 9 false = E := ⟨_, rfl⟩
  rw [hE] at cC hrg ⊢
  obtain ⟨S, hS⟩ : ∃ S, orS E (childS p ⟨ByteArray.empty, lab, sc, 0, life⟩ 40 9) = S := ⟨_, rfl⟩
  rw [hS] at cC
  have HC := hidG cC
  have HN := hidG (numE E hrg)
  have HQ := hidG (box_at w (.cells p.arr 28))
  clear hE hS cC hp hl hs hi hr
  show Calls Tryd.prog 12 #[.agg p.arr, .string lab, su sc, nu life] w _
  go_enter Tryd.func12, Tryd.ntmps12
  go_wp2_with (first | (refine wpList_load_sn rfl _ rfl w.heap.size rfl p HQ.out ?_) | fail)
  refine (HC.out _).mono ?_
  rintro e w1 ⟨rfl, hb⟩
  have HB1 := hidG (box_then hb)
  have HN1 := hidG (heap_alloc_new w1 (.cells zeroS.arr 28))
  clear hb
  go_wp2_with (first | (refine wpList_store_sn rfl _ _ rfl w1.heap.size rfl S zeroS rfl HN1.out ?_; intro w2 hh hg; have HB2 := hidG (new_below HB1.out hg); clear hh hg) | (go_at_call 27; refine (HN.out _).mono ?_; rintro e w3 ⟨rfl, hb3⟩) | fail)
  go_ret
  exact ⟨rfl, HB2.out.trans (hb3.mono HB2.out.size)⟩

set_option maxRecDepth 100000 in
set_option maxHeartbeats 4000000 in
theorem lraised_any (l life : Int) (w : World) (hl : i64 l) (hi : i64 life) (hS : Lv.StepsG w) :
    Calls Tryd.prog 10 #[nu l, nu life] w fun e w' => e = .returned (.tuple #[nu (raiseE parS ⟨ByteArray.empty, payT, 0, l, life⟩ 40 9 false), nu (orS (raiseE parS ⟨ByteArray.empty, payT, 0, l, life⟩ 40 9 false) (raiseS parS ⟨ByteArray.empty, payT, 0, l, life⟩ 40 9)).deadline]) ∧ Below w.heap.size w w' := by
  have hr : (⟨ByteArray.empty, payT, 0, l, life⟩ : Rq).fit := ⟨Nat.zero_le _, (by decide : payT.size ≤ 281474976710656), (by decide : (0 : Nat) < 18446744073709551616), hl, hi⟩
  have cC := fun wx (hx : Lv.StepsG wx) => raised_p parS ⟨ByteArray.empty, payT, 0, l, life⟩ 40 9 false wx parS_fit hr hx
  have hrg := raise_rng parS ⟨ByteArray.empty, payT, 0, l, life⟩ 40 9 false
  obtain ⟨E, hE⟩ : ∃ E, raiseE parS ⟨ByteArray.empty, payT, 0, l, life⟩ 40 9 false = E := ⟨_, rfl⟩
  rw [hE] at cC hrg ⊢
  obtain ⟨S, hSS⟩ : ∃ S, orS E (raiseS parS ⟨ByteArray.empty, payT, 0, l, life⟩ 40 9) = S := ⟨_, rfl⟩
  rw [hSS] at cC ⊢
  have HC := hidG cC
  have HN := hidG (numE E hrg)
  have HS := hidG hS
  clear hE hSS cC hl hi hr hS
  go_enter Tryd.func10, Tryd.ntmps10
  go_wp2_with fail
  refine (parent_any _).mono ?_
  rintro e w1 ⟨rfl, hb1⟩
  have HB1 := hidG hb1
  clear hb1
  go_wp2_with fail
  refine (HC.out _ (HS.out.below HB1.out)).mono ?_
  rintro e w2 ⟨rfl, hb2⟩
  have HB2 := hidG (HB1.out.trans (hb2.mono HB1.out.size))
  have HN2 := hidG (heap_alloc_new w2 (.cells zeroS.arr 28))
  clear hb2
  go_upto_region 2 with (first | (refine wpList_store_sn rfl _ _ rfl w2.heap.size rfl S zeroS rfl HN2.out ?_; intro w3 hh hg; have HB3 := hidG (new_below HB2.out hg); have hs3 : w3.cell? ⟨w2.heap.size, 10, none⟩ = some (nu S.deadline) := by { rw [cell_of_row w3 _ 10 _ _ _ hh]; rfl }; clear hh hg) | fail)
  have HSD : Hid (w3.drew.cell? ⟨w2.heap.size, 10, none⟩ = some (nu S.deadline)) := hidG hs3
  go_region_held3 (fun w' => w'.cell? ⟨w2.heap.size, 10, none⟩ = some (nu S.deadline)) (first | assumption | exact HSD.out | exact hs5 | fail) (first | (go_at_call 27; with_reducible refine (HN.out _).mono ?_; rintro e w5 ⟨rfl, HB5⟩; have hs5 : w5.cell? ⟨w2.heap.size, 10, none⟩ = some (nu S.deadline) := (HB5.cell (p := ⟨w2.heap.size, 10, none⟩) (cell_ltR HSD.out)).trans HSD.out) | fail)
  go_wp2
  go_ret2
  exact ⟨rfl, (HB3.out.drew).trans (HB5.mono (by exact HB3.out.size))⟩

def deepS : Sn := { parS with depth := 6 }
def overS : Sn := { parS with deadline := 40 }
theorem deepS_fit : deepS.fit := ⟨by decide, Nat.zero_le _, by decide, by simp [deepS, parS, i64]⟩
theorem overS_fit : overS.fit := ⟨by decide, Nat.zero_le _, by decide, by simp [overS, parS, i64]⟩

theorem ch1 (w : World) : Calls Tryd.prog 12 #[parS.v, .string ⟨#[116, 97, 98, 108, 101, 116]⟩, .int .u64 8, .int .i64 9] w fun e w' => e = .returned (.int .i64 11) ∧ Below w.heap.size w w' := by
  have := lchild_any parS tabT 8 9 w parS_fit (by decide) (by decide) (by decide)
  rw [show childE parS ⟨ByteArray.empty, tabT, 8, 0, 9⟩ 40 9 false = 11 by decide +kernel] at this
  exact this

theorem ch2 (w : World) : Calls Tryd.prog 12 #[parS.v, .string ⟨#[116, 97, 98, 108, 101, 116]⟩, .int .u64 5, .int .i64 0] w fun e w' => e = .returned (.int .i64 12) ∧ Below w.heap.size w w' := by
  have := lchild_any parS tabT 5 0 w parS_fit (by decide) (by decide) (by decide)
  rw [show childE parS ⟨ByteArray.empty, tabT, 5, 0, 0⟩ 40 9 false = 12 by decide +kernel] at this
  exact this

theorem ch3 (w : World) : Calls Tryd.prog 12 #[parS.v, .string ⟨#[]⟩, .int .u64 5, .int .i64 9] w fun e w' => e = .returned (.int .i64 8) ∧ Below w.heap.size w w' := by
  have := lchild_any parS ByteArray.empty 5 9 w parS_fit (by decide) (by decide) (by decide)
  rw [show childE parS ⟨ByteArray.empty, ByteArray.empty, 5, 0, 9⟩ 40 9 false = 8 by decide +kernel] at this
  exact this

theorem ch4 (w : World) : Calls Tryd.prog 12 #[deepS.v, .string ⟨#[116, 97, 98, 108, 101, 116]⟩, .int .u64 5, .int .i64 9] w fun e w' => e = .returned (.int .i64 17) ∧ Below w.heap.size w w' := by
  have := lchild_any deepS tabT 5 9 w deepS_fit (by decide) (by decide) (by decide)
  rw [show childE deepS ⟨ByteArray.empty, tabT, 5, 0, 9⟩ 40 9 false = 17 by decide +kernel] at this
  exact this

theorem ch5 (w : World) : Calls Tryd.prog 12 #[overS.v, .string ⟨#[116, 97, 98, 108, 101, 116]⟩, .int .u64 5, .int .i64 9] w fun e w' => e = .returned (.int .i64 12) ∧ Below w.heap.size w w' := by
  have := lchild_any overS tabT 5 9 w overS_fit (by decide) (by decide) (by decide)
  rw [show childE overS ⟨ByteArray.empty, tabT, 5, 0, 9⟩ 40 9 false = 12 by decide +kernel] at this
  exact this

theorem ra1 (w : World) (hS : Lv.StepsG w) : Calls Tryd.prog 10 #[.int .i64 1, .int .i64 20] w fun e w' => e = .returned (.tuple #[.int .i64 13, .int .i64 0]) ∧ Below w.heap.size w w' := by
  have := lraised_any 1 20 w (by decide) (by decide) hS
  rw [show raiseE parS ⟨ByteArray.empty, payT, 0, 1, 20⟩ 40 9 false = 13 by decide +kernel] at this
  exact this

theorem ra2 (w : World) (hS : Lv.StepsG w) : Calls Tryd.prog 10 #[.int .i64 2, .int .i64 301] w fun e w' => e = .returned (.tuple #[.int .i64 12, .int .i64 0]) ∧ Below w.heap.size w w' := by
  have := lraised_any 2 301 w (by decide) (by decide) hS
  rw [show raiseE parS ⟨ByteArray.empty, payT, 0, 2, 301⟩ 40 9 false = 12 by decide +kernel] at this
  exact this

theorem ra3 (w : World) (hS : Lv.StepsG w) : Calls Tryd.prog 10 #[.int .i64 2, .int .i64 300] w fun e w' => e = .returned (.tuple #[.int .i64 0, .int .i64 100]) ∧ Below w.heap.size w w' := by
  have := lraised_any 2 300 w (by decide) (by decide) hS
  rw [show raiseE parS ⟨ByteArray.empty, payT, 0, 2, 300⟩ 40 9 false = 0 by decide +kernel] at this
  exact this

def annR : Rq := ⟨annT, ByteArray.empty, 5, 2, 1000⟩
theorem annR_fit : annR.fit := ⟨by decide, Nat.zero_le _, by decide, by simp [annR, i64]⟩
def annS : Sn := ⟨0, 10, 0, 0, 0, annT, ByteArray.empty, 5, 2, 40, 1040, 0⟩
def payR : Rq := ⟨ByteArray.empty, payT, 0, 2, 20⟩
theorem payR_fit : payR.fit := ⟨Nat.zero_le _, by decide, by decide, by simp [payR, i64]⟩
def payS : Sn := ⟨0, 10, 1, 3, 2, annT, payT, 7, 2, 40, 60, 1⟩

theorem log1 (w : World) : Calls Tryd.prog 7 #[.agg #[.string ⟨#[97, 110, 110]⟩, .string ⟨#[]⟩, .int .u64 5, .int .i64 2, .int .i64 1000], .int .i64 40, .int .i64 9, .bool false] w fun e w' => e = .returned (.tuple #[annS.v, .nilIface]) ∧ Below w.heap.size w w' := by
  have := login_p annR 40 9 false w annR_fit
  rw [show loginE annR 40 9 false = 0 by decide +kernel, show loginS annR 40 9 = annS from rfl] at this
  exact this

theorem pay1 (w : World) (hS : Lv.StepsG w) : Calls Tryd.prog 8 #[parS.v, .agg #[.string ⟨#[]⟩, .string ⟨#[112, 97, 121]⟩, .int .u64 0, .int .i64 2, .int .i64 20], .int .i64 40, .int .i64 9, .bool false] w fun e w' => e = .returned (.tuple #[payS.v, .nilIface]) ∧ Below w.heap.size w w' := by
  have := raised_p parS payR 40 9 false w parS_fit payR_fit hS
  rw [show raiseE parS payR 40 9 false = 0 by decide +kernel, show raiseS parS payR 40 9 = payS from rfl] at this
  exact this

/-- What lies there amid it. -/
structure Ks (w0 : World) (a b : Nat) (s t : Sn) (w : World) : Prop where
  h1 : w.heap[a]? = some (.cells s.arr 28)
  h2 : w.heap[b]? = some (.cells t.arr 28)
  bel : Below w0.heap.size w0 w

theorem Ks.below {w0 : World} {a b : Nat} {s t : Sn} {w w' : World} (h : Ks w0 a b s t w) (hb : Below w.heap.size w w') : Ks w0 a b s t w' :=
  ⟨(hb.block _ (Array.getElem?_eq_some_iff.1 h.h1).1).trans h.h1, (hb.block _ (Array.getElem?_eq_some_iff.1 h.h2).1).trans h.h2, h.bel.trans (hb.mono h.bel.size)⟩

set_option maxRecDepth 100000 in
set_option maxHeartbeats 64000000 in
theorem knownSaid_yes (w : World) (hS : Lv.StepsG w) : Calls Tryd.prog 4 #[] w fun e w' => e = .returned (.bool true) ∧ Below w.heap.size w w' := by
  have HS := hidG hS
  obtain ⟨SA, hSA⟩ : ∃ S, annS = S := ⟨_, rfl⟩
  obtain ⟨SP, hSP⟩ : ∃ S, payS = S := ⟨_, rfl⟩
  have hva : SA.v = .agg #[.int .i64 0, .int .i64 10, .int .i64 0, .int .i64 0, .int .i64 0, .string ⟨#[97, 110, 110]⟩, .string ⟨#[]⟩, .int .u64 5, .int .i64 2, .int .i64 40, .int .i64 1040, .int .i64 0] := by rw [← hSA]; rfl
  have hvp : SP.v = .agg #[.int .i64 0, .int .i64 10, .int .i64 1, .int .i64 3, .int .i64 2, .string ⟨#[97, 110, 110]⟩, .string ⟨#[112, 97, 121]⟩, .int .u64 7, .int .i64 2, .int .i64 40, .int .i64 60, .int .i64 1] := by rw [← hSP]; rfl
  have e1 := ses_nsame SA
  have e2 := fun x y => ses_guard .neq x y SA SA
  have e3 := ses_nsame SP
  have e4 := fun x y => ses_guard .neq x y SP SP
  have cL := log1
  have cP := pay1
  rw [hSA] at cL
  rw [hSP] at cP
  rw [hva] at e1 e2
  rw [hvp] at e3 e4
  have HVA := hidG hva
  have HVP := hidG hvp
  have CL := hidG cL
  have CP := hidG cP
  obtain ⟨PS, hPS⟩ : ∃ S, parS = S := ⟨_, rfl⟩
  have cR := parent_any
  have k1 := ch1
  have k2 := ch2
  have k3 := ch3
  have cW := hidG works22_any
  have m1 := hidG ra1
  have m2 := hidG ra2
  have m3 := hidG ra3
  have k4 := hidG ch4
  have k5 := hidG ch5
  have hde : ({ PS with depth := 6 } : Sn) = deepS := by rw [← hPS]; rfl
  have hov : ({ PS with deadline := 40 } : Sn) = overS := by rw [← hPS]; rfl
  rw [hPS] at cR k1 k2 k3 CP
  have CR := hidG cR
  have K1 := hidG k1
  have K2 := hidG k2
  have K3 := hidG k3
  have HDE := hidG hde
  have HOV := hidG hov
  clear hva hvp hSA hSP cL cP cR k1 k2 k3 hde hov hS
  go_enter Tryd.func4, Tryd.ntmps4
  go_wp2_with fail
  refine (CL.out _).mono ?_
  rintro e w1 ⟨rfl, hb⟩
  have HB1 := hidG hb
  have HN1 := hidG (heap_alloc_new w1 (.cells zeroS.arr 28))
  clear hb
  go_wp2_with (first | (refine wpList_store_sn rfl _ _ rfl w1.heap.size rfl SA zeroS rfl HN1.out ?_; intro w2 hh hg; have HB2 := hidG (new_below HB1.out hg); have HA2 := hidG hh; clear hh hg) | fail)
  refine (CR.out _).mono ?_
  rintro e w3 ⟨rfl, hb⟩
  have HA3 := hidG ((hb.block _ (Array.getElem?_eq_some_iff.1 HA2.out).1).trans HA2.out)
  have HB3 := hidG (HB2.out.trans (hb.mono HB2.out.size))
  clear hb
  go_wp2_with fail
  refine (CP.out _ (HS.out.below HB3.out)).mono ?_
  rintro e w4 ⟨rfl, hb⟩
  have HA4 := hidG ((hb.block _ (Array.getElem?_eq_some_iff.1 HA3.out).1).trans HA3.out)
  have HB4 := hidG (HB3.out.trans (hb.mono HB3.out.size))
  have HN4 := hidG (heap_alloc_new w4 (.cells zeroS.arr 28))
  clear hb
  go_upto_region 5 with (first | (refine wpList_store_sn rfl _ _ rfl w4.heap.size rfl SP zeroS rfl HN4.out ?_; intro w5 hh hg; have HB5 := hidG (new_below HB4.out hg); have HP5 := hidG hh; have HA5 := hidG (new_far HA4.out hg); clear hh hg) | (refine wpList_load_whenS (by rfl) _ rfl w1.heap.size rfl SA HA5.out ?_; rw [HVA.out]) | (refine wpList_load_whenS (by rfl) _ rfl w4.heap.size rfl SP HP5.out ?_; rw [HVP.out]) | fail)
  clear e1 e2 e3 e4 HA5 HP5 HVA HVP HA4 HA3 HA2 HN4 HN1
  go_wp2_with fail
  refine (CR.out _).mono ?_
  rintro e w6 ⟨rfl, hb⟩
  have HB6 := hidG (HB5.out.trans (hb.mono HB5.out.size))
  have HN6 := hidG (heap_alloc_new w6 (.cells zeroS.arr 28))
  clear hb
  go_upto_region 7 with (first | (refine wpList_store_sn rfl _ _ rfl w6.heap.size rfl PS zeroS rfl HN6.out ?_; intro w7 hh hg; have HB7 := hidG (new_below HB6.out hg); have HD7 := hidG hh; have c11 : w7.cell? ⟨w6.heap.size, 11, none⟩ = some (nu PS.depth) := by { rw [cell_of_row w7 _ 11 _ _ _ hh]; rfl }; have f11 : w7.frozen? ⟨w6.heap.size, 11, none⟩ = false := by { simp [World.frozen?, hh] }; clear hh hg) | fail)
  obtain ⟨w8, hw8⟩ : ∃ w8, w7.setCell ⟨w6.heap.size, 11, none⟩ (.int .i64 6) = w8 := ⟨_, rfl⟩
  rw [hw8]
  have HD8 : Hid (w8.heap[w6.heap.size]? = some (.cells deepS.arr 28)) := hidG (by
    rw [← hw8, ← HDE.out]
    exact heap_setCell_same _ _ 11 _ _ _ HD7.out)
  have HB8 : Hid (Below w.heap.size w w8) := hidG (by
    rw [← hw8]
    exact HB7.out.setCell (p := ⟨w6.heap.size, 11, none⟩) HB6.out.size _)
  clear hw8 c11 f11 HD7 HB7 HN6
  go_wp2_with fail
  refine (CR.out _).mono ?_
  rintro e w9 ⟨rfl, hb⟩
  have HD9 := hidG ((hb.block _ (Array.getElem?_eq_some_iff.1 HD8.out).1).trans HD8.out)
  have HB9 := hidG (HB8.out.trans (hb.mono HB8.out.size))
  have HN9 := hidG (heap_alloc_new w9 (.cells zeroS.arr 28))
  clear hb
  go_upto_region 9 with (first | (refine wpList_store_sn rfl _ _ rfl w9.heap.size rfl PS zeroS rfl HN9.out ?_; intro w10 hh hg; have HB10 := hidG (new_below HB9.out hg); have HD10 := hidG (new_far HD9.out hg); have HO10 := hidG hh; have c10 : w10.cell? ⟨w9.heap.size, 10, none⟩ = some (nu PS.deadline) := by { rw [cell_of_row w10 _ 10 _ _ _ hh]; rfl }; have f10 : w10.frozen? ⟨w9.heap.size, 10, none⟩ = false := by { simp [World.frozen?, hh] }; clear hh hg) | fail)
  obtain ⟨w11, hw11⟩ : ∃ w8, w10.setCell ⟨w9.heap.size, 10, none⟩ (.int .i64 40) = w8 := ⟨_, rfl⟩
  rw [hw11]
  have HK : Hid (Ks w w6.heap.size w9.heap.size deepS overS w11) := hidG (by
    have hlt := (Array.getElem?_eq_some_iff.1 HD9.out).1
    rw [← hw11]
    refine ⟨(setCell_off _ _ _ (by omega)).trans HD10.out, ?_, HB10.out.setCell (p := ⟨w9.heap.size, 10, none⟩) HB9.out.size _⟩
    rw [← HOV.out]
    exact heap_setCell_same _ _ 10 _ _ _ HO10.out)
  obtain ⟨g5, hg5⟩ : ∃ g, w6.heap.size = g := ⟨_, rfl⟩
  obtain ⟨g6, hg6⟩ : ∃ g, w9.heap.size = g := ⟨_, rfl⟩
  rw [hg5, hg6] at HK ⊢
  clear hw11 c10 f10 hg5 hg6 HB1 HB2 HB3 HB4 HB5 HB6 HB8 HB9 HB10 HD8 HD9 HD10 HO10 HN9 HDE HOV CL CP
  go_wp2_with fail
  refine (m1.out _ (HS.out.below HK.out.bel)).mono ?_
  rintro e w12 ⟨rfl, hb⟩
  have HK := hidG (HK.out.below hb)
  clear hb m1
  go_wp2_with fail
  refine (m2.out _ (HS.out.below HK.out.bel)).mono ?_
  rintro e w13 ⟨rfl, hb⟩
  have HK := hidG (HK.out.below hb)
  clear hb m2
  go_wp2_with fail
  refine (m3.out _ (HS.out.below HK.out.bel)).mono ?_
  rintro e w14 ⟨rfl, hb⟩
  have HK := hidG (HK.out.below hb)
  clear hb m3 HS
  go_wp2_with (first | (go_at_call 11; refine (cW.out _).mono ?_; rintro e w15 ⟨rfl, hb⟩; have HK := hidG (HK.out.below hb); clear hb) | (go_at_call 9; refine (CR.out _).mono ?_; rintro e w15 ⟨rfl, hb⟩; have HK := hidG (HK.out.below hb); clear hb) | (go_at_call 12; (first | (with_reducible refine (K1.out _).mono ?_) | (with_reducible refine (K2.out _).mono ?_) | (with_reducible refine (K3.out _).mono ?_) | (with_reducible refine (k4.out _).mono ?_) | (with_reducible refine (k5.out _).mono ?_)); rintro e w15 ⟨rfl, hb⟩; have HK := hidG (HK.out.below hb); clear hb) | (refine wpList_load_whenS (by rfl) _ rfl g5 rfl deepS HK.out.h1 ?_) | (refine wpList_load_whenS (by rfl) _ rfl g6 rfl overS HK.out.h2 ?_) | fail)
  go_ret
  exact ⟨rfl, HK.out.bel⟩
end Gr
end Go.Proofs.YtbgggekkkcefcabDoor
