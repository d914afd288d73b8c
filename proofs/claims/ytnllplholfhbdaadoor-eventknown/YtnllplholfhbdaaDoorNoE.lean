/- What may be wrong with a birth, one by one. -/
import Derived.Test.YtnllplholfhbdaaDoorKnoE
namespace Go.Proofs.YtnllplholfhbdaaDoor
set_option linter.ambiguousOpen false
open Go.RowKit
namespace Ev
open Pk Sm Ft
set_option linter.unusedSimpArgs false
set_option linter.unusedVariables false

theorem may_no (e : Evt) (h : mayE e = false) : bytesE e = [] := by
  rw [bytesE, h]
  rfl

/-- What Encode answers of an event that may not be. -/
theorem enc_no (R : Says) (e : Evt) (h : mayE e = false) (hf : e.fit) (hr : e.rng) (wx : World) : Calls Tryd.prog 8 #[.agg e.arr] wx fun x w' => ∃ a cap, x = .returned (.tuple #[.slice a 0 cap, noE 1]) ∧ Below wx.heap.size wx w' := by
  refine (R.encode wx e hf hr).mono ?_
  rintro x w' ⟨v, rfl, ho, hb⟩
  rw [may_no e h] at ho
  obtain ⟨a, cap, rfl, _⟩ := Nm.own_shape ho
  rw [h]
  exact ⟨a, cap, rfl, hb⟩

set_option maxRecDepth 100000 in
set_option maxHeartbeats 4000000 in
theorem no_0 (R : Says) (w : World) (hg : Er.Handle w) : Calls Tryd.prog 21 #[nu 0] w fun e w' => e = .returned (.bool true) ∧ Below w.heap.size w w' := by
  have hm : mayE ⟨0, ⟨32, 1048576, 31, 1048575, 2, [97, 98, 99, 100, 101, 102, 103, 104, 105, 106, 107, 108, 109, 110, 111, 112, 113, 114, 115, 116, 117, 118, 119, 120, 121, 122, 48, 49, 50, 51, 52, 53], [97, 98, 99, 100, 101, 102, 103, 104, 105, 106, 107, 108, 109, 110, 111, 112, 113, 114, 115, 116, 117, 118, 119, 120, 121, 122, 48, 49, 50, 51, 52, 53], 18446744073709551615, 2, 1099511627476, 1099511627776, 6⟩, 0, 0⟩ = false := by decide +kernel
  have cE : Hid (∀ wx, Calls Tryd.prog 8 #[.agg #[nu 0, nu 32, nu 1048576, nu 31, nu 1048575, nu 2, .string ⟨#[97, 98, 99, 100, 101, 102, 103, 104, 105, 106, 107, 108, 109, 110, 111, 112, 113, 114, 115, 116, 117, 118, 119, 120, 121, 122, 48, 49, 50, 51, 52, 53]⟩, .string ⟨#[97, 98, 99, 100, 101, 102, 103, 104, 105, 106, 107, 108, 109, 110, 111, 112, 113, 114, 115, 116, 117, 118, 119, 120, 121, 122, 48, 49, 50, 51, 52, 53]⟩, .int .u64 18446744073709551615, nu 2, nu 1099511627476, nu 1099511627776, nu 6, nu 0, nu 0]] wx fun x w' => ∃ a cap, x = .returned (.tuple #[.slice a 0 cap, noE 1]) ∧ Below wx.heap.size wx w') := fun wx => enc_no R ⟨0, ⟨32, 1048576, 31, 1048575, 2, [97, 98, 99, 100, 101, 102, 103, 104, 105, 106, 107, 108, 109, 110, 111, 112, 113, 114, 115, 116, 117, 118, 119, 120, 121, 122, 48, 49, 50, 51, 52, 53], [97, 98, 99, 100, 101, 102, 103, 104, 105, 106, 107, 108, 109, 110, 111, 112, 113, 114, 115, 116, 117, 118, 119, 120, 121, 122, 48, 49, 50, 51, 52, 53], 18446744073709551615, 2, 1099511627476, 1099511627776, 6⟩, 0, 0⟩ hm ⟨by decide, by decide, by decide⟩ (by constructor <;> exact ⟨by decide, by decide⟩) wx
  have cP : Hid (∀ wx, Er.Handle wx → Calls Tryd.prog 9 #[noE 1, nu 1] wx fun e w' => e = .returned (.bool true) ∧ Below wx.heap.size wx w') := fun wx h => plainV 1 (by decide) wx h
  have cC := Hid.mk' (child_c w)
  rw [child_arr] at cC
  have HG := Hid.mk' hg
  clear hm hg
  go_enter Tryd.func21, Tryd.ntmps21
  go_wp2_with fail
  refine cC.out.mono ?_
  rintro e x1 ⟨rfl, hb1⟩
  have HB1 := Hid.mk' hb1
  clear hb1 cC
  go_wp2_with fail
  refine (cE.out _).mono ?_
  rintro e x2 ⟨a, cap, rfl, hb2⟩
  have HB2 : Hid (Below w.heap.size w x2) := (HB1.out.alloc HB1.out.size _).trans (hb2.mono (by have := HB1.out.size; simp; omega))
  have HG2 := Hid.mk' (HG.out.below HB2.out)
  clear hb2 HB1 cE
  go_wp2_with fail
  refine (cP.out _ HG2.out).mono ?_
  rintro e x3 ⟨rfl, hb3⟩
  have HB3 := Hid.mk' (HB2.out.trans (hb3.mono HB2.out.size))
  clear hb3
  go_wp2
  go_ret
  exact ⟨rfl, HB3.out⟩

set_option maxRecDepth 100000 in
set_option maxHeartbeats 4000000 in
theorem no_1 (R : Says) (w : World) (hg : Er.Handle w) : Calls Tryd.prog 21 #[nu 1] w fun e w' => e = .returned (.bool true) ∧ Below w.heap.size w w' := by
  have hm : mayE ⟨0, ⟨(-1), 1048576, 31, 1048575, 2, [97, 98, 99, 100, 101, 102, 103, 104, 105, 106, 107, 108, 109, 110, 111, 112, 113, 114, 115, 116, 117, 118, 119, 120, 121, 122, 48, 49, 50, 51, 52, 53], [97, 98, 99, 100, 101, 102, 103, 104, 105, 106, 107, 108, 109, 110, 111, 112, 113, 114, 115, 116, 117, 118, 119, 120, 121, 122, 48, 49, 50, 51, 52, 53], 18446744073709551615, 2, 1099511627476, 1099511627776, 6⟩, 0, 0⟩ = false := by decide +kernel
  have cE : Hid (∀ wx, Calls Tryd.prog 8 #[.agg #[nu 0, nu (-1), nu 1048576, nu 31, nu 1048575, nu 2, .string ⟨#[97, 98, 99, 100, 101, 102, 103, 104, 105, 106, 107, 108, 109, 110, 111, 112, 113, 114, 115, 116, 117, 118, 119, 120, 121, 122, 48, 49, 50, 51, 52, 53]⟩, .string ⟨#[97, 98, 99, 100, 101, 102, 103, 104, 105, 106, 107, 108, 109, 110, 111, 112, 113, 114, 115, 116, 117, 118, 119, 120, 121, 122, 48, 49, 50, 51, 52, 53]⟩, .int .u64 18446744073709551615, nu 2, nu 1099511627476, nu 1099511627776, nu 6, nu 0, nu 0]] wx fun x w' => ∃ a cap, x = .returned (.tuple #[.slice a 0 cap, noE 1]) ∧ Below wx.heap.size wx w') := fun wx => enc_no R ⟨0, ⟨(-1), 1048576, 31, 1048575, 2, [97, 98, 99, 100, 101, 102, 103, 104, 105, 106, 107, 108, 109, 110, 111, 112, 113, 114, 115, 116, 117, 118, 119, 120, 121, 122, 48, 49, 50, 51, 52, 53], [97, 98, 99, 100, 101, 102, 103, 104, 105, 106, 107, 108, 109, 110, 111, 112, 113, 114, 115, 116, 117, 118, 119, 120, 121, 122, 48, 49, 50, 51, 52, 53], 18446744073709551615, 2, 1099511627476, 1099511627776, 6⟩, 0, 0⟩ hm ⟨by decide, by decide, by decide⟩ (by constructor <;> exact ⟨by decide, by decide⟩) wx
  have cP : Hid (∀ wx, Er.Handle wx → Calls Tryd.prog 9 #[noE 1, nu 1] wx fun e w' => e = .returned (.bool true) ∧ Below wx.heap.size wx w') := fun wx h => plainV 1 (by decide) wx h
  have cC := Hid.mk' (child_c w)
  rw [child_arr] at cC
  have HG := Hid.mk' hg
  clear hm hg
  go_enter Tryd.func21, Tryd.ntmps21
  go_wp2_with fail
  refine cC.out.mono ?_
  rintro e x1 ⟨rfl, hb1⟩
  have HB1 := Hid.mk' hb1
  clear hb1 cC
  go_wp2_with fail
  refine (cE.out _).mono ?_
  rintro e x2 ⟨a, cap, rfl, hb2⟩
  have HB2 : Hid (Below w.heap.size w x2) := (HB1.out.alloc HB1.out.size _).trans (hb2.mono (by have := HB1.out.size; simp; omega))
  have HG2 := Hid.mk' (HG.out.below HB2.out)
  clear hb2 HB1 cE
  go_wp2_with fail
  refine (cP.out _ HG2.out).mono ?_
  rintro e x3 ⟨rfl, hb3⟩
  have HB3 := Hid.mk' (HB2.out.trans (hb3.mono HB2.out.size))
  clear hb3
  go_wp2
  go_ret
  exact ⟨rfl, HB3.out⟩

set_option maxRecDepth 100000 in
set_option maxHeartbeats 4000000 in
theorem no_2 (R : Says) (w : World) (hg : Er.Handle w) : Calls Tryd.prog 21 #[nu 2] w fun e w' => e = .returned (.bool true) ∧ Below w.heap.size w w' := by
  have hm : mayE ⟨0, ⟨31, 1048577, 31, 1048575, 2, [97, 98, 99, 100, 101, 102, 103, 104, 105, 106, 107, 108, 109, 110, 111, 112, 113, 114, 115, 116, 117, 118, 119, 120, 121, 122, 48, 49, 50, 51, 52, 53], [97, 98, 99, 100, 101, 102, 103, 104, 105, 106, 107, 108, 109, 110, 111, 112, 113, 114, 115, 116, 117, 118, 119, 120, 121, 122, 48, 49, 50, 51, 52, 53], 18446744073709551615, 2, 1099511627476, 1099511627776, 6⟩, 0, 0⟩ = false := by decide +kernel
  have cE : Hid (∀ wx, Calls Tryd.prog 8 #[.agg #[nu 0, nu 31, nu 1048577, nu 31, nu 1048575, nu 2, .string ⟨#[97, 98, 99, 100, 101, 102, 103, 104, 105, 106, 107, 108, 109, 110, 111, 112, 113, 114, 115, 116, 117, 118, 119, 120, 121, 122, 48, 49, 50, 51, 52, 53]⟩, .string ⟨#[97, 98, 99, 100, 101, 102, 103, 104, 105, 106, 107, 108, 109, 110, 111, 112, 113, 114, 115, 116, 117, 118, 119, 120, 121, 122, 48, 49, 50, 51, 52, 53]⟩, .int .u64 18446744073709551615, nu 2, nu 1099511627476, nu 1099511627776, nu 6, nu 0, nu 0]] wx fun x w' => ∃ a cap, x = .returned (.tuple #[.slice a 0 cap, noE 1]) ∧ Below wx.heap.size wx w') := fun wx => enc_no R ⟨0, ⟨31, 1048577, 31, 1048575, 2, [97, 98, 99, 100, 101, 102, 103, 104, 105, 106, 107, 108, 109, 110, 111, 112, 113, 114, 115, 116, 117, 118, 119, 120, 121, 122, 48, 49, 50, 51, 52, 53], [97, 98, 99, 100, 101, 102, 103, 104, 105, 106, 107, 108, 109, 110, 111, 112, 113, 114, 115, 116, 117, 118, 119, 120, 121, 122, 48, 49, 50, 51, 52, 53], 18446744073709551615, 2, 1099511627476, 1099511627776, 6⟩, 0, 0⟩ hm ⟨by decide, by decide, by decide⟩ (by constructor <;> exact ⟨by decide, by decide⟩) wx
  have cP : Hid (∀ wx, Er.Handle wx → Calls Tryd.prog 9 #[noE 1, nu 1] wx fun e w' => e = .returned (.bool true) ∧ Below wx.heap.size wx w') := fun wx h => plainV 1 (by decide) wx h
  have cC := Hid.mk' (child_c w)
  rw [child_arr] at cC
  have HG := Hid.mk' hg
  clear hm hg
  go_enter Tryd.func21, Tryd.ntmps21
  go_wp2_with fail
  refine cC.out.mono ?_
  rintro e x1 ⟨rfl, hb1⟩
  have HB1 := Hid.mk' hb1
  clear hb1 cC
  go_wp2_with fail
  refine (cE.out _).mono ?_
  rintro e x2 ⟨a, cap, rfl, hb2⟩
  have HB2 : Hid (Below w.heap.size w x2) := (HB1.out.alloc HB1.out.size _).trans (hb2.mono (by have := HB1.out.size; simp; omega))
  have HG2 := Hid.mk' (HG.out.below HB2.out)
  clear hb2 HB1 cE
  go_wp2_with fail
  refine (cP.out _ HG2.out).mono ?_
  rintro e x3 ⟨rfl, hb3⟩
  have HB3 := Hid.mk' (HB2.out.trans (hb3.mono HB2.out.size))
  clear hb3
  go_wp2
  go_ret
  exact ⟨rfl, HB3.out⟩

set_option maxRecDepth 100000 in
set_option maxHeartbeats 4000000 in
theorem no_3 (R : Says) (w : World) (hg : Er.Handle w) : Calls Tryd.prog 21 #[nu 3] w fun e w' => e = .returned (.bool true) ∧ Below w.heap.size w w' := by
  have hm : mayE ⟨0, ⟨31, 1048576, 31, 1048576, 2, [97, 98, 99, 100, 101, 102, 103, 104, 105, 106, 107, 108, 109, 110, 111, 112, 113, 114, 115, 116, 117, 118, 119, 120, 121, 122, 48, 49, 50, 51, 52, 53], [97, 98, 99, 100, 101, 102, 103, 104, 105, 106, 107, 108, 109, 110, 111, 112, 113, 114, 115, 116, 117, 118, 119, 120, 121, 122, 48, 49, 50, 51, 52, 53], 18446744073709551615, 2, 1099511627476, 1099511627776, 6⟩, 0, 0⟩ = false := by decide +kernel
  have cE : Hid (∀ wx, Calls Tryd.prog 8 #[.agg #[nu 0, nu 31, nu 1048576, nu 31, nu 1048576, nu 2, .string ⟨#[97, 98, 99, 100, 101, 102, 103, 104, 105, 106, 107, 108, 109, 110, 111, 112, 113, 114, 115, 116, 117, 118, 119, 120, 121, 122, 48, 49, 50, 51, 52, 53]⟩, .string ⟨#[97, 98, 99, 100, 101, 102, 103, 104, 105, 106, 107, 108, 109, 110, 111, 112, 113, 114, 115, 116, 117, 118, 119, 120, 121, 122, 48, 49, 50, 51, 52, 53]⟩, .int .u64 18446744073709551615, nu 2, nu 1099511627476, nu 1099511627776, nu 6, nu 0, nu 0]] wx fun x w' => ∃ a cap, x = .returned (.tuple #[.slice a 0 cap, noE 1]) ∧ Below wx.heap.size wx w') := fun wx => enc_no R ⟨0, ⟨31, 1048576, 31, 1048576, 2, [97, 98, 99, 100, 101, 102, 103, 104, 105, 106, 107, 108, 109, 110, 111, 112, 113, 114, 115, 116, 117, 118, 119, 120, 121, 122, 48, 49, 50, 51, 52, 53], [97, 98, 99, 100, 101, 102, 103, 104, 105, 106, 107, 108, 109, 110, 111, 112, 113, 114, 115, 116, 117, 118, 119, 120, 121, 122, 48, 49, 50, 51, 52, 53], 18446744073709551615, 2, 1099511627476, 1099511627776, 6⟩, 0, 0⟩ hm ⟨by decide, by decide, by decide⟩ (by constructor <;> exact ⟨by decide, by decide⟩) wx
  have cP : Hid (∀ wx, Er.Handle wx → Calls Tryd.prog 9 #[noE 1, nu 1] wx fun e w' => e = .returned (.bool true) ∧ Below wx.heap.size wx w') := fun wx h => plainV 1 (by decide) wx h
  have cC := Hid.mk' (child_c w)
  rw [child_arr] at cC
  have HG := Hid.mk' hg
  clear hm hg
  go_enter Tryd.func21, Tryd.ntmps21
  go_wp2_with fail
  refine cC.out.mono ?_
  rintro e x1 ⟨rfl, hb1⟩
  have HB1 := Hid.mk' hb1
  clear hb1 cC
  go_wp2_with fail
  refine (cE.out _).mono ?_
  rintro e x2 ⟨a, cap, rfl, hb2⟩
  have HB2 : Hid (Below w.heap.size w x2) := (HB1.out.alloc HB1.out.size _).trans (hb2.mono (by have := HB1.out.size; simp; omega))
  have HG2 := Hid.mk' (HG.out.below HB2.out)
  clear hb2 HB1 cE
  go_wp2_with fail
  refine (cP.out _ HG2.out).mono ?_
  rintro e x3 ⟨rfl, hb3⟩
  have HB3 := Hid.mk' (HB2.out.trans (hb3.mono HB2.out.size))
  clear hb3
  go_wp2
  go_ret
  exact ⟨rfl, HB3.out⟩

set_option maxRecDepth 100000 in
set_option maxHeartbeats 4000000 in
theorem no_4 (R : Says) (w : World) (hg : Er.Handle w) : Calls Tryd.prog 21 #[nu 4] w fun e w' => e = .returned (.bool true) ∧ Below w.heap.size w w' := by
  have hm : mayE ⟨0, ⟨31, 1048576, 31, 0, 2, [97, 98, 99, 100, 101, 102, 103, 104, 105, 106, 107, 108, 109, 110, 111, 112, 113, 114, 115, 116, 117, 118, 119, 120, 121, 122, 48, 49, 50, 51, 52, 53], [97, 98, 99, 100, 101, 102, 103, 104, 105, 106, 107, 108, 109, 110, 111, 112, 113, 114, 115, 116, 117, 118, 119, 120, 121, 122, 48, 49, 50, 51, 52, 53], 18446744073709551615, 2, 1099511627476, 1099511627776, 6⟩, 0, 0⟩ = false := by decide +kernel
  have cE : Hid (∀ wx, Calls Tryd.prog 8 #[.agg #[nu 0, nu 31, nu 1048576, nu 31, nu 0, nu 2, .string ⟨#[97, 98, 99, 100, 101, 102, 103, 104, 105, 106, 107, 108, 109, 110, 111, 112, 113, 114, 115, 116, 117, 118, 119, 120, 121, 122, 48, 49, 50, 51, 52, 53]⟩, .string ⟨#[97, 98, 99, 100, 101, 102, 103, 104, 105, 106, 107, 108, 109, 110, 111, 112, 113, 114, 115, 116, 117, 118, 119, 120, 121, 122, 48, 49, 50, 51, 52, 53]⟩, .int .u64 18446744073709551615, nu 2, nu 1099511627476, nu 1099511627776, nu 6, nu 0, nu 0]] wx fun x w' => ∃ a cap, x = .returned (.tuple #[.slice a 0 cap, noE 1]) ∧ Below wx.heap.size wx w') := fun wx => enc_no R ⟨0, ⟨31, 1048576, 31, 0, 2, [97, 98, 99, 100, 101, 102, 103, 104, 105, 106, 107, 108, 109, 110, 111, 112, 113, 114, 115, 116, 117, 118, 119, 120, 121, 122, 48, 49, 50, 51, 52, 53], [97, 98, 99, 100, 101, 102, 103, 104, 105, 106, 107, 108, 109, 110, 111, 112, 113, 114, 115, 116, 117, 118, 119, 120, 121, 122, 48, 49, 50, 51, 52, 53], 18446744073709551615, 2, 1099511627476, 1099511627776, 6⟩, 0, 0⟩ hm ⟨by decide, by decide, by decide⟩ (by constructor <;> exact ⟨by decide, by decide⟩) wx
  have cP : Hid (∀ wx, Er.Handle wx → Calls Tryd.prog 9 #[noE 1, nu 1] wx fun e w' => e = .returned (.bool true) ∧ Below wx.heap.size wx w') := fun wx h => plainV 1 (by decide) wx h
  have cC := Hid.mk' (child_c w)
  rw [child_arr] at cC
  have HG := Hid.mk' hg
  clear hm hg
  go_enter Tryd.func21, Tryd.ntmps21
  go_wp2_with fail
  refine cC.out.mono ?_
  rintro e x1 ⟨rfl, hb1⟩
  have HB1 := Hid.mk' hb1
  clear hb1 cC
  go_wp2_with fail
  refine (cE.out _).mono ?_
  rintro e x2 ⟨a, cap, rfl, hb2⟩
  have HB2 : Hid (Below w.heap.size w x2) := (HB1.out.alloc HB1.out.size _).trans (hb2.mono (by have := HB1.out.size; simp; omega))
  have HG2 := Hid.mk' (HG.out.below HB2.out)
  clear hb2 HB1 cE
  go_wp2_with fail
  refine (cP.out _ HG2.out).mono ?_
  rintro e x3 ⟨rfl, hb3⟩
  have HB3 := Hid.mk' (HB2.out.trans (hb3.mono HB2.out.size))
  clear hb3
  go_wp2
  go_ret
  exact ⟨rfl, HB3.out⟩

set_option maxRecDepth 100000 in
set_option maxHeartbeats 4000000 in
theorem no_5 (R : Says) (w : World) (hg : Er.Handle w) : Calls Tryd.prog 21 #[nu 5] w fun e w' => e = .returned (.bool true) ∧ Below w.heap.size w w' := by
  have hm : mayE ⟨0, ⟨31, 1048576, 32, 1048575, 2, [97, 98, 99, 100, 101, 102, 103, 104, 105, 106, 107, 108, 109, 110, 111, 112, 113, 114, 115, 116, 117, 118, 119, 120, 121, 122, 48, 49, 50, 51, 52, 53], [97, 98, 99, 100, 101, 102, 103, 104, 105, 106, 107, 108, 109, 110, 111, 112, 113, 114, 115, 116, 117, 118, 119, 120, 121, 122, 48, 49, 50, 51, 52, 53], 18446744073709551615, 2, 1099511627476, 1099511627776, 6⟩, 0, 0⟩ = false := by decide +kernel
  have cE : Hid (∀ wx, Calls Tryd.prog 8 #[.agg #[nu 0, nu 31, nu 1048576, nu 32, nu 1048575, nu 2, .string ⟨#[97, 98, 99, 100, 101, 102, 103, 104, 105, 106, 107, 108, 109, 110, 111, 112, 113, 114, 115, 116, 117, 118, 119, 120, 121, 122, 48, 49, 50, 51, 52, 53]⟩, .string ⟨#[97, 98, 99, 100, 101, 102, 103, 104, 105, 106, 107, 108, 109, 110, 111, 112, 113, 114, 115, 116, 117, 118, 119, 120, 121, 122, 48, 49, 50, 51, 52, 53]⟩, .int .u64 18446744073709551615, nu 2, nu 1099511627476, nu 1099511627776, nu 6, nu 0, nu 0]] wx fun x w' => ∃ a cap, x = .returned (.tuple #[.slice a 0 cap, noE 1]) ∧ Below wx.heap.size wx w') := fun wx => enc_no R ⟨0, ⟨31, 1048576, 32, 1048575, 2, [97, 98, 99, 100, 101, 102, 103, 104, 105, 106, 107, 108, 109, 110, 111, 112, 113, 114, 115, 116, 117, 118, 119, 120, 121, 122, 48, 49, 50, 51, 52, 53], [97, 98, 99, 100, 101, 102, 103, 104, 105, 106, 107, 108, 109, 110, 111, 112, 113, 114, 115, 116, 117, 118, 119, 120, 121, 122, 48, 49, 50, 51, 52, 53], 18446744073709551615, 2, 1099511627476, 1099511627776, 6⟩, 0, 0⟩ hm ⟨by decide, by decide, by decide⟩ (by constructor <;> exact ⟨by decide, by decide⟩) wx
  have cP : Hid (∀ wx, Er.Handle wx → Calls Tryd.prog 9 #[noE 1, nu 1] wx fun e w' => e = .returned (.bool true) ∧ Below wx.heap.size wx w') := fun wx h => plainV 1 (by decide) wx h
  have cC := Hid.mk' (child_c w)
  rw [child_arr] at cC
  have HG := Hid.mk' hg
  clear hm hg
  go_enter Tryd.func21, Tryd.ntmps21
  go_wp2_with fail
  refine cC.out.mono ?_
  rintro e x1 ⟨rfl, hb1⟩
  have HB1 := Hid.mk' hb1
  clear hb1 cC
  go_wp2_with fail
  refine (cE.out _).mono ?_
  rintro e x2 ⟨a, cap, rfl, hb2⟩
  have HB2 : Hid (Below w.heap.size w x2) := (HB1.out.alloc HB1.out.size _).trans (hb2.mono (by have := HB1.out.size; simp; omega))
  have HG2 := Hid.mk' (HG.out.below HB2.out)
  clear hb2 HB1 cE
  go_wp2_with fail
  refine (cP.out _ HG2.out).mono ?_
  rintro e x3 ⟨rfl, hb3⟩
  have HB3 := Hid.mk' (HB2.out.trans (hb3.mono HB2.out.size))
  clear hb3
  go_wp2
  go_ret
  exact ⟨rfl, HB3.out⟩

set_option maxRecDepth 100000 in
set_option maxHeartbeats 4000000 in
theorem no_6 (R : Says) (w : World) (hg : Er.Handle w) : Calls Tryd.prog 21 #[nu 6] w fun e w' => e = .returned (.bool true) ∧ Below w.heap.size w w' := by
  have hm : mayE ⟨0, ⟨31, 1048576, 31, 1048575, 3, [97, 98, 99, 100, 101, 102, 103, 104, 105, 106, 107, 108, 109, 110, 111, 112, 113, 114, 115, 116, 117, 118, 119, 120, 121, 122, 48, 49, 50, 51, 52, 53], [97, 98, 99, 100, 101, 102, 103, 104, 105, 106, 107, 108, 109, 110, 111, 112, 113, 114, 115, 116, 117, 118, 119, 120, 121, 122, 48, 49, 50, 51, 52, 53], 18446744073709551615, 2, 1099511627476, 1099511627776, 6⟩, 0, 0⟩ = false := by decide +kernel
  have cE : Hid (∀ wx, Calls Tryd.prog 8 #[.agg #[nu 0, nu 31, nu 1048576, nu 31, nu 1048575, nu 3, .string ⟨#[97, 98, 99, 100, 101, 102, 103, 104, 105, 106, 107, 108, 109, 110, 111, 112, 113, 114, 115, 116, 117, 118, 119, 120, 121, 122, 48, 49, 50, 51, 52, 53]⟩, .string ⟨#[97, 98, 99, 100, 101, 102, 103, 104, 105, 106, 107, 108, 109, 110, 111, 112, 113, 114, 115, 116, 117, 118, 119, 120, 121, 122, 48, 49, 50, 51, 52, 53]⟩, .int .u64 18446744073709551615, nu 2, nu 1099511627476, nu 1099511627776, nu 6, nu 0, nu 0]] wx fun x w' => ∃ a cap, x = .returned (.tuple #[.slice a 0 cap, noE 1]) ∧ Below wx.heap.size wx w') := fun wx => enc_no R ⟨0, ⟨31, 1048576, 31, 1048575, 3, [97, 98, 99, 100, 101, 102, 103, 104, 105, 106, 107, 108, 109, 110, 111, 112, 113, 114, 115, 116, 117, 118, 119, 120, 121, 122, 48, 49, 50, 51, 52, 53], [97, 98, 99, 100, 101, 102, 103, 104, 105, 106, 107, 108, 109, 110, 111, 112, 113, 114, 115, 116, 117, 118, 119, 120, 121, 122, 48, 49, 50, 51, 52, 53], 18446744073709551615, 2, 1099511627476, 1099511627776, 6⟩, 0, 0⟩ hm ⟨by decide, by decide, by decide⟩ (by constructor <;> exact ⟨by decide, by decide⟩) wx
  have cP : Hid (∀ wx, Er.Handle wx → Calls Tryd.prog 9 #[noE 1, nu 1] wx fun e w' => e = .returned (.bool true) ∧ Below wx.heap.size wx w') := fun wx h => plainV 1 (by decide) wx h
  have cC := Hid.mk' (child_c w)
  rw [child_arr] at cC
  have HG := Hid.mk' hg
  clear hm hg
  go_enter Tryd.func21, Tryd.ntmps21
  go_wp2_with fail
  refine cC.out.mono ?_
  rintro e x1 ⟨rfl, hb1⟩
  have HB1 := Hid.mk' hb1
  clear hb1 cC
  go_wp2_with fail
  refine (cE.out _).mono ?_
  rintro e x2 ⟨a, cap, rfl, hb2⟩
  have HB2 : Hid (Below w.heap.size w x2) := (HB1.out.alloc HB1.out.size _).trans (hb2.mono (by have := HB1.out.size; simp; omega))
  have HG2 := Hid.mk' (HG.out.below HB2.out)
  clear hb2 HB1 cE
  go_wp2_with fail
  refine (cP.out _ HG2.out).mono ?_
  rintro e x3 ⟨rfl, hb3⟩
  have HB3 := Hid.mk' (HB2.out.trans (hb3.mono HB2.out.size))
  clear hb3
  go_wp2
  go_ret
  exact ⟨rfl, HB3.out⟩

set_option maxRecDepth 100000 in
set_option maxHeartbeats 4000000 in
theorem no_7 (R : Says) (w : World) (hg : Er.Handle w) : Calls Tryd.prog 21 #[nu 7] w fun e w' => e = .returned (.bool true) ∧ Below w.heap.size w w' := by
  have hm : mayE ⟨0, ⟨31, 1048576, 31, 1048575, 2, [], [97, 98, 99, 100, 101, 102, 103, 104, 105, 106, 107, 108, 109, 110, 111, 112, 113, 114, 115, 116, 117, 118, 119, 120, 121, 122, 48, 49, 50, 51, 52, 53], 18446744073709551615, 2, 1099511627476, 1099511627776, 6⟩, 0, 0⟩ = false := by decide +kernel
  have cE : Hid (∀ wx, Calls Tryd.prog 8 #[.agg #[nu 0, nu 31, nu 1048576, nu 31, nu 1048575, nu 2, .string ⟨#[]⟩, .string ⟨#[97, 98, 99, 100, 101, 102, 103, 104, 105, 106, 107, 108, 109, 110, 111, 112, 113, 114, 115, 116, 117, 118, 119, 120, 121, 122, 48, 49, 50, 51, 52, 53]⟩, .int .u64 18446744073709551615, nu 2, nu 1099511627476, nu 1099511627776, nu 6, nu 0, nu 0]] wx fun x w' => ∃ a cap, x = .returned (.tuple #[.slice a 0 cap, noE 1]) ∧ Below wx.heap.size wx w') := fun wx => enc_no R ⟨0, ⟨31, 1048576, 31, 1048575, 2, [], [97, 98, 99, 100, 101, 102, 103, 104, 105, 106, 107, 108, 109, 110, 111, 112, 113, 114, 115, 116, 117, 118, 119, 120, 121, 122, 48, 49, 50, 51, 52, 53], 18446744073709551615, 2, 1099511627476, 1099511627776, 6⟩, 0, 0⟩ hm ⟨by decide, by decide, by decide⟩ (by constructor <;> exact ⟨by decide, by decide⟩) wx
  have cP : Hid (∀ wx, Er.Handle wx → Calls Tryd.prog 9 #[noE 1, nu 1] wx fun e w' => e = .returned (.bool true) ∧ Below wx.heap.size wx w') := fun wx h => plainV 1 (by decide) wx h
  have cC := Hid.mk' (child_c w)
  rw [child_arr] at cC
  have HG := Hid.mk' hg
  clear hm hg
  go_enter Tryd.func21, Tryd.ntmps21
  go_wp2_with fail
  refine cC.out.mono ?_
  rintro e x1 ⟨rfl, hb1⟩
  have HB1 := Hid.mk' hb1
  clear hb1 cC
  go_wp2_with fail
  refine (cE.out _).mono ?_
  rintro e x2 ⟨a, cap, rfl, hb2⟩
  have HB2 : Hid (Below w.heap.size w x2) := (HB1.out.alloc HB1.out.size _).trans (hb2.mono (by have := HB1.out.size; simp; omega))
  have HG2 := Hid.mk' (HG.out.below HB2.out)
  clear hb2 HB1 cE
  go_wp2_with fail
  refine (cP.out _ HG2.out).mono ?_
  rintro e x3 ⟨rfl, hb3⟩
  have HB3 := Hid.mk' (HB2.out.trans (hb3.mono HB2.out.size))
  clear hb3
  go_wp2
  go_ret
  exact ⟨rfl, HB3.out⟩

set_option maxRecDepth 100000 in
set_option maxHeartbeats 4000000 in
theorem no_8 (R : Says) (w : World) (hg : Er.Handle w) : Calls Tryd.prog 21 #[nu 8] w fun e w' => e = .returned (.bool true) ∧ Below w.heap.size w w' := by
  have hm : mayE ⟨0, ⟨31, 1048576, 31, 1048575, 2, [97, 98, 99, 100, 101, 102, 103, 104, 105, 106, 107, 108, 109, 110, 111, 112, 113, 114, 115, 116, 117, 118, 119, 120, 121, 122, 48, 49, 50, 51, 52, 53], [], 18446744073709551615, 2, 1099511627476, 1099511627776, 6⟩, 0, 0⟩ = false := by decide +kernel
  have cE : Hid (∀ wx, Calls Tryd.prog 8 #[.agg #[nu 0, nu 31, nu 1048576, nu 31, nu 1048575, nu 2, .string ⟨#[97, 98, 99, 100, 101, 102, 103, 104, 105, 106, 107, 108, 109, 110, 111, 112, 113, 114, 115, 116, 117, 118, 119, 120, 121, 122, 48, 49, 50, 51, 52, 53]⟩, .string ⟨#[]⟩, .int .u64 18446744073709551615, nu 2, nu 1099511627476, nu 1099511627776, nu 6, nu 0, nu 0]] wx fun x w' => ∃ a cap, x = .returned (.tuple #[.slice a 0 cap, noE 1]) ∧ Below wx.heap.size wx w') := fun wx => enc_no R ⟨0, ⟨31, 1048576, 31, 1048575, 2, [97, 98, 99, 100, 101, 102, 103, 104, 105, 106, 107, 108, 109, 110, 111, 112, 113, 114, 115, 116, 117, 118, 119, 120, 121, 122, 48, 49, 50, 51, 52, 53], [], 18446744073709551615, 2, 1099511627476, 1099511627776, 6⟩, 0, 0⟩ hm ⟨by decide, by decide, by decide⟩ (by constructor <;> exact ⟨by decide, by decide⟩) wx
  have cP : Hid (∀ wx, Er.Handle wx → Calls Tryd.prog 9 #[noE 1, nu 1] wx fun e w' => e = .returned (.bool true) ∧ Below wx.heap.size wx w') := fun wx h => plainV 1 (by decide) wx h
  have cC := Hid.mk' (child_c w)
  rw [child_arr] at cC
  have HG := Hid.mk' hg
  clear hm hg
  go_enter Tryd.func21, Tryd.ntmps21
  go_wp2_with fail
  refine cC.out.mono ?_
  rintro e x1 ⟨rfl, hb1⟩
  have HB1 := Hid.mk' hb1
  clear hb1 cC
  go_wp2_with fail
  refine (cE.out _).mono ?_
  rintro e x2 ⟨a, cap, rfl, hb2⟩
  have HB2 : Hid (Below w.heap.size w x2) := (HB1.out.alloc HB1.out.size _).trans (hb2.mono (by have := HB1.out.size; simp; omega))
  have HG2 := Hid.mk' (HG.out.below HB2.out)
  clear hb2 HB1 cE
  go_wp2_with fail
  refine (cP.out _ HG2.out).mono ?_
  rintro e x3 ⟨rfl, hb3⟩
  have HB3 := Hid.mk' (HB2.out.trans (hb3.mono HB2.out.size))
  clear hb3
  go_wp2
  go_ret
  exact ⟨rfl, HB3.out⟩

set_option maxRecDepth 100000 in
set_option maxHeartbeats 4000000 in
theorem no_9 (R : Says) (w : World) (hg : Er.Handle w) : Calls Tryd.prog 21 #[nu 9] w fun e w' => e = .returned (.bool true) ∧ Below w.heap.size w w' := by
  have hm : mayE ⟨0, ⟨31, 1048576, 31, 1048575, 2, [97, 98, 99, 100, 101, 102, 103, 104, 105, 106, 107, 108, 109, 110, 111, 112, 113, 114, 115, 116, 117, 118, 119, 120, 121, 122, 48, 49, 50, 51, 52, 53], [97, 98, 99, 100, 101, 102, 103, 104, 105, 106, 107, 108, 109, 110, 111, 112, 113, 114, 115, 116, 117, 118, 119, 120, 121, 122, 48, 49, 50, 51, 52, 53], 18446744073709551615, 3, 1099511627476, 1099511627776, 6⟩, 0, 0⟩ = false := by decide +kernel
  have cE : Hid (∀ wx, Calls Tryd.prog 8 #[.agg #[nu 0, nu 31, nu 1048576, nu 31, nu 1048575, nu 2, .string ⟨#[97, 98, 99, 100, 101, 102, 103, 104, 105, 106, 107, 108, 109, 110, 111, 112, 113, 114, 115, 116, 117, 118, 119, 120, 121, 122, 48, 49, 50, 51, 52, 53]⟩, .string ⟨#[97, 98, 99, 100, 101, 102, 103, 104, 105, 106, 107, 108, 109, 110, 111, 112, 113, 114, 115, 116, 117, 118, 119, 120, 121, 122, 48, 49, 50, 51, 52, 53]⟩, .int .u64 18446744073709551615, nu 3, nu 1099511627476, nu 1099511627776, nu 6, nu 0, nu 0]] wx fun x w' => ∃ a cap, x = .returned (.tuple #[.slice a 0 cap, noE 1]) ∧ Below wx.heap.size wx w') := fun wx => enc_no R ⟨0, ⟨31, 1048576, 31, 1048575, 2, [97, 98, 99, 100, 101, 102, 103, 104, 105, 106, 107, 108, 109, 110, 111, 112, 113, 114, 115, 116, 117, 118, 119, 120, 121, 122, 48, 49, 50, 51, 52, 53], [97, 98, 99, 100, 101, 102, 103, 104, 105, 106, 107, 108, 109, 110, 111, 112, 113, 114, 115, 116, 117, 118, 119, 120, 121, 122, 48, 49, 50, 51, 52, 53], 18446744073709551615, 3, 1099511627476, 1099511627776, 6⟩, 0, 0⟩ hm ⟨by decide, by decide, by decide⟩ (by constructor <;> exact ⟨by decide, by decide⟩) wx
  have cP : Hid (∀ wx, Er.Handle wx → Calls Tryd.prog 9 #[noE 1, nu 1] wx fun e w' => e = .returned (.bool true) ∧ Below wx.heap.size wx w') := fun wx h => plainV 1 (by decide) wx h
  have cC := Hid.mk' (child_c w)
  rw [child_arr] at cC
  have HG := Hid.mk' hg
  clear hm hg
  go_enter Tryd.func21, Tryd.ntmps21
  go_wp2_with fail
  refine cC.out.mono ?_
  rintro e x1 ⟨rfl, hb1⟩
  have HB1 := Hid.mk' hb1
  clear hb1 cC
  go_wp2_with fail
  refine (cE.out _).mono ?_
  rintro e x2 ⟨a, cap, rfl, hb2⟩
  have HB2 : Hid (Below w.heap.size w x2) := (HB1.out.alloc HB1.out.size _).trans (hb2.mono (by have := HB1.out.size; simp; omega))
  have HG2 := Hid.mk' (HG.out.below HB2.out)
  clear hb2 HB1 cE
  go_wp2_with fail
  refine (cP.out _ HG2.out).mono ?_
  rintro e x3 ⟨rfl, hb3⟩
  have HB3 := Hid.mk' (HB2.out.trans (hb3.mono HB2.out.size))
  clear hb3
  go_wp2
  go_ret
  exact ⟨rfl, HB3.out⟩

end Ev
end Go.Proofs.YtnllplholfhbdaaDoor
