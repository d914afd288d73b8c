/- What may be wrong with a birth: the others, and all. -/
import Derived.Test.YtnllplholfhbdaaDoorNoE
namespace Go.Proofs.YtnllplholfhbdaaDoor
set_option linter.ambiguousOpen false
open Go.RowKit
namespace Ev
open Pk Sm Ft
set_option linter.unusedSimpArgs false
set_option linter.unusedVariables false

set_option maxRecDepth 100000 in
set_option maxHeartbeats 4000000 in
theorem no_10 (R : Says) (w : World) (hg : Er.Handle w) : Calls Tryd.prog 21 #[nu 10] w fun e w' => e = .returned (.bool true) ∧ Below w.heap.size w w' := by
  have hm : mayE ⟨0, ⟨31, 1048576, 31, 1048575, 2, [97, 98, 99, 100, 101, 102, 103, 104, 105, 106, 107, 108, 109, 110, 111, 112, 113, 114, 115, 116, 117, 118, 119, 120, 121, 122, 48, 49, 50, 51, 52, 53], [97, 98, 99, 100, 101, 102, 103, 104, 105, 106, 107, 108, 109, 110, 111, 112, 113, 114, 115, 116, 117, 118, 119, 120, 121, 122, 48, 49, 50, 51, 52, 53], 18446744073709551615, 2, 1099511627475, 1099511627776, 6⟩, 0, 0⟩ = false := by decide +kernel
  have cE : Hid (∀ wx, Calls Tryd.prog 8 #[.agg #[nu 0, nu 31, nu 1048576, nu 31, nu 1048575, nu 2, .string ⟨#[97, 98, 99, 100, 101, 102, 103, 104, 105, 106, 107, 108, 109, 110, 111, 112, 113, 114, 115, 116, 117, 118, 119, 120, 121, 122, 48, 49, 50, 51, 52, 53]⟩, .string ⟨#[97, 98, 99, 100, 101, 102, 103, 104, 105, 106, 107, 108, 109, 110, 111, 112, 113, 114, 115, 116, 117, 118, 119, 120, 121, 122, 48, 49, 50, 51, 52, 53]⟩, .int .u64 18446744073709551615, nu 2, nu 1099511627475, nu 1099511627776, nu 6, nu 0, nu 0]] wx fun x w' => ∃ a cap, x = .returned (.tuple #[.slice a 0 cap, noE 1]) ∧ Below wx.heap.size wx w') := fun wx => enc_no R ⟨0, ⟨31, 1048576, 31, 1048575, 2, [97, 98, 99, 100, 101, 102, 103, 104, 105, 106, 107, 108, 109, 110, 111, 112, 113, 114, 115, 116, 117, 118, 119, 120, 121, 122, 48, 49, 50, 51, 52, 53], [97, 98, 99, 100, 101, 102, 103, 104, 105, 106, 107, 108, 109, 110, 111, 112, 113, 114, 115, 116, 117, 118, 119, 120, 121, 122, 48, 49, 50, 51, 52, 53], 18446744073709551615, 2, 1099511627475, 1099511627776, 6⟩, 0, 0⟩ hm ⟨by decide, by decide, by decide⟩ (by constructor <;> exact ⟨by decide, by decide⟩) wx
  have cP : Hid (∀ wx, Er.Handle wx → Calls Tryd.prog 9 #[noE 1, nu 1] wx fun e w' => e = .returned (.bool true) ∧ Below wx.heap.size wx w') := fun wx h => plainV 1 (by decide) wx h
  have cC := Hid.mk' (child_c w)
  rw [child_arr] at cC
  have HG := Hid.mk' hg
  clear hm hg
  go_enter Tryd.func21, Tryd.ntmps21
  go_wp2_with fail
  refine cC.out.mono ?_
  rintro e x1 ⟨rfl, hb1⟩
  have HB1 := Hid.mk' hb1
  clear hb1 cC
  go_wp2_with fail
  refine (cE.out _).mono ?_
  rintro e x2 ⟨a, cap, rfl, hb2⟩
  have HB2 : Hid (Below w.heap.size w x2) := (HB1.out.alloc HB1.out.size _).trans (hb2.mono (by have := HB1.out.size; simp; omega))
  have HG2 := Hid.mk' (HG.out.below HB2.out)
  clear hb2 HB1 cE
  go_wp2_with fail
  refine (cP.out _ HG2.out).mono ?_
  rintro e x3 ⟨rfl, hb3⟩
  have HB3 := Hid.mk' (HB2.out.trans (hb3.mono HB2.out.size))
  clear hb3
  go_wp2
  go_ret
  exact ⟨rfl, HB3.out⟩

set_option maxRecDepth 100000 in
set_option maxHeartbeats 4000000 in
theorem no_11 (R : Says) (w : World) (hg : Er.Handle w) : Calls Tryd.prog 21 #[nu 11] w fun e w' => e = .returned (.bool true) ∧ Below w.heap.size w w' := by
  have hm : mayE ⟨0, ⟨31, 1048576, 31, 1048575, 2, [97, 98, 99, 100, 101, 102, 103, 104, 105, 106, 107, 108, 109, 110, 111, 112, 113, 114, 115, 116, 117, 118, 119, 120, 121, 122, 48, 49, 50, 51, 52, 53], [97, 98, 99, 100, 101, 102, 103, 104, 105, 106, 107, 108, 109, 110, 111, 112, 113, 114, 115, 116, 117, 118, 119, 120, 121, 122, 48, 49, 50, 51, 52, 53], 18446744073709551615, 2, 1099511627476, 1099511627777, 6⟩, 0, 0⟩ = false := by decide +kernel
  have cE : Hid (∀ wx, Calls Tryd.prog 8 #[.agg #[nu 0, nu 31, nu 1048576, nu 31, nu 1048575, nu 2, .string ⟨#[97, 98, 99, 100, 101, 102, 103, 104, 105, 106, 107, 108, 109, 110, 111, 112, 113, 114, 115, 116, 117, 118, 119, 120, 121, 122, 48, 49, 50, 51, 52, 53]⟩, .string ⟨#[97, 98, 99, 100, 101, 102, 103, 104, 105, 106, 107, 108, 109, 110, 111, 112, 113, 114, 115, 116, 117, 118, 119, 120, 121, 122, 48, 49, 50, 51, 52, 53]⟩, .int .u64 18446744073709551615, nu 2, nu 1099511627476, nu 1099511627777, nu 6, nu 0, nu 0]] wx fun x w' => ∃ a cap, x = .returned (.tuple #[.slice a 0 cap, noE 1]) ∧ Below wx.heap.size wx w') := fun wx => enc_no R ⟨0, ⟨31, 1048576, 31, 1048575, 2, [97, 98, 99, 100, 101, 102, 103, 104, 105, 106, 107, 108, 109, 110, 111, 112, 113, 114, 115, 116, 117, 118, 119, 120, 121, 122, 48, 49, 50, 51, 52, 53], [97, 98, 99, 100, 101, 102, 103, 104, 105, 106, 107, 108, 109, 110, 111, 112, 113, 114, 115, 116, 117, 118, 119, 120, 121, 122, 48, 49, 50, 51, 52, 53], 18446744073709551615, 2, 1099511627476, 1099511627777, 6⟩, 0, 0⟩ hm ⟨by decide, by decide, by decide⟩ (by constructor <;> exact ⟨by decide, by decide⟩) wx
  have cP : Hid (∀ wx, Er.Handle wx → Calls Tryd.prog 9 #[noE 1, nu 1] wx fun e w' => e = .returned (.bool true) ∧ Below wx.heap.size wx w') := fun wx h => plainV 1 (by decide) wx h
  have cC := Hid.mk' (child_c w)
  rw [child_arr] at cC
  have HG := Hid.mk' hg
  clear hm hg
  go_enter Tryd.func21, Tryd.ntmps21
  go_wp2_with fail
  refine cC.out.mono ?_
  rintro e x1 ⟨rfl, hb1⟩
  have HB1 := Hid.mk' hb1
  clear hb1 cC
  go_wp2_with fail
  refine (cE.out _).mono ?_
  rintro e x2 ⟨a, cap, rfl, hb2⟩
  have HB2 : Hid (Below w.heap.size w x2) := (HB1.out.alloc HB1.out.size _).trans (hb2.mono (by have := HB1.out.size; simp; omega))
  have HG2 := Hid.mk' (HG.out.below HB2.out)
  clear hb2 HB1 cE
  go_wp2_with fail
  refine (cP.out _ HG2.out).mono ?_
  rintro e x3 ⟨rfl, hb3⟩
  have HB3 := Hid.mk' (HB2.out.trans (hb3.mono HB2.out.size))
  clear hb3
  go_wp2
  go_ret
  exact ⟨rfl, HB3.out⟩

set_option maxRecDepth 100000 in
set_option maxHeartbeats 4000000 in
theorem no_12 (R : Says) (w : World) (hg : Er.Handle w) : Calls Tryd.prog 21 #[nu 12] w fun e w' => e = .returned (.bool true) ∧ Below w.heap.size w w' := by
  have hm : mayE ⟨0, ⟨31, 1048576, 31, 1048575, 2, [97, 98, 99, 100, 101, 102, 103, 104, 105, 106, 107, 108, 109, 110, 111, 112, 113, 114, 115, 116, 117, 118, 119, 120, 121, 122, 48, 49, 50, 51, 52, 53], [97, 98, 99, 100, 101, 102, 103, 104, 105, 106, 107, 108, 109, 110, 111, 112, 113, 114, 115, 116, 117, 118, 119, 120, 121, 122, 48, 49, 50, 51, 52, 53], 18446744073709551615, 2, 1099511627476, 1099511627776, 7⟩, 0, 0⟩ = false := by decide +kernel
  have cE : Hid (∀ wx, Calls Tryd.prog 8 #[.agg #[nu 0, nu 31, nu 1048576, nu 31, nu 1048575, nu 2, .string ⟨#[97, 98, 99, 100, 101, 102, 103, 104, 105, 106, 107, 108, 109, 110, 111, 112, 113, 114, 115, 116, 117, 118, 119, 120, 121, 122, 48, 49, 50, 51, 52, 53]⟩, .string ⟨#[97, 98, 99, 100, 101, 102, 103, 104, 105, 106, 107, 108, 109, 110, 111, 112, 113, 114, 115, 116, 117, 118, 119, 120, 121, 122, 48, 49, 50, 51, 52, 53]⟩, .int .u64 18446744073709551615, nu 2, nu 1099511627476, nu 1099511627776, nu 7, nu 0, nu 0]] wx fun x w' => ∃ a cap, x = .returned (.tuple #[.slice a 0 cap, noE 1]) ∧ Below wx.heap.size wx w') := fun wx => enc_no R ⟨0, ⟨31, 1048576, 31, 1048575, 2, [97, 98, 99, 100, 101, 102, 103, 104, 105, 106, 107, 108, 109, 110, 111, 112, 113, 114, 115, 116, 117, 118, 119, 120, 121, 122, 48, 49, 50, 51, 52, 53], [97, 98, 99, 100, 101, 102, 103, 104, 105, 106, 107, 108, 109, 110, 111, 112, 113, 114, 115, 116, 117, 118, 119, 120, 121, 122, 48, 49, 50, 51, 52, 53], 18446744073709551615, 2, 1099511627476, 1099511627776, 7⟩, 0, 0⟩ hm ⟨by decide, by decide, by decide⟩ (by constructor <;> exact ⟨by decide, by decide⟩) wx
  have cP : Hid (∀ wx, Er.Handle wx → Calls Tryd.prog 9 #[noE 1, nu 1] wx fun e w' => e = .returned (.bool true) ∧ Below wx.heap.size wx w') := fun wx h => plainV 1 (by decide) wx h
  have cC := Hid.mk' (child_c w)
  rw [child_arr] at cC
  have HG := Hid.mk' hg
  clear hm hg
  go_enter Tryd.func21, Tryd.ntmps21
  go_wp2_with fail
  refine cC.out.mono ?_
  rintro e x1 ⟨rfl, hb1⟩
  have HB1 := Hid.mk' hb1
  clear hb1 cC
  go_wp2_with fail
  refine (cE.out _).mono ?_
  rintro e x2 ⟨a, cap, rfl, hb2⟩
  have HB2 : Hid (Below w.heap.size w x2) := (HB1.out.alloc HB1.out.size _).trans (hb2.mono (by have := HB1.out.size; simp; omega))
  have HG2 := Hid.mk' (HG.out.below HB2.out)
  clear hb2 HB1 cE
  go_wp2_with fail
  refine (cP.out _ HG2.out).mono ?_
  rintro e x3 ⟨rfl, hb3⟩
  have HB3 := Hid.mk' (HB2.out.trans (hb3.mono HB2.out.size))
  clear hb3
  go_wp2
  go_ret
  exact ⟨rfl, HB3.out⟩

set_option maxRecDepth 100000 in
set_option maxHeartbeats 4000000 in
theorem no_13 (R : Says) (w : World) (hg : Er.Handle w) : Calls Tryd.prog 21 #[nu 13] w fun e w' => e = .returned (.bool true) ∧ Below w.heap.size w w' := by
  have hm : mayE ⟨0, ⟨31, 1048576, 31, 1048575, 2, [97, 98, 99, 100, 101, 102, 103, 104, 105, 106, 107, 108, 109, 110, 111, 112, 113, 114, 115, 116, 117, 118, 119, 120, 121, 122, 48, 49, 50, 51, 52, 53], [97, 98, 99, 100, 101, 102, 103, 104, 105, 106, 107, 108, 109, 110, 111, 112, 113, 114, 115, 116, 117, 118, 119, 120, 121, 122, 48, 49, 50, 51, 52, 53], 18446744073709551615, 2, 1099511627476, 1099511627776, 0⟩, 0, 0⟩ = false := by decide +kernel
  have cE : Hid (∀ wx, Calls Tryd.prog 8 #[.agg #[nu 0, nu 31, nu 1048576, nu 31, nu 1048575, nu 2, .string ⟨#[97, 98, 99, 100, 101, 102, 103, 104, 105, 106, 107, 108, 109, 110, 111, 112, 113, 114, 115, 116, 117, 118, 119, 120, 121, 122, 48, 49, 50, 51, 52, 53]⟩, .string ⟨#[97, 98, 99, 100, 101, 102, 103, 104, 105, 106, 107, 108, 109, 110, 111, 112, 113, 114, 115, 116, 117, 118, 119, 120, 121, 122, 48, 49, 50, 51, 52, 53]⟩, .int .u64 18446744073709551615, nu 2, nu 1099511627476, nu 1099511627776, nu 0, nu 0, nu 0]] wx fun x w' => ∃ a cap, x = .returned (.tuple #[.slice a 0 cap, noE 1]) ∧ Below wx.heap.size wx w') := fun wx => enc_no R ⟨0, ⟨31, 1048576, 31, 1048575, 2, [97, 98, 99, 100, 101, 102, 103, 104, 105, 106, 107, 108, 109, 110, 111, 112, 113, 114, 115, 116, 117, 118, 119, 120, 121, 122, 48, 49, 50, 51, 52, 53], [97, 98, 99, 100, 101, 102, 103, 104, 105, 106, 107, 108, 109, 110, 111, 112, 113, 114, 115, 116, 117, 118, 119, 120, 121, 122, 48, 49, 50, 51, 52, 53], 18446744073709551615, 2, 1099511627476, 1099511627776, 0⟩, 0, 0⟩ hm ⟨by decide, by decide, by decide⟩ (by constructor <;> exact ⟨by decide, by decide⟩) wx
  have cP : Hid (∀ wx, Er.Handle wx → Calls Tryd.prog 9 #[noE 1, nu 1] wx fun e w' => e = .returned (.bool true) ∧ Below wx.heap.size wx w') := fun wx h => plainV 1 (by decide) wx h
  have cC := Hid.mk' (child_c w)
  rw [child_arr] at cC
  have HG := Hid.mk' hg
  clear hm hg
  go_enter Tryd.func21, Tryd.ntmps21
  go_wp2_with fail
  refine cC.out.mono ?_
  rintro e x1 ⟨rfl, hb1⟩
  have HB1 := Hid.mk' hb1
  clear hb1 cC
  go_wp2_with fail
  refine (cE.out _).mono ?_
  rintro e x2 ⟨a, cap, rfl, hb2⟩
  have HB2 : Hid (Below w.heap.size w x2) := (HB1.out.alloc HB1.out.size _).trans (hb2.mono (by have := HB1.out.size; simp; omega))
  have HG2 := Hid.mk' (HG.out.below HB2.out)
  clear hb2 HB1 cE
  go_wp2_with fail
  refine (cP.out _ HG2.out).mono ?_
  rintro e x3 ⟨rfl, hb3⟩
  have HB3 := Hid.mk' (HB2.out.trans (hb3.mono HB2.out.size))
  clear hb3
  go_wp2
  go_ret
  exact ⟨rfl, HB3.out⟩

set_option maxRecDepth 100000 in
set_option maxHeartbeats 4000000 in
theorem no_14 (R : Says) (w : World) (hg : Er.Handle w) : Calls Tryd.prog 21 #[nu 14] w fun e w' => e = .returned (.bool true) ∧ Below w.heap.size w w' := by
  have hm : mayE ⟨0, ⟨31, 1048576, 31, 1048575, 2, [97, 98, 99, 100, 101, 102, 103, 104, 105, 106, 107, 108, 109, 110, 111, 112, 113, 114, 115, 116, 117, 118, 119, 120, 121, 122, 48, 49, 50, 51, 52, 53], [97, 98, 99, 100, 101, 102, 103, 104, 105, 106, 107, 108, 109, 110, 111, 112, 113, 114, 115, 116, 117, 118, 119, 120, 121, 122, 48, 49, 50, 51, 52, 53], 18446744073709551615, 2, 1099511627476, 1099511627776, 6⟩, 1, 0⟩ = false := by decide +kernel
  have cE : Hid (∀ wx, Calls Tryd.prog 8 #[.agg #[nu 0, nu 31, nu 1048576, nu 31, nu 1048575, nu 2, .string ⟨#[97, 98, 99, 100, 101, 102, 103, 104, 105, 106, 107, 108, 109, 110, 111, 112, 113, 114, 115, 116, 117, 118, 119, 120, 121, 122, 48, 49, 50, 51, 52, 53]⟩, .string ⟨#[97, 98, 99, 100, 101, 102, 103, 104, 105, 106, 107, 108, 109, 110, 111, 112, 113, 114, 115, 116, 117, 118, 119, 120, 121, 122, 48, 49, 50, 51, 52, 53]⟩, .int .u64 18446744073709551615, nu 2, nu 1099511627476, nu 1099511627776, nu 6, nu 1, nu 0]] wx fun x w' => ∃ a cap, x = .returned (.tuple #[.slice a 0 cap, noE 1]) ∧ Below wx.heap.size wx w') := fun wx => enc_no R ⟨0, ⟨31, 1048576, 31, 1048575, 2, [97, 98, 99, 100, 101, 102, 103, 104, 105, 106, 107, 108, 109, 110, 111, 112, 113, 114, 115, 116, 117, 118, 119, 120, 121, 122, 48, 49, 50, 51, 52, 53], [97, 98, 99, 100, 101, 102, 103, 104, 105, 106, 107, 108, 109, 110, 111, 112, 113, 114, 115, 116, 117, 118, 119, 120, 121, 122, 48, 49, 50, 51, 52, 53], 18446744073709551615, 2, 1099511627476, 1099511627776, 6⟩, 1, 0⟩ hm ⟨by decide, by decide, by decide⟩ (by constructor <;> exact ⟨by decide, by decide⟩) wx
  have cP : Hid (∀ wx, Er.Handle wx → Calls Tryd.prog 9 #[noE 1, nu 1] wx fun e w' => e = .returned (.bool true) ∧ Below wx.heap.size wx w') := fun wx h => plainV 1 (by decide) wx h
  have cC := Hid.mk' (child_c w)
  rw [child_arr] at cC
  have HG := Hid.mk' hg
  clear hm hg
  go_enter Tryd.func21, Tryd.ntmps21
  go_wp2_with fail
  refine cC.out.mono ?_
  rintro e x1 ⟨rfl, hb1⟩
  have HB1 := Hid.mk' hb1
  clear hb1 cC
  go_wp2_with fail
  refine (cE.out _).mono ?_
  rintro e x2 ⟨a, cap, rfl, hb2⟩
  have HB2 : Hid (Below w.heap.size w x2) := (HB1.out.alloc HB1.out.size _).trans (hb2.mono (by have := HB1.out.size; simp; omega))
  have HG2 := Hid.mk' (HG.out.below HB2.out)
  clear hb2 HB1 cE
  go_wp2_with fail
  refine (cP.out _ HG2.out).mono ?_
  rintro e x3 ⟨rfl, hb3⟩
  have HB3 := Hid.mk' (HB2.out.trans (hb3.mono HB2.out.size))
  clear hb3
  go_wp2
  go_ret
  exact ⟨rfl, HB3.out⟩

set_option maxRecDepth 100000 in
set_option maxHeartbeats 4000000 in
theorem no_15 (R : Says) (w : World) (hg : Er.Handle w) : Calls Tryd.prog 21 #[nu 15] w fun e w' => e = .returned (.bool true) ∧ Below w.heap.size w w' := by
  have hm : mayE ⟨0, ⟨31, 1048576, 31, 1048575, 2, [97, 98, 99, 100, 101, 102, 103, 104, 105, 106, 107, 108, 109, 110, 111, 112, 113, 114, 115, 116, 117, 118, 119, 120, 121, 122, 48, 49, 50, 51, 52, 53], [97, 98, 99, 100, 101, 102, 103, 104, 105, 106, 107, 108, 109, 110, 111, 112, 113, 114, 115, 116, 117, 118, 119, 120, 121, 122, 48, 49, 50, 51, 52, 53], 18446744073709551615, 2, 1099511627476, 1099511627776, 6⟩, 0, 1⟩ = false := by decide +kernel
  have cE : Hid (∀ wx, Calls Tryd.prog 8 #[.agg #[nu 0, nu 31, nu 1048576, nu 31, nu 1048575, nu 2, .string ⟨#[97, 98, 99, 100, 101, 102, 103, 104, 105, 106, 107, 108, 109, 110, 111, 112, 113, 114, 115, 116, 117, 118, 119, 120, 121, 122, 48, 49, 50, 51, 52, 53]⟩, .string ⟨#[97, 98, 99, 100, 101, 102, 103, 104, 105, 106, 107, 108, 109, 110, 111, 112, 113, 114, 115, 116, 117, 118, 119, 120, 121, 122, 48, 49, 50, 51, 52, 53]⟩, .int .u64 18446744073709551615, nu 2, nu 1099511627476, nu 1099511627776, nu 6, nu 0, nu 1]] wx fun x w' => ∃ a cap, x = .returned (.tuple #[.slice a 0 cap, noE 1]) ∧ Below wx.heap.size wx w') := fun wx => enc_no R ⟨0, ⟨31, 1048576, 31, 1048575, 2, [97, 98, 99, 100, 101, 102, 103, 104, 105, 106, 107, 108, 109, 110, 111, 112, 113, 114, 115, 116, 117, 118, 119, 120, 121, 122, 48, 49, 50, 51, 52, 53], [97, 98, 99, 100, 101, 102, 103, 104, 105, 106, 107, 108, 109, 110, 111, 112, 113, 114, 115, 116, 117, 118, 119, 120, 121, 122, 48, 49, 50, 51, 52, 53], 18446744073709551615, 2, 1099511627476, 1099511627776, 6⟩, 0, 1⟩ hm ⟨by decide, by decide, by decide⟩ (by constructor <;> exact ⟨by decide, by decide⟩) wx
  have cP : Hid (∀ wx, Er.Handle wx → Calls Tryd.prog 9 #[noE 1, nu 1] wx fun e w' => e = .returned (.bool true) ∧ Below wx.heap.size wx w') := fun wx h => plainV 1 (by decide) wx h
  have cC := Hid.mk' (child_c w)
  rw [child_arr] at cC
  have HG := Hid.mk' hg
  clear hm hg
  go_enter Tryd.func21, Tryd.ntmps21
  go_wp2_with fail
  refine cC.out.mono ?_
  rintro e x1 ⟨rfl, hb1⟩
  have HB1 := Hid.mk' hb1
  clear hb1 cC
  go_wp2_with fail
  refine (cE.out _).mono ?_
  rintro e x2 ⟨a, cap, rfl, hb2⟩
  have HB2 : Hid (Below w.heap.size w x2) := (HB1.out.alloc HB1.out.size _).trans (hb2.mono (by have := HB1.out.size; simp; omega))
  have HG2 := Hid.mk' (HG.out.below HB2.out)
  clear hb2 HB1 cE
  go_wp2_with fail
  refine (cP.out _ HG2.out).mono ?_
  rintro e x3 ⟨rfl, hb3⟩
  have HB3 := Hid.mk' (HB2.out.trans (hb3.mono HB2.out.size))
  clear hb3
  go_wp2
  go_ret
  exact ⟨rfl, HB3.out⟩

set_option maxRecDepth 100000 in
set_option maxHeartbeats 4000000 in
theorem no_16 (R : Says) (w : World) (hg : Er.Handle w) : Calls Tryd.prog 21 #[nu 16] w fun e w' => e = .returned (.bool true) ∧ Below w.heap.size w w' := by
  have hm : mayE ⟨0, ⟨31, 1048576, 31, 1048575, 0, [97, 98, 99, 100, 101, 102, 103, 104, 105, 106, 107, 108, 109, 110, 111, 112, 113, 114, 115, 116, 117, 118, 119, 120, 121, 122, 48, 49, 50, 51, 52, 53], [97, 98, 99, 100, 101, 102, 103, 104, 105, 106, 107, 108, 109, 110, 111, 112, 113, 114, 115, 116, 117, 118, 119, 120, 121, 122, 48, 49, 50, 51, 52, 53], 18446744073709551615, 2, 1099511627476, 1099511627776, 6⟩, 0, 0⟩ = false := by decide +kernel
  have cE : Hid (∀ wx, Calls Tryd.prog 8 #[.agg #[nu 0, nu 31, nu 1048576, nu 31, nu 1048575, nu 0, .string ⟨#[97, 98, 99, 100, 101, 102, 103, 104, 105, 106, 107, 108, 109, 110, 111, 112, 113, 114, 115, 116, 117, 118, 119, 120, 121, 122, 48, 49, 50, 51, 52, 53]⟩, .string ⟨#[97, 98, 99, 100, 101, 102, 103, 104, 105, 106, 107, 108, 109, 110, 111, 112, 113, 114, 115, 116, 117, 118, 119, 120, 121, 122, 48, 49, 50, 51, 52, 53]⟩, .int .u64 18446744073709551615, nu 2, nu 1099511627476, nu 1099511627776, nu 6, nu 0, nu 0]] wx fun x w' => ∃ a cap, x = .returned (.tuple #[.slice a 0 cap, noE 1]) ∧ Below wx.heap.size wx w') := fun wx => enc_no R ⟨0, ⟨31, 1048576, 31, 1048575, 0, [97, 98, 99, 100, 101, 102, 103, 104, 105, 106, 107, 108, 109, 110, 111, 112, 113, 114, 115, 116, 117, 118, 119, 120, 121, 122, 48, 49, 50, 51, 52, 53], [97, 98, 99, 100, 101, 102, 103, 104, 105, 106, 107, 108, 109, 110, 111, 112, 113, 114, 115, 116, 117, 118, 119, 120, 121, 122, 48, 49, 50, 51, 52, 53], 18446744073709551615, 2, 1099511627476, 1099511627776, 6⟩, 0, 0⟩ hm ⟨by decide, by decide, by decide⟩ (by constructor <;> exact ⟨by decide, by decide⟩) wx
  have cP : Hid (∀ wx, Er.Handle wx → Calls Tryd.prog 9 #[noE 1, nu 1] wx fun e w' => e = .returned (.bool true) ∧ Below wx.heap.size wx w') := fun wx h => plainV 1 (by decide) wx h
  have cC := Hid.mk' (child_c w)
  rw [child_arr] at cC
  have HG := Hid.mk' hg
  clear hm hg
  go_enter Tryd.func21, Tryd.ntmps21
  go_wp2_with fail
  refine cC.out.mono ?_
  rintro e x1 ⟨rfl, hb1⟩
  have HB1 := Hid.mk' hb1
  clear hb1 cC
  go_wp2_with fail
  refine (cE.out _).mono ?_
  rintro e x2 ⟨a, cap, rfl, hb2⟩
  have HB2 : Hid (Below w.heap.size w x2) := (HB1.out.alloc HB1.out.size _).trans (hb2.mono (by have := HB1.out.size; simp; omega))
  have HG2 := Hid.mk' (HG.out.below HB2.out)
  clear hb2 HB1 cE
  go_wp2_with fail
  refine (cP.out _ HG2.out).mono ?_
  rintro e x3 ⟨rfl, hb3⟩
  have HB3 := Hid.mk' (HB2.out.trans (hb3.mono HB2.out.size))
  clear hb3
  go_wp2
  go_ret
  exact ⟨rfl, HB3.out⟩

set_option maxRecDepth 100000 in
set_option maxHeartbeats 4000000 in
theorem no_17 (R : Says) (w : World) (hg : Er.Handle w) : Calls Tryd.prog 21 #[nu 17] w fun e w' => e = .returned (.bool true) ∧ Below w.heap.size w w' := by
  have hm : mayE ⟨0, ⟨31, 1048576, 31, 1048575, 2, [97, 98, 99, 100, 101, 102, 103, 104, 105, 106, 107, 108, 109, 110, 111, 112, 113, 114, 115, 116, 117, 118, 119, 120, 121, 122, 48, 49, 50, 51, 52, 53], [97, 98, 99, 100, 101, 102, 103, 104, 105, 106, 107, 108, 109, 110, 111, 112, 113, 114, 115, 116, 117, 118, 119, 120, 121, 122, 48, 49, 50, 51, 52, 53], 18446744073709551615, 2, 1099511627476, 1099511627476, 6⟩, 0, 0⟩ = false := by decide +kernel
  have cE : Hid (∀ wx, Calls Tryd.prog 8 #[.agg #[nu 0, nu 31, nu 1048576, nu 31, nu 1048575, nu 2, .string ⟨#[97, 98, 99, 100, 101, 102, 103, 104, 105, 106, 107, 108, 109, 110, 111, 112, 113, 114, 115, 116, 117, 118, 119, 120, 121, 122, 48, 49, 50, 51, 52, 53]⟩, .string ⟨#[97, 98, 99, 100, 101, 102, 103, 104, 105, 106, 107, 108, 109, 110, 111, 112, 113, 114, 115, 116, 117, 118, 119, 120, 121, 122, 48, 49, 50, 51, 52, 53]⟩, .int .u64 18446744073709551615, nu 2, nu 1099511627476, nu 1099511627476, nu 6, nu 0, nu 0]] wx fun x w' => ∃ a cap, x = .returned (.tuple #[.slice a 0 cap, noE 1]) ∧ Below wx.heap.size wx w') := fun wx => enc_no R ⟨0, ⟨31, 1048576, 31, 1048575, 2, [97, 98, 99, 100, 101, 102, 103, 104, 105, 106, 107, 108, 109, 110, 111, 112, 113, 114, 115, 116, 117, 118, 119, 120, 121, 122, 48, 49, 50, 51, 52, 53], [97, 98, 99, 100, 101, 102, 103, 104, 105, 106, 107, 108, 109, 110, 111, 112, 113, 114, 115, 116, 117, 118, 119, 120, 121, 122, 48, 49, 50, 51, 52, 53], 18446744073709551615, 2, 1099511627476, 1099511627476, 6⟩, 0, 0⟩ hm ⟨by decide, by decide, by decide⟩ (by constructor <;> exact ⟨by decide, by decide⟩) wx
  have cP : Hid (∀ wx, Er.Handle wx → Calls Tryd.prog 9 #[noE 1, nu 1] wx fun e w' => e = .returned (.bool true) ∧ Below wx.heap.size wx w') := fun wx h => plainV 1 (by decide) wx h
  have cC := Hid.mk' (child_c w)
  rw [child_arr] at cC
  have HG := Hid.mk' hg
  clear hm hg
  go_enter Tryd.func21, Tryd.ntmps21
  go_wp2_with fail
  refine cC.out.mono ?_
  rintro e x1 ⟨rfl, hb1⟩
  have HB1 := Hid.mk' hb1
  clear hb1 cC
  go_wp2_with fail
  refine (cE.out _).mono ?_
  rintro e x2 ⟨a, cap, rfl, hb2⟩
  have HB2 : Hid (Below w.heap.size w x2) := (HB1.out.alloc HB1.out.size _).trans (hb2.mono (by have := HB1.out.size; simp; omega))
  have HG2 := Hid.mk' (HG.out.below HB2.out)
  clear hb2 HB1 cE
  go_wp2_with fail
  refine (cP.out _ HG2.out).mono ?_
  rintro e x3 ⟨rfl, hb3⟩
  have HB3 := Hid.mk' (HB2.out.trans (hb3.mono HB2.out.size))
  clear hb3
  go_wp2
  go_ret
  exact ⟨rfl, HB3.out⟩

set_option maxRecDepth 100000 in
set_option maxHeartbeats 4000000 in
theorem no_18 (R : Says) (w : World) (hg : Er.Handle w) : Calls Tryd.prog 21 #[nu 18] w fun e w' => e = .returned (.bool true) ∧ Below w.heap.size w w' := by
  have hm : mayE ⟨0, ⟨31, 1048576, 31, 1048575, 2, [97, 98, 99, 100, 101, 102, 103, 104, 105, 106, 107, 108, 109, 110, 111, 112, 113, 114, 115, 116, 117, 118, 119, 120, 121, 122, 48, 49, 50, 51, 52, 53], [97, 98, 99, 100, 101, 102, 103, 104, 105, 106, 107, 108, 109, 110, 111, 112, 113, 114, 115, 116, 117, 118, 119, 120, 121, 122, 48, 49, 50, 51, 52, 53], 18446744073709551615, 2, (-1), 1099511627776, 6⟩, 0, 0⟩ = false := by decide +kernel
  have cE : Hid (∀ wx, Calls Tryd.prog 8 #[.agg #[nu 0, nu 31, nu 1048576, nu 31, nu 1048575, nu 2, .string ⟨#[97, 98, 99, 100, 101, 102, 103, 104, 105, 106, 107, 108, 109, 110, 111, 112, 113, 114, 115, 116, 117, 118, 119, 120, 121, 122, 48, 49, 50, 51, 52, 53]⟩, .string ⟨#[97, 98, 99, 100, 101, 102, 103, 104, 105, 106, 107, 108, 109, 110, 111, 112, 113, 114, 115, 116, 117, 118, 119, 120, 121, 122, 48, 49, 50, 51, 52, 53]⟩, .int .u64 18446744073709551615, nu 2, nu (-1), nu 1099511627776, nu 6, nu 0, nu 0]] wx fun x w' => ∃ a cap, x = .returned (.tuple #[.slice a 0 cap, noE 1]) ∧ Below wx.heap.size wx w') := fun wx => enc_no R ⟨0, ⟨31, 1048576, 31, 1048575, 2, [97, 98, 99, 100, 101, 102, 103, 104, 105, 106, 107, 108, 109, 110, 111, 112, 113, 114, 115, 116, 117, 118, 119, 120, 121, 122, 48, 49, 50, 51, 52, 53], [97, 98, 99, 100, 101, 102, 103, 104, 105, 106, 107, 108, 109, 110, 111, 112, 113, 114, 115, 116, 117, 118, 119, 120, 121, 122, 48, 49, 50, 51, 52, 53], 18446744073709551615, 2, (-1), 1099511627776, 6⟩, 0, 0⟩ hm ⟨by decide, by decide, by decide⟩ (by constructor <;> exact ⟨by decide, by decide⟩) wx
  have cP : Hid (∀ wx, Er.Handle wx → Calls Tryd.prog 9 #[noE 1, nu 1] wx fun e w' => e = .returned (.bool true) ∧ Below wx.heap.size wx w') := fun wx h => plainV 1 (by decide) wx h
  have cC := Hid.mk' (child_c w)
  rw [child_arr] at cC
  have HG := Hid.mk' hg
  clear hm hg
  go_enter Tryd.func21, Tryd.ntmps21
  go_wp2_with fail
  refine cC.out.mono ?_
  rintro e x1 ⟨rfl, hb1⟩
  have HB1 := Hid.mk' hb1
  clear hb1 cC
  go_wp2_with fail
  refine (cE.out _).mono ?_
  rintro e x2 ⟨a, cap, rfl, hb2⟩
  have HB2 : Hid (Below w.heap.size w x2) := (HB1.out.alloc HB1.out.size _).trans (hb2.mono (by have := HB1.out.size; simp; omega))
  have HG2 := Hid.mk' (HG.out.below HB2.out)
  clear hb2 HB1 cE
  go_wp2_with fail
  refine (cP.out _ HG2.out).mono ?_
  rintro e x3 ⟨rfl, hb3⟩
  have HB3 := Hid.mk' (HB2.out.trans (hb3.mono HB2.out.size))
  clear hb3
  go_wp2
  go_ret
  exact ⟨rfl, HB3.out⟩

theorem no_any (R : Says) (k : Nat) (hk : k < 19) (w : World) (hg : Er.Handle w) : Calls Tryd.prog 21 #[nu (k : Int)] w fun e w' => e = .returned (.bool true) ∧ Below w.heap.size w w' := by
  have hc : k = 0 ∨ k = 1 ∨ k = 2 ∨ k = 3 ∨ k = 4 ∨ k = 5 ∨ k = 6 ∨ k = 7 ∨ k = 8 ∨ k = 9 ∨ k = 10 ∨ k = 11 ∨ k = 12 ∨ k = 13 ∨ k = 14 ∨ k = 15 ∨ k = 16 ∨ k = 17 ∨ k = 18 := by omega
  rcases hc with rfl | rfl | rfl | rfl | rfl | rfl | rfl | rfl | rfl | rfl | rfl | rfl | rfl | rfl | rfl | rfl | rfl | rfl | rfl
  · exact no_0 R w hg
  · exact no_1 R w hg
  · exact no_2 R w hg
  · exact no_3 R w hg
  · exact no_4 R w hg
  · exact no_5 R w hg
  · exact no_6 R w hg
  · exact no_7 R w hg
  · exact no_8 R w hg
  · exact no_9 R w hg
  · exact no_10 R w hg
  · exact no_11 R w hg
  · exact no_12 R w hg
  · exact no_13 R w hg
  · exact no_14 R w hg
  · exact no_15 R w hg
  · exact no_16 R w hg
  · exact no_17 R w hg
  · exact no_18 R w hg
end Ev
end Go.Proofs.YtnllplholfhbdaaDoor
