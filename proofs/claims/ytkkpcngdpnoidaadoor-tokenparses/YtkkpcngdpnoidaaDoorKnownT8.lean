/- TokenKnown, out of what the program's two calls answer. -/
import Derived.Test.YtkkpcngdpnoidaaDoorLawsD8
namespace Go.Proofs.YtkkpcngdpnoidaaDoor
set_option linter.ambiguousOpen false
open Go.RowKit
namespace Tk
open Sm
set_option linter.unusedSimpArgs false
set_option linter.unusedVariables false

theorem form1 : form 31 1048576 18446744073709551615 = [116, 100, 52, 105, 97, 97, 97, 104, 55, 55, 55, 55, 55, 55, 55, 55, 55, 55, 55, 55, 113] := by decide +kernel

theorem form2 : form 3 77 81985529216486895 = [116, 97, 109, 97, 97, 97, 116, 105, 98, 101, 110, 99, 119, 112, 99, 110, 108, 122, 120, 120, 113] := by decide +kernel

theorem prs1 : prs [116, 97, 97, 97, 97, 97, 97, 97, 97, 97, 97, 97, 97, 97, 97, 97, 97, 97, 97, 97, 97] = ⟨1, 0, 0, 0⟩ := by rfl

theorem prs2 : prs [116, 101, 97, 97, 97, 97, 97, 105, 97, 97, 97, 97, 97, 97, 97, 97, 97, 97, 97, 97, 97] = ⟨1, 0, 0, 0⟩ := by rfl

theorem prs3 : prs [116, 97, 97, 97, 97, 97, 97, 105, 97, 97, 97, 97, 97, 97, 97, 97, 97, 97, 97, 97, 97, 98] = ⟨3, 0, 0, 0⟩ := by rfl

set_option maxRecDepth 100000 in
set_option maxHeartbeats 2000000 in
theorem knownSaid_says (H : Says) (w : World) (hE : Er.Handle w) : Calls Tryd.prog 11 #[] w fun e w' => e = .returned (.bool true) ∧ Below w.heap.size w w' := by
  have HE := Hid.mk' hE
  have HH := Hid.mk' H
  have c1 := H.yes 31 1048576 18446744073709551615 w (by decide) (by decide) (by decide) (by decide)
  have c2 : Hid (∀ wx, _) := fun wx => H.yes 3 77 81985529216486895 wx (by decide) (by decide) (by decide) (by decide)
  have c3 : Hid (∀ wx, _) := fun wx => H.read [116, 97, 97, 97, 97, 97, 97, 97, 97, 97, 97, 97, 97, 97, 97, 97, 97, 97, 97, 97, 97] wx (by decide)
  have c4 : Hid (∀ wx, _) := fun wx => H.read [116, 101, 97, 97, 97, 97, 97, 105, 97, 97, 97, 97, 97, 97, 97, 97, 97, 97, 97, 97, 97] wx (by decide)
  have c5 : Hid (∀ wx, _) := fun wx => H.read [116, 97, 97, 97, 97, 97, 97, 105, 97, 97, 97, 97, 97, 97, 97, 97, 97, 97, 97, 97, 97, 98] wx (by decide)
  rw [prs1] at c3
  rw [prs2] at c4
  rw [prs3] at c5
  rw [form1] at c1
  rw [form2] at c2
  simp only [Int.cast_ofNat_Int, errE] at c1 c2 c3 c4 c5
  have cP : Hid (∀ wx, Er.Handle wx → Calls Tryd.prog 8 #[noE 1, .int .i64 1] wx fun e w' => e = .returned (.bool true) ∧ Below wx.heap.size wx w') := fun wx h => Er.plain_no 1 1 (by omega) (by omega) wx h
  have cQ : Hid (∀ wx, Er.Handle wx → Calls Tryd.prog 8 #[noE 3, .int .i64 3] wx fun e w' => e = .returned (.bool true) ∧ Below wx.heap.size wx w') := fun wx h => Er.plain_no 3 3 (by omega) (by omega) wx h
  clear H hE
  unfold tok noE at *
  go_enter Tryd.func11, Tryd.ntmps11
  go_wp2_with fail
  refine c1.mono ?_
  rintro e w1 ⟨rfl, hB1⟩
  go_wp2_with fail
  refine (c2.out _).mono ?_
  rintro e w2 ⟨rfl, hb2⟩
  have hB2 := below_to' hB1 hb2
  go_wp2_with fail
  refine (c3.out _).mono ?_
  rintro e w3 ⟨rfl, hb3⟩
  have hB3 := below_to' (below_to' hB2 hb3) (below_new w3 (.cells #[nu 0, nu 0, u8v 0] 24))
  go_wp2_with fail
  refine (c4.out _).mono ?_
  rintro e w4 ⟨rfl, hb4⟩
  have hB4 := below_to' (below_to' hB3 hb4) (below_new w4 (.cells #[nu 0, nu 0, u8v 0] 24))
  go_wp2_with fail
  refine (c5.out _).mono ?_
  rintro e w5 ⟨rfl, hb5⟩
  have hB5 := below_to' (below_to' hB4 hb5) (below_new w5 (.cells #[nu 0, nu 0, u8v 0] 24))
  have c6 := works_says HH.out (w5.alloc (.cells #[nu 0, nu 0, u8v 0] 24))
  go_wp2_with fail
  refine c6.mono ?_
  rintro e w6 ⟨rfl, hb6⟩
  have hB6 := Hid.mk' (below_to' hB5 hb6)
  clear hB1 hb2 hB2 hb3 hB3 hb4 hB4 hb5 hB5 hb6 c6
  go_wp2_with fail
  refine (cP.out _ (HE.out.below hB6.out)).mono ?_
  rintro e w7 ⟨rfl, hb7⟩
  have hB7 := Hid.mk' (below_to' hB6.out hb7)
  go_wp2_with fail
  refine (cP.out _ (HE.out.below hB7.out)).mono ?_
  rintro e w8 ⟨rfl, hb8⟩
  have hB8 := Hid.mk' (below_to' hB7.out hb8)
  go_wp2_with fail
  refine (cQ.out _ (HE.out.below hB8.out)).mono ?_
  rintro e w9 ⟨rfl, hb9⟩
  go_wp2
  go_ret
  exact ⟨rfl, below_to' hB8.out hb9⟩
end Tk
end Go.Proofs.YtkkpcngdpnoidaaDoor
