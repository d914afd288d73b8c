/- TokenPrints and TokenParses, out of what the program's two calls answer. -/
import Derived.Test.YtkkpcngdpnoidaaDoorLaws8
import Derived.Test.YtkkpcngdpnoidaaDoorPlace
namespace Go.Proofs.YtkkpcngdpnoidaaDoor
set_option linter.ambiguousOpen false
open Go.RowKit
namespace Tk
open Sm
set_option linter.unusedSimpArgs false
set_option linter.unusedVariables false

set_option maxHeartbeats 1000000 in
theorem tokenPrints_says (H : Says) (s b : Int) (t : Nat) (w : World) (hs : -9223372036854775808 ≤ s ∧ s ≤ 9223372036854775807) (hb : -9223372036854775808 ≤ b ∧ b ≤ 9223372036854775807) (ht : t < 18446744073709551616) (hE : Er.Handle w) :
    Calls Tryd.prog 3 #[tok s b t] w fun e w' => e = .returned (.bool true) ∧ Below w.heap.size w w' := by
  have HE := Hid.mk' hE
  have HH := Hid.mk' H
  clear hE H
  have hB0 := below_new w (.cells #[nu s, nu b, u8v t] 24)
  have hT0 := Hid.mk' (tokAt_new w s b t)
  cases hm : mayB s b with
  | true =>
    obtain ⟨x, y, rfl, rfl, h1, h2, h3⟩ := nat_of s b hm
    have c1 := HH.out.yes x y t (w.alloc (.cells #[nu x, nu y, u8v t] 24)) h1 h2 h3 ht
    have c2 : Hid (∀ wx, Calls Tryd.prog 7 #[tok x y t] wx fun e w' => e = .returned (.tuple #[.string (tx (form x y t)), nu 0]) ∧ Below wx.heap.size wx w') := fun wx => refPrint_yes x y t wx h1 h2 h3 ht
    have cP : Hid (∀ wx, Calls Tryd.prog 8 #[.nilIface, .int .i64 0] wx fun e w' => e = .returned (.bool true) ∧ Below wx.heap.size wx w') := fun wx => Er.plain_nil 0 wx
    unfold tok at *
    generalize tx (form x y t) = f at *
    go_enter Tryd.func3, Tryd.ntmps3
    go_wp2_with fail
    refine c1.mono ?_
    rintro e w1 ⟨rfl, hb1⟩
    obtain ⟨q0, q1, q2⟩ := tok_cells (hT0.out.below hb1 (by simp))
    have hB1 := Hid.mk' (below_to' hB0 hb1)
    clear hb1 c1 hB0
    go_wp2_with fail
    refine (c2.out _).mono ?_
    rintro e w2 ⟨rfl, hb2⟩
    have hB2 := Hid.mk' (below_to' hB1.out hb2)
    clear q0 q1 q2 hb2
    go_wp2_with fail
    refine (cP.out _).mono ?_
    rintro e w3 ⟨rfl, hb3⟩
    go_wp2
    go_ret
    exact ⟨rfl, below_to' hB2.out hb3⟩
  | false =>
    have c1 := HH.out.no s b t (w.alloc (.cells #[nu s, nu b, u8v t] 24)) hs hb ht hm
    have c2 : Hid (∀ wx, Calls Tryd.prog 7 #[tok s b t] wx fun e w' => e = .returned (.tuple #[.string ⟨#[]⟩, nu 1]) ∧ Below wx.heap.size wx w') := fun wx => refPrint_no s b t wx hm
    have cP : Hid (∀ wx, Er.Handle wx → Calls Tryd.prog 8 #[noE 1, .int .i64 1] wx fun e w' => e = .returned (.bool true) ∧ Below wx.heap.size wx w') := fun wx h => Er.plain_no 1 1 (by omega) (by omega) wx h
    unfold tok noE at *
    go_enter Tryd.func3, Tryd.ntmps3
    go_wp2_with fail
    refine c1.mono ?_
    rintro e w1 ⟨rfl, hb1⟩
    obtain ⟨q0, q1, q2⟩ := tok_cells (hT0.out.below hb1 (by simp))
    have hB1 := Hid.mk' (below_to' hB0 hb1)
    clear hb1 c1 hB0
    go_wp2_with fail
    refine (c2.out _).mono ?_
    rintro e w2 ⟨rfl, hb2⟩
    have hB2 := Hid.mk' (below_to' hB1.out hb2)
    clear q0 q1 q2 hb2
    go_wp2_with fail
    refine (cP.out _ (HE.out.below hB2.out)).mono ?_
    rintro e w3 ⟨rfl, hb3⟩
    go_wp2
    go_ret
    exact ⟨rfl, below_to' hB2.out hb3⟩

set_option maxHeartbeats 1000000 in
theorem tokenParses_says (H : Says) (l : List UInt8) (w : World) (hl : l.length ≤ maxLen) (hE : Er.Handle w) :
    Calls Tryd.prog 4 #[.string (tx l)] w fun e w' => e = .returned (.bool true) ∧ Below w.heap.size w w' := by
  have HE := Hid.mk' hE
  have c1 := H.read l w hl
  have c2 : Hid (∀ wx, Calls Tryd.prog 10 #[.string (tx l)] wx fun e w' => e = .returned (.tuple #[tok (prs l).s (prs l).b (prs l).t, nu (prs l).no]) ∧ Below wx.heap.size wx w') := fun wx => refParse_any l wx hl
  have hsz : (tx l).size = l.length := rfl
  have he := fun w => tok_eql (prs l).s (prs l).b (prs l).t (prs l).s (prs l).b (prs l).t w
  rw [decide_eq_true ⟨rfl, rfl, rfl⟩] at he
  have cP : Hid (∀ wx, Er.Handle wx → Calls Tryd.prog 8 #[errE (prs l).no, .int .i64 (prs l).no] wx fun e w' => e = .returned (.bool true) ∧ Below wx.heap.size wx w') := fun wx h => by
    have h4 := (prs_no l).1
    cases hn : (prs l).no with
    | zero => exact Er.plain_nil 0 wx
    | succ n =>
      have := Er.plain_no (n + 1) ((n + 1 : Nat) : Int) (by omega) (by omega) wx h
      rw [decide_eq_true rfl] at this
      exact this
  clear H hE hl
  generalize errE (prs l).no = ev at *
  generalize ((prs l).no : Int) = en at *
  generalize ((prs l).s : Int) = x at *
  generalize ((prs l).b : Int) = y at *
  generalize ((prs l).t : Int) = t at *
  unfold tok at *
  generalize tx l = b at *
  go_enter Tryd.func4, Tryd.ntmps4
  go_wp2_with fail
  refine c1.mono ?_
  rintro e w1 ⟨rfl, hb1⟩
  have hT1 := Hid.mk' (tokAt_new w1 x y t)
  have hN1 := below_new w1 (.cells #[nu x, nu y, u8v t] 24)
  have hB1 := Hid.mk' (below_to' hb1 hN1)
  have hw1 : w1.heap.size < (w1.alloc (.cells #[nu x, nu y, u8v t] 24)).heap.size := by simp
  clear hb1 c1 hN1
  go_wp2_with fail
  refine (c2.out _).mono ?_
  rintro e w2 ⟨rfl, hb2⟩
  have hT2 := Hid.mk' (hT1.out.below hb2 hw1)
  have hB2 := Hid.mk' (below_to' hB1.out hb2)
  have hw2 : w1.heap.size < w2.heap.size := Nat.lt_of_lt_of_le hw1 hb2.size
  obtain ⟨q0, q1, q2⟩ := tok_cells hT2.out
  have hB3 := Hid.mk' (below_to' hB2.out (below_new w2 (.cells #[nu x, nu y, u8v t] 24)))
  clear hb2 c2 hw1
  go_wp2_with fail
  refine (cP.out _ (HE.out.below hB3.out)).mono ?_
  rintro e w3 ⟨rfl, hb3⟩
  go_wp2
  go_ret
  exact ⟨rfl, below_to' hB3.out hb3⟩
end Tk
end Go.Proofs.YtkkpcngdpnoidaaDoor
