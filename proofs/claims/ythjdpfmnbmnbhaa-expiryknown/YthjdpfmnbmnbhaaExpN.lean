/- The laws' own 'works'. -/
import Derived.Test.YthjdpfmnbmnbhaaExpM
namespace Go.Proofs.Ythjdpfmnbmnbhaa
set_option linter.ambiguousOpen false
open Go.RowKit
namespace Ex
open Hh Ft
set_option linter.unusedSimpArgs false
set_option linter.unusedVariables false
attribute [local go_sem] Oper.semAt_some

set_option maxRecDepth 1000000 in
set_option maxHeartbeats 4000000 in
theorem works_any {R : RepXT} (C : ExpiryC R) (w : World) : Calls Try.prog 5 #[] w fun e w' => e = .returned (.bool true) ∧ Below w.heap.size w w' := by
  have hnn := iter_ne_nil
  have c1 := Hid.mk' (Xe.new C w)
  go_enter Try.func5, Try.ntmps5
  go_wp2_with fail
  refine c1.out.mono ?_
  rintro e w1 ⟨p, F, rfl, HX⟩
  have c2 : Hid (Calls Try.prog 8 #[ptr p, .agg #[nu 3, nu 1], nu 9] w1 fun e w' => e = .returned .nilIface ∧ Hid (∃ G, Xe R w w' p G [⟨3, 1, 9⟩])) := by
    refine (C.setYes w1 p F [] 3 1 9 HX.out.1.rep (by unfold okE; dsimp only; omega)).mono ?_
    rintro e w' ⟨rfl, hl⟩
    obtain ⟨G, hG, _⟩ := HX.out.1.left hl
    exact ⟨rfl, G, hG⟩
  clear c1 HX
  go_wp2_with fail
  refine c2.out.mono ?_
  rintro e w2 ⟨rfl, HX2⟩
  have c3 : Hid (Calls Try.prog 10 #[ptr p] w2 fun e w' => e = .returned (.tuple #[nu 9, .bool true]) ∧ Hid (∃ G, Xe R w w' p G [⟨3, 1, 9⟩])) := by
    obtain ⟨G, hG⟩ := HX2.out
    refine (C.next w2 p G _ hG.rep).mono ?_
    rintro e w' ⟨rfl, hb⟩
    exact ⟨rfl, G, hG.below C hb⟩
  clear c2 HX2
  go_wp2_with fail
  refine c3.out.mono ?_
  rintro e w3 ⟨rfl, HX3⟩
  have c4 : Hid (Calls Try.prog 9 #[ptr p, nu 0] w3 fun e w' => ∃ gf lb, e = .returned (.func (.func gf) #[] lb) ∧ Hid (Below w.heap.size w w')) := by
    obtain ⟨G, hG⟩ := HX3.out
    refine (hG.due C 0).mono ?_
    rintro e w' ⟨gf, lb, rfl, h⟩
    exact ⟨gf, lb, rfl, h.out.1.bel⟩
  clear c3 HX3
  go_wp2_with fail
  refine c4.out.mono ?_
  rintro e w4 ⟨gf, lb, rfl, HB⟩
  have h1 := iter_ne_nil gf lb w4
  go_wp2
  go_ret
  exact ⟨rfl, HB.out⟩
end Ex
end Go.Proofs.Ythjdpfmnbmnbhaa
