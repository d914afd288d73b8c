/- The program's rings: Splice. -/
import Derived.Test.YtckgecmcjnhceaaDoorRngI
namespace Go.Proofs.YtckgecmcjnhceaaDoor
set_option linter.ambiguousOpen false
open Go.RowKit
namespace Rg
open An Ft Lv
set_option linter.unusedSimpArgs false
set_option linter.unusedVariables false

set_option maxRecDepth 100000 in
theorem idx0 (a b : Int) (w : World) : (Instr.index 89 (.agg #[nu a, nu b]) (nun 0)).run Tryd.prog w = .ok (nu a) w := by kernel_rfl

set_option maxRecDepth 100000 in
theorem idx1 (a b : Int) (w : World) : (Instr.index 89 (.agg #[nu a, nu b]) (nun 1)).run Tryd.prog w = .ok (nu b) w := by kernel_rfl

section
variable {Rep : World → Nat → (Nat → Prop) → Arn → Prop}

set_option maxRecDepth 100000 in
set_option maxHeartbeats 2000000 in
theorem splice_p (H : KeepC Rep) (CG : GetC Rep) (CU : PutC Rep) : SpliceC Rep := fun w p F A one two h hg hwr hla hi => by
  have c1 := Hid.mk' (isRing_p p one w)
  have c2 := Hid.mk' (isRing_p p two w)
  have HL0 : Hid (∀ w', Below w.heap.size w w' → An.Left Rep w w' p F ⟨A.sl, A.fr, A.wr + 0⟩) := fun w' hb => left_self H h hb
  obtain ⟨R, hR⟩ : ∃ R, splice A.sl one two = R := ⟨_, rfl⟩
  rw [hR]
  unfold splice at hR
  by_cases hr1 : ringI one
  · rw [decide_eq_true hr1] at c1
    by_cases hr2 : ringI two
    · rw [decide_eq_true hr2] at c2
      rw [if_neg (by rintro (q | q); exact q.2 (hr1.resolve_left q.1); exact q.2 (hr2.resolve_left q.1))] at hR
      by_cases h1 : one = -1
      · rw [if_pos h1] at hR
        subst h1
        subst hR
        dsimp only
        clear hr1 hr2
        clear h hg hwr hla hi
        go_enter Tryd.func29, Tryd.ntmps29
        go_wp2_with (first | (go_at_call 55; (first | with_reducible refine c1.out.mono ?_ | with_reducible refine c2.out.mono ?_ | fail); rintro e w1 ⟨rfl, hw1⟩; subst w1) | fail)
        go_ret2
        exact ⟨rfl, 0, by omega, fun _ => rfl, HL0.out _ (Below.refl _ _)⟩
      · rw [if_neg h1] at hR
        have ht1 : there one := hr1.resolve_left h1
        have b1 : (one == -1) = false := by simpa using h1
        by_cases h2 : two = -1
        · rw [if_pos h2] at hR
          have b2 : (two == -1) = true := by simpa using h2
          subst hR
          dsimp only
          clear hr1 hr2 h1 h2 ht1
          clear h hg hwr hla hi
          go_enter Tryd.func29, Tryd.ntmps29
          go_wp2_with (first | (go_at_call 55; (first | with_reducible refine c1.out.mono ?_ | with_reducible refine c2.out.mono ?_ | fail); rintro e w1 ⟨rfl, hw1⟩; subst w1) | fail)
          go_ret2
          exact ⟨rfl, 0, by omega, fun _ => rfl, HL0.out _ (Below.refl _ _)⟩
        · rw [if_neg h2] at hR
          have ht2 : there two := hr2.resolve_left h2
          have b2 : (two == -1) = false := by simpa using h2
          by_cases h3 : one = two
          · rw [if_pos h3] at hR
            have b3 : (one == two) = true := by simpa using h3
            subst hR
            dsimp only
            clear hr1 hr2 h1 h2 ht1 ht2 h3
            clear h hg hwr hla hi
            go_enter Tryd.func29, Tryd.ntmps29
            go_wp2_with (first | (go_at_call 55; (first | with_reducible refine c1.out.mono ?_ | with_reducible refine c2.out.mono ?_ | fail); rintro e w1 ⟨rfl, hw1⟩; subst w1) | fail)
            go_ret2
            exact ⟨rfl, 0, by omega, fun _ => rfl, HL0.out _ (Below.refl _ _)⟩
          · rw [if_neg h3] at hR
            have b3 : (one == two) = false := by simpa using h3
            have cc1 : Hid (∀ wx, Below w.heap.size w wx → Calls Tryd.prog 50 #[ptr p, nu one] wx fun e w' => e = .returned (chk A.sl one) ∧ Below w.heap.size w w') := fun wx hb => by
              refine (check_p H CG wx p F A one (H.below h hb) hg ht1).mono ?_
              rintro e w' ⟨rfl, hb'⟩
              exact ⟨rfl, hb.trans (hb'.mono hb.size)⟩
            have cc2 : Hid (∀ wx, Below w.heap.size w wx → Calls Tryd.prog 50 #[ptr p, nu two] wx fun e w' => e = .returned (chk A.sl two) ∧ Below w.heap.size w w') := fun wx hb => by
              refine (check_p H CG wx p F A two (H.below h hb) hg ht2).mono ?_
              rintro e w' ⟨rfl, hb'⟩
              exact ⟨rfl, hb.trans (hb'.mono hb.size)⟩
            have c4 : Hid (∀ wx, Below w.heap.size w wx → Calls Tryd.prog 44 #[ptr p, nu one] wx fun e w' => e = .returned (lkv (pv A.sl one) (nx A.sl one)) ∧ Below w.heap.size w w') := fun wx hb => by
              have := linksOf_p H CG wx p F A one (H.below h hb) hg
              rw [pvN_in ht1, nxN_in ht1] at this
              refine this.mono ?_
              rintro e w' ⟨rfl, hb'⟩
              exact ⟨rfl, hb.trans (hb'.mono hb.size)⟩
            have c5 : Hid (∀ wx, Below w.heap.size w wx → Calls Tryd.prog 44 #[ptr p, nu two] wx fun e w' => e = .returned (lkv (pv A.sl two) (nx A.sl two)) ∧ Below w.heap.size w w') := fun wx hb => by
              have := linksOf_p H CG wx p F A two (H.below h hb) hg
              rw [pvN_in ht2, nxN_in ht2] at this
              refine this.mono ?_
              rintro e w' ⟨rfl, hb'⟩
              exact ⟨rfl, hb.trans (hb'.mono hb.size)⟩
            have c6 : Hid (well A.sl one → well A.sl two → ∀ wx, Below w.heap.size w wx → Calls Tryd.prog 51 #[ptr p, nu one, nu (nx A.sl two)] wx fun e w' => (∃ u, e = .returned u) ∧ An.Left Rep w w' p F ⟨link A.sl one (nx A.sl two), A.fr, A.wr + 2⟩) := fun k1 k2 wx hb => by
              refine (join_p H CG CU wx p F A one (nx A.sl two) (H.below h hb) hg (by omega) ht1 k2.2.2.1).mono ?_
              rintro e w' ⟨q1, q2⟩
              exact ⟨q1, left_below hb q2⟩
            have c7 : Hid (well A.sl one → well A.sl two → ∀ wx, An.Left Rep w wx p F ⟨link A.sl one (nx A.sl two), A.fr, A.wr + 2⟩ → Calls Tryd.prog 51 #[ptr p, nu two, nu (nx A.sl one)] wx fun e w' => (∃ u, e = .returned u) ∧ An.Left Rep w w' p F ⟨link (link A.sl one (nx A.sl two)) two (nx A.sl one), A.fr, A.wr + 4⟩) := fun k1 k2 wx hl => by
              obtain ⟨G, q1, q2, q3⟩ := hl
              refine (join_p H CG CU wx p G _ two (nx A.sl one) q1 (good_sl hg (link_len _ _ _)) (by show A.wr + 2 ≤ _; omega) ht2 k1.2.2.1).mono ?_
              rintro e w' ⟨q4, q5⟩
              exact ⟨q4, left_more q2 q3 q5⟩
            have hx0 := idx0 one two
            have hx1 := idx1 one two
            have z1 := ht1.1
            have z2 := ht2.1
            have HR := Hid.mk' hR
            have HN1 : Hid (¬ well A.sl one → chk A.sl one = .iface 91 (.agg #[.int .i64 24, .int .i64 one])) := fun q => chk_no q ht1
            have HN2 : Hid (¬ well A.sl two → chk A.sl two = .iface 91 (.agg #[.int .i64 24, .int .i64 two])) := fun q => chk_no q ht2
            clear hr1 hr2 h1 h2 h3 h hg hwr hla hi hR ht1 ht2
            go_enter Tryd.func29, Tryd.ntmps29
            go_wp2_with (first | (go_at_call 55; (first | with_reducible refine c1.out.mono ?_ | with_reducible refine c2.out.mono ?_ | fail); rintro e w1 ⟨rfl, hw1⟩; subst w1) | fail)
            go_loopw [9, 10, 37, 38, 39, 40, 41, 42, 43, 44, 45, 46] (fun _ _ iv _ _ _ _ _ _ _ _ _ wr => ∃ k : Nat, k ≤ 2 ∧ iv = nun k ∧ Hid (Below w.heap.size w wr) ∧ Hid (1 ≤ k → well A.sl one) ∧ Hid (2 ≤ k → well A.sl two)) (fun _ _ iv _ _ _ _ _ _ _ _ _ _ => 2 - (intOf iv).toNat)
            case atStart => exact ⟨0, by omega, rfl, Below.refl _ _, fun q => by omega, fun q => by omega⟩
            case round =>
              obtain ⟨k, hk, rfl, HB, HW1, HW2⟩ := hrel
              rcases k with _ | (_ | (_ | k))
              · have d1 := Hid.mk' (cc1.out wr HB.out)
                by_cases hw : well A.sl one
                · rw [chk_yes hw] at d1
                  have HW := Hid.mk' hw
                  clear hw
                  go_wp2_with fail
                  refine d1.out.mono ?_
                  rintro e w2 ⟨rfl, hb2⟩
                  have HB2 := Hid.mk' hb2
                  clear hb2
                  go_wp2
                  go_roundw
                  case rel => exact ⟨1, by omega, by go_num, HB2, fun _ => HW.out, fun q => by omega⟩
                  case measure => simp [intOf]
                · rw [HN1.out hw] at d1
                  have hr : Hid (R = ⟨0, 24, one, A.sl⟩) := by
                    have := HR.out
                    rw [if_pos hw] at this
                    exact this.symm
                  clear hw
                  go_wp2_with fail
                  refine d1.out.mono ?_
                  rintro e w2 ⟨rfl, hb2⟩
                  have HB2 := Hid.mk' hb2
                  clear hb2
                  go_wp2
                  go_ret2
                  rw [hr.out]
                  dsimp only
                  rw [errP_at 24 one z1]
                  exact ⟨rfl, 0, by omega, fun _ => rfl, HL0.out _ HB2.out⟩
              · have d1 := Hid.mk' (cc2.out wr HB.out)
                by_cases hw : well A.sl two
                · rw [chk_yes hw] at d1
                  have HW := Hid.mk' hw
                  clear hw
                  go_wp2_with fail
                  refine d1.out.mono ?_
                  rintro e w2 ⟨rfl, hb2⟩
                  have HB2 := Hid.mk' hb2
                  clear hb2
                  go_wp2
                  go_roundw
                  case rel => exact ⟨2, by omega, by go_num, HB2, fun _ => HW1.out (by omega), fun _ => HW.out⟩
                  case measure => simp [intOf]
                · rw [HN2.out hw] at d1
                  have hr : Hid (R = ⟨0, 24, two, A.sl⟩) := by
                    have := HR.out
                    rw [if_neg (fun q => q (HW1.out (by omega))), if_pos hw] at this
                    exact this.symm
                  clear hw
                  go_wp2_with fail
                  refine d1.out.mono ?_
                  rintro e w2 ⟨rfl, hb2⟩
                  have HB2 := Hid.mk' hb2
                  clear hb2
                  go_wp2
                  go_ret2
                  rw [hr.out]
                  dsimp only
                  rw [errP_at 24 two z2]
                  exact ⟨rfl, 0, by omega, fun _ => rfl, HL0.out _ HB2.out⟩
              · have k1 := HW1.out (by omega)
                have k2 := HW2.out (by omega)
                have hr : Hid (R = ⟨two, 0, -1, link (link A.sl one (nx A.sl two)) two (nx A.sl one)⟩) := by
                  have := HR.out
                  rw [if_neg (fun q => q k1), if_neg (fun q => q k2)] at this
                  exact this.symm
                have d6 := Hid.mk' (c6.out k1 k2)
                have d7 := Hid.mk' (c7.out k1 k2)
                clear k1 k2 c6 c7 HW1 HW2 HR HN1 HN2 cc1 cc2
                generalize link (link A.sl one (nx A.sl two)) two (nx A.sl one) = S4 at *
                generalize link A.sl one (nx A.sl two) = S2 at *
                generalize nx A.sl one = n1 at *
                generalize pv A.sl one = p1 at *
                generalize nx A.sl two = n2 at *
                generalize pv A.sl two = p2 at *
                have f1 := fld1 p1 n1
                have f2 := fld1 p2 n2
                go_wp2_with fail
                refine (c4.out _ HB.out).mono ?_
                rintro e w2 ⟨rfl, hb2⟩
                have HB2 := Hid.mk' hb2
                clear hb2
                go_wp2_with fail
                refine (c5.out _ HB2.out).mono ?_
                rintro e w3 ⟨rfl, hb3⟩
                have HB3 := Hid.mk' hb3
                clear hb3
                go_wp2_with fail
                refine (d6.out _ HB3.out).mono ?_
                rintro e w4 ⟨⟨u4, rfl⟩, hl4⟩
                have HL4 := Hid.mk' hl4
                clear hl4
                go_wp2_with fail
                refine (d7.out _ HL4.out).mono ?_
                rintro e w5 ⟨⟨u5, rfl⟩, hl5⟩
                have HL5 := Hid.mk' hl5
                clear hl5
                go_wp2
                go_ret2
                rw [hr.out]
                exact ⟨rfl, 4, by omega, fun q => absurd rfl q, HL5.out⟩
              · omega
    · rw [decide_eq_false hr2] at c2
      rw [if_pos (.inr ⟨fun q => hr2 (.inl q), fun q => hr2 (.inr q)⟩)] at hR
      subst hR
      dsimp only
      clear hr1 hr2
      clear h hg hwr hla hi
      go_enter Tryd.func29, Tryd.ntmps29
      go_wp2_with (first | (go_at_call 55; (first | with_reducible refine c1.out.mono ?_ | with_reducible refine c2.out.mono ?_ | fail); rintro e w1 ⟨rfl, hw1⟩; subst w1) | fail)
      go_ret2
      exact ⟨rfl, 0, by omega, fun _ => rfl, HL0.out _ (Below.refl _ _)⟩
  · rw [decide_eq_false hr1] at c1
    rw [if_pos (.inl ⟨fun q => hr1 (.inl q), fun q => hr1 (.inr q)⟩)] at hR
    subst hR
    dsimp only
    clear hr1
    clear h hg hwr hla hi
    go_enter Tryd.func29, Tryd.ntmps29
    go_wp2_with (first | (go_at_call 55; (first | with_reducible refine c1.out.mono ?_ | with_reducible refine c2.out.mono ?_ | fail); rintro e w1 ⟨rfl, hw1⟩; subst w1) | fail)
    go_ret2
    exact ⟨rfl, 0, by omega, fun _ => rfl, HL0.out _ (Below.refl _ _)⟩
end
end Rg
end Go.Proofs.YtckgecmcjnhceaaDoor
