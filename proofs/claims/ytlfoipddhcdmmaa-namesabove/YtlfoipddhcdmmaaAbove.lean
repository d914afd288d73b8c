/- The walk of the law NamesAbove. -/
import Derived.Test.YtlfoipddhcdmmaaWorks
import Derived.Test.YtlfoipddhcdmmaaOrder
namespace Go.Proofs.Ytlfoipddhcdmmaa
open Go.RowKit
namespace Nm

set_option maxRecDepth 1000000 in
set_option maxHeartbeats 1000000 in
theorem namesAbove_walk (a b c : List UInt8) (w : World) (ha : a.length ≤ maxLen) (hb : b.length ≤ maxLen) (hc : c.length ≤ maxLen) :
    Calls Try.prog 7 #[.string (B a), .string (B b), .string (B c)] w fun e w' => e = .returned (.bool true) ∧ Below w.heap.size w w' := by
  have HA : Hid (a.length ≤ maxLen) := ha
  have HB : Hid (b.length ≤ maxLen) := hb
  have HC : Hid (c.length ≤ maxLen) := hc
  clear ha hb hc
  by_cases h1 : 65536 < (B a).size
  · go_enter Try.func7, Try.ntmps7
    go_wp2_with (go_at_call 21; refine (works_l _).mono ?_; rintro e w1 ⟨rfl, q1⟩)
    go_ret
    exact ⟨rfl, q1⟩
  by_cases h2 : 65536 < (B b).size
  · go_enter Try.func7, Try.ntmps7
    go_wp2_with (go_at_call 21; refine (works_l _).mono ?_; rintro e w1 ⟨rfl, q1⟩)
    go_ret
    exact ⟨rfl, q1⟩
  by_cases h3 : 65536 < (B c).size
  · go_enter Try.func7, Try.ntmps7
    go_wp2_with (go_at_call 21; refine (works_l _).mono ?_; rintro e w1 ⟨rfl, q1⟩)
    go_ret
    exact ⟨rfl, q1⟩
  have hself := under_self a
  have HSelf : Hid (underB a a = dottedB a) := hself
  clear hself
  cases hab : underB a b with
  | false =>
    go_enter Try.func7, Try.ntmps7
    go_wp2_with fail
    refine (works_l _).mono ?_
    rintro e w1 ⟨rfl, q1⟩
    go_wp2_with fail
    refine (under_l _ _ _ HA.out HB.out).mono ?_
    rintro e w2 ⟨rfl, q2⟩
    go_wp2_with fail
    refine (under_l _ _ _ HB.out HC.out).mono ?_
    rintro e w3 ⟨rfl, q3⟩
    generalize underB b c = bc
    go_wp2_with fail
    refine (dotted_l _ _ HA.out).mono ?_
    rintro e w4 ⟨rfl, q4⟩
    go_wp2_with fail
    refine (under_l _ _ _ HA.out HA.out).mono ?_
    rintro e w5 ⟨rfl, q5⟩
    rw [HSelf.out]
    generalize dottedB a = da
    go_wp2
    go_ret
    exact ⟨rfl, by repeat (first | assumption | refine below_then ?_ (by assumption))⟩
  | true =>
    have hcmp := under_cmp hab
    cases hbc : underB b c with
    | false =>
      cases hba : underB b a with
      | false =>
        go_enter Try.func7, Try.ntmps7
        go_wp2_with fail
        refine (works_l _).mono ?_
        rintro e w1 ⟨rfl, q1⟩
        go_wp2_with fail
        refine (under_l _ _ _ HA.out HB.out).mono ?_
        rintro e w2 ⟨rfl, q2⟩
        go_wp2_with fail
        refine (under_l _ _ _ HB.out HC.out).mono ?_
        rintro e w3 ⟨rfl, q3⟩
        go_wp2_with fail
        refine (under_l _ _ _ HB.out HA.out).mono ?_
        rintro e w8 ⟨rfl, q8⟩
        go_wp2_with fail
        refine (dotted_l _ _ HA.out).mono ?_
        rintro e w4 ⟨rfl, q4⟩
        go_wp2_with fail
        refine (under_l _ _ _ HA.out HA.out).mono ?_
        rintro e w5 ⟨rfl, q5⟩
        rw [HSelf.out]
        generalize dottedB a = da
        go_wp2_with fail
        refine (cmp_l _ _ _ HB.out HA.out).mono ?_
        rintro e w6 ⟨rfl, q6⟩
        generalize cmpT b a = r at *
        go_wp2
        go_ret
        exact ⟨rfl, by repeat (first | assumption | refine below_then ?_ (by assumption))⟩
      | true =>
        obtain rfl := under_anti hab hba
        have hda : dottedB a = true := by rw [← HSelf.out]; exact hab
        go_enter Try.func7, Try.ntmps7
        go_wp2_with fail
        refine (works_l _).mono ?_
        rintro e v0 ⟨rfl, q0⟩
        go_wp2_with fail
        refine (under_l _ _ _ HA.out HA.out).mono ?_
        rintro e v1 ⟨rfl, q1⟩
        go_wp2_with fail
        refine (under_l _ _ _ HA.out HC.out).mono ?_
        rintro e v2 ⟨rfl, q2⟩
        go_wp2_with fail
        refine (under_l _ _ _ HA.out HA.out).mono ?_
        rintro e v3 ⟨rfl, q3⟩
        go_wp2_with fail
        refine (dotted_l _ _ HA.out).mono ?_
        rintro e v4 ⟨rfl, q4⟩
        go_wp2_with fail
        refine (under_l _ _ _ HA.out HA.out).mono ?_
        rintro e v5 ⟨rfl, q5⟩
        go_wp2_with fail
        refine (cmp_l _ _ _ HA.out HA.out).mono ?_
        rintro e v6 ⟨rfl, q6⟩
        generalize cmpT a a = r at *
        go_wp2
        go_ret
        exact ⟨rfl, by repeat (first | assumption | refine below_then ?_ (by assumption))⟩
    | true =>
      have hac := under_trans hab hbc
      cases hba : underB b a with
      | false =>
        go_enter Try.func7, Try.ntmps7
        go_wp2_with fail
        refine (works_l _).mono ?_
        rintro e w1 ⟨rfl, q1⟩
        go_wp2_with fail
        refine (under_l _ _ _ HA.out HB.out).mono ?_
        rintro e w2 ⟨rfl, q2⟩
        go_wp2_with fail
        refine (under_l _ _ _ HB.out HC.out).mono ?_
        rintro e w3 ⟨rfl, q3⟩
        go_wp2_with fail
        refine (under_l _ _ _ HA.out HC.out).mono ?_
        rintro e w7 ⟨rfl, q7⟩
        go_wp2_with fail
        refine (under_l _ _ _ HB.out HA.out).mono ?_
        rintro e w8 ⟨rfl, q8⟩
        go_wp2_with fail
        refine (dotted_l _ _ HA.out).mono ?_
        rintro e w4 ⟨rfl, q4⟩
        go_wp2_with fail
        refine (under_l _ _ _ HA.out HA.out).mono ?_
        rintro e w5 ⟨rfl, q5⟩
        rw [HSelf.out]
        generalize dottedB a = da
        go_wp2_with fail
        refine (cmp_l _ _ _ HB.out HA.out).mono ?_
        rintro e w6 ⟨rfl, q6⟩
        generalize cmpT b a = r at *
        go_wp2
        go_ret
        exact ⟨rfl, by repeat (first | assumption | refine below_then ?_ (by assumption))⟩
      | true =>
        obtain rfl := under_anti hab hba
        have hda : dottedB a = true := by rw [← HSelf.out]; exact hab
        go_enter Try.func7, Try.ntmps7
        go_wp2_with fail
        refine (works_l _).mono ?_
        rintro e v0 ⟨rfl, q0⟩
        go_wp2_with fail
        refine (under_l _ _ _ HA.out HA.out).mono ?_
        rintro e v1 ⟨rfl, q1⟩
        go_wp2_with fail
        refine (under_l _ _ _ HA.out HC.out).mono ?_
        rintro e v2 ⟨rfl, q2⟩
        go_wp2_with fail
        refine (under_l _ _ _ HA.out HC.out).mono ?_
        rintro e v3 ⟨rfl, q3⟩
        go_wp2_with fail
        refine (under_l _ _ _ HA.out HA.out).mono ?_
        rintro e v4 ⟨rfl, q4⟩
        go_wp2_with fail
        refine (dotted_l _ _ HA.out).mono ?_
        rintro e v5 ⟨rfl, q5⟩
        go_wp2_with fail
        refine (under_l _ _ _ HA.out HA.out).mono ?_
        rintro e v6 ⟨rfl, q6⟩
        go_wp2_with fail
        refine (cmp_l _ _ _ HA.out HA.out).mono ?_
        rintro e v7 ⟨rfl, q7⟩
        generalize cmpT a a = r at *
        go_wp2
        go_ret
        exact ⟨rfl, by repeat (first | assumption | refine below_then ?_ (by assumption))⟩
end Nm
end Go.Proofs.Ytlfoipddhcdmmaa
