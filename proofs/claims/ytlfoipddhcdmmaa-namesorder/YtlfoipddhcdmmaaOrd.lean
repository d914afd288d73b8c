/- The walk of the law NamesOrder. -/
import Derived.Test.YtlfoipddhcdmmaaWorks
import Derived.Test.YtlfoipddhcdmmaaOrder
namespace Go.Proofs.Ytlfoipddhcdmmaa
open Go.RowKit
namespace Nm

set_option maxRecDepth 1000000 in
set_option maxHeartbeats 1000000 in
theorem namesOrder_walk (a b c : List UInt8) (w : World) (ha : a.length ≤ maxLen) (hb : b.length ≤ maxLen) (hc : c.length ≤ maxLen) :
    Calls Try.prog 8 #[.string (B a), .string (B b), .string (B c)] w fun e w' => e = .returned (.bool true) ∧ Below w.heap.size w w' := by
  have HA : Hid (a.length ≤ maxLen) := ha
  have HB : Hid (b.length ≤ maxLen) := hb
  have HC : Hid (c.length ≤ maxLen) := hc
  clear ha hb hc
  by_cases h1 : 65536 < (B a).size
  · go_enter Try.func8, Try.ntmps8
    go_wp2_with (go_at_call 21; refine (works_l _).mono ?_; rintro e w1 ⟨rfl, q1⟩)
    go_ret
    exact ⟨rfl, q1⟩
  by_cases h2 : 65536 < (B b).size
  · go_enter Try.func8, Try.ntmps8
    go_wp2_with (go_at_call 21; refine (works_l _).mono ?_; rintro e w1 ⟨rfl, q1⟩)
    go_ret
    exact ⟨rfl, q1⟩
  by_cases h3 : 65536 < (B c).size
  · go_enter Try.func8, Try.ntmps8
    go_wp2_with (go_at_call 21; refine (works_l _).mono ?_; rintro e w1 ⟨rfl, q1⟩)
    go_ret
    exact ⟨rfl, q1⟩
  have R1 := cmpT_ord.rng a b
  have R2 := cmpT_ord.rng b c
  have R3 := cmpT_ord.rng a c
  have T1 := cmpT_ord.trans a b c
  have T2 := cmpT_ord.trans c b a
  have A1 := cmpT_ord.anti a b
  have A2 := cmpT_ord.anti b c
  have A3 := cmpT_ord.anti a c
  have S := cmpT_ord.self a
  have Z := cmpT_ord.zero a b
  generalize hab : cmpT a b = ab at *
  generalize hbc : cmpT b c = bc at *
  generalize hac : cmpT a c = ac at *
  have HAB : Hid (cmpT a b = ab) := hab
  have HBC : Hid (cmpT b c = bc) := hbc
  have HAC : Hid (cmpT a c = ac) := hac
  have HBA : Hid (cmpT b a = -ab) := A1
  have HS : Hid (cmpT a a = 0) := S
  have HZ : Hid (ab = 0 ↔ a = b) := Z
  have HT1 : Hid (ab ≤ 0 → bc ≤ 0 → ac ≤ 0) := T1
  have HT2 : Hid (0 ≤ ab → 0 ≤ bc → 0 ≤ ac) := by
    show 0 ≤ ab → 0 ≤ bc → 0 ≤ ac
    omega
  have HE : Hid ((ab == 0) = ((B a).toList == (B b).toList)) := by
    show (ab == 0) = ((B a).toList == (B b).toList)
    rw [Bool.eq_iff_iff, beq_iff_eq, beq_iff_eq, Z, ByteArray.toList_eq, ByteArray.toList_eq]
    exact Iff.rfl
  clear hab hbc hac A1 A2 A3 S Z T1 T2
  have L1 : -1 ≤ ab ∧ ab ≤ 1 := by omega
  have L2 : -1 ≤ bc ∧ bc ≤ 1 := by omega
  have L3 : -1 ≤ ac ∧ ac ≤ 1 := by omega
  clear R1 R2 R3
  obtain ⟨l1, l1'⟩ := L1
  obtain ⟨l2, l2'⟩ := L2
  obtain ⟨l3, l3'⟩ := L3
  go_enter Try.func8, Try.ntmps8
  go_wp2_with fail
  refine (works_l _).mono ?_
  rintro e w1 ⟨rfl, q1⟩
  go_wp2_with fail
  refine (cmp_l _ _ _ HA.out HB.out).mono ?_
  rintro e w2 ⟨rfl, q2⟩
  rw [HAB.out]
  go_wp2_with fail
  refine (cmp_l _ _ _ HB.out HC.out).mono ?_
  rintro e w3 ⟨rfl, q3⟩
  rw [HBC.out]
  go_wp2_with fail
  refine (cmp_l _ _ _ HA.out HC.out).mono ?_
  rintro e w4 ⟨rfl, q4⟩
  rw [HAC.out]
  go_wp2_with fail
  refine (cmp_l _ _ _ HB.out HA.out).mono ?_
  rintro e w5 ⟨rfl, q5⟩
  rw [HBA.out]
  go_wp2_with fail
  refine (cmp_l _ _ _ HA.out HA.out).mono ?_
  rintro e w6 ⟨rfl, q6⟩
  rw [HS.out]
  have hq : Below w.heap.size w w6 := by repeat (first | assumption | refine below_then ?_ (by assumption))
  clear q1 q2 q3 q4 q5 q6
  go_wp2
  all_goals have t1 := HT1.out
  all_goals have t2 := HT2.out
  all_goals first | (exfalso; omega) | (go_ret; exact ⟨ret_bool rfl, hq⟩) | (go_ret; exact ⟨ret_bool (by simp; omega), hq⟩)
end Nm
end Go.Proofs.Ytlfoipddhcdmmaa
