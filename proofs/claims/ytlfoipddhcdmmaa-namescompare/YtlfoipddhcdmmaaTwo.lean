/- The walks of the laws NamesUnder and NamesCompare. -/
import Derived.Test.YtlfoipddhcdmmaaRefc
namespace Go.Proofs.Ytlfoipddhcdmmaa
open Go.RowKit
namespace Nm

set_option maxRecDepth 1000000 in
set_option maxHeartbeats 1000000 in
theorem namesUnder_walk (a b : List UInt8) (w : World) (ha : a.length ≤ maxLen) (hb : b.length ≤ maxLen) :
    Calls Try.prog 4 #[.string (B a), .string (B b)] w fun e w' => e = .returned (.bool true) ∧ Below w.heap.size w w' := by
  have HA : Hid (a.length ≤ maxLen) := ha
  have HB : Hid (b.length ≤ maxLen) := hb
  clear ha hb
  by_cases h1 : 16777216 < (B a).size
  · go_enter Try.func4, Try.ntmps4
    go_wp2
    go_ret
    exact ⟨rfl, Below.refl _ _⟩
  by_cases h2 : 16777216 < (B b).size
  · go_enter Try.func4, Try.ntmps4
    go_wp2
    go_ret
    exact ⟨rfl, Below.refl _ _⟩
  go_enter Try.func4, Try.ntmps4
  go_wp2_with fail
  refine (under_l _ _ _ HA.out HB.out).mono ?_
  rintro e w1 ⟨rfl, q1⟩
  go_wp2_with fail
  refine (runder_l _ _ _ HA.out HB.out).mono ?_
  rintro e w2 ⟨rfl, q2⟩
  generalize underB a b = r
  go_wp2
  go_ret
  exact ⟨ret_bool (by simp), below_then q1 q2⟩

set_option maxRecDepth 1000000 in
set_option maxHeartbeats 1000000 in
theorem namesCompare_walk (a b : List UInt8) (w : World) (ha : a.length ≤ maxLen) (hb : b.length ≤ maxLen) :
    Calls Try.prog 5 #[.string (B a), .string (B b)] w fun e w' => e = .returned (.bool true) ∧ Below w.heap.size w w' := by
  have HA : Hid (a.length ≤ maxLen) := ha
  have HB : Hid (b.length ≤ maxLen) := hb
  clear ha hb
  by_cases h1 : 16777216 < (B a).size
  · go_enter Try.func5, Try.ntmps5
    go_wp2
    go_ret
    exact ⟨rfl, Below.refl _ _⟩
  by_cases h2 : 16777216 < (B b).size
  · go_enter Try.func5, Try.ntmps5
    go_wp2
    go_ret
    exact ⟨rfl, Below.refl _ _⟩
  have HA2 : Hid (a.length ≤ 16777216) := Nat.le_of_not_lt h1
  have HB2 : Hid (b.length ≤ 16777216) := Nat.le_of_not_lt h2
  go_enter Try.func5, Try.ntmps5
  go_wp2_with fail
  refine (cmp_l _ _ _ HA.out HB.out).mono ?_
  rintro e w1 ⟨rfl, q1⟩
  go_wp2_with fail
  refine (rcmp_l _ _ _ HA2.out HB2.out).mono ?_
  rintro e w2 ⟨rfl, q2⟩
  generalize cmpT a b = r
  go_wp2
  go_ret
  exact ⟨ret_bool (by simp), below_then q1 q2⟩
end Nm
end Go.Proofs.Ytlfoipddhcdmmaa
