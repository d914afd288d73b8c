/- The document's Within alone (out of bits/Ref). -/
import Derived.Test.YtbgggekkkcefcabDoorRefA
import Derived.Test.YtbgggekkkcefcabDoorBase2
namespace Go.Proofs.YtbgggekkkcefcabDoor
open Go.RowKit
namespace Bt

theorem ret_boolW {b c : Bool} (h : b = c) : Ending.returned (.bool b) = .returned (.bool c) := by rw [h]

set_option maxRecDepth 1000000 in
set_option maxHeartbeats 1000000 in
theorem rwithin_any (a b : Nat) (w : World) (ha : a < 18446744073709551616) (hb : b < 18446744073709551616) :
    Calls Tryd.prog 50 #[st a, st b] w fun e w' => e = .returned (.bool (less a b == 0)) ∧ w' = w := by
  have yes : Hid ((∀ j, j < 64 → a.testBit j = true → b.testBit j = true) → (less a b == 0) = true) := fun h => by
    rw [beq_iff_eq, less_zero ha hb]
    intro j hj
    by_cases h64 : j < 64
    · exact h j h64 hj
    · rw [bit_high ha (by omega)] at hj; cases hj
  have no : Hid (∀ j, a.testBit j = true → b.testBit j = false → (less a b == 0) = false) := fun j h1 h2 => by
    rw [beq_eq_false_iff_ne, ne_eq, less_zero ha hb]
    intro h
    rw [h j h1] at h2; cases h2
  go_enter Tryd.func50, Tryd.ntmps50
  go_wp2
  go_loopw [5] (fun i wr => ∃ k : Nat, k ≤ 64 ∧ i = nu k ∧ Hid (wr = w) ∧ Hid (∀ j, j < k → a.testBit j = true → b.testBit j = true)) (fun i _ => 64 - (intOf i).toNat)
  case atStart => exact ⟨0, by omega, rfl, rfl, fun j h => by omega⟩
  case round =>
    obtain ⟨k, hk, rfl, hwr, hok⟩ := hrel
    by_cases hp : k < 64
    · have c1 := rhas_any a k wr ha
      have c2 := rhas_any b k wr hb
      rw [has_nat a k hp] at c1
      rw [has_nat b k hp] at c2
      cases hx : a.testBit k with
      | false =>
        rw [hx] at c1
        have hn : Hid (∀ j, j < k + 1 → a.testBit j = true → b.testBit j = true) := fun j h1 h2 => by
          rcases Nat.lt_or_ge j k with h' | h'
          · exact hok.out j h' h2
          · have : j = k := by omega
            subst this; rw [hx] at h2; cases h2
        clear hok hx
        go_wp2_with fail
        refine c1.mono ?_
        rintro e w1 ⟨rfl, rfl⟩
        go_wp2
        go_roundw
        case rel => exact ⟨k + 1, by omega, by go_num, hwr, hn⟩
        case measure => simp [intOf]; omega
      | true =>
        rw [hx] at c1
        cases hy : b.testBit k with
        | true =>
          rw [hy] at c2
          have hn : Hid (∀ j, j < k + 1 → a.testBit j = true → b.testBit j = true) := fun j h1 h2 => by
            rcases Nat.lt_or_ge j k with h' | h'
            · exact hok.out j h' h2
            · have : j = k := by omega
              subst this; exact hy
          clear hok hx hy
          go_wp2_with fail
          refine c1.mono ?_
          rintro e w1 ⟨rfl, rfl⟩
          go_wp2_with fail
          refine c2.mono ?_
          rintro e w1 ⟨rfl, rfl⟩
          go_wp2
          go_roundw
          case rel => exact ⟨k + 1, by omega, by go_num, hwr, hn⟩
          case measure => simp [intOf]; omega
        | false =>
          rw [hy] at c2
          have hn : Hid ((less a b == 0) = false) := no.out k hx hy
          clear hok hx hy
          go_wp2_with fail
          refine c1.mono ?_
          rintro e w1 ⟨rfl, rfl⟩
          go_wp2_with fail
          refine c2.mono ?_
          rintro e w1 ⟨rfl, rfl⟩
          go_wp2
          go_ret
          exact ⟨ret_boolW hn.out.symm, hwr.out⟩
    · have hn : Hid ((less a b == 0) = true) := yes.out (fun j h => hok.out j (by omega))
      clear hok
      go_wp2
      go_ret
      exact ⟨ret_boolW hn.out.symm, hwr.out⟩
end Bt
end Go.Proofs.YtbgggekkkcefcabDoor
