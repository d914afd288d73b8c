/- The number of an error, as the statements take it. -/
import Derived.Test.YtbgggekkkcefcabDoorIs
namespace Go.Proofs.YtbgggekkkcefcabDoor
open Go.RowKit
namespace Er
set_option linter.unusedSimpArgs false
set_option linter.unusedVariables false

set_option maxRecDepth 100000 in
set_option maxHeartbeats 1000000 in
theorem num_nil (w : World) : Calls Tryd.prog 27 #[.nilIface] w fun e w' => e = .returned (.int .i64 0) ∧ w' = w := by
  go_enter Tryd.func27, Tryd.ntmps27
  go_wp2
  go_ret
  exact ⟨rfl, rfl⟩

set_option maxRecDepth 100000 in
set_option maxHeartbeats 1000000 in
theorem num_any (e0 : Value) (n : Nat) (h1 : 1 ≤ n) (h2 : n ≤ 24) (w : World) (hc : ∀ (b : Int) (w1 : World), Calls Tryd.prog 42 #[e0, noV b] w1 fun e w' => e = .returned (.bool ((n : Int) == b)) ∧ Below w1.heap.size w1 w') (hi : ∃ t v, e0 = .iface t v) :
    Calls Tryd.prog 27 #[e0] w fun e w' => e = .returned (.int .i64 n) ∧ Below w.heap.size w w' := by
  obtain ⟨t, v, rfl⟩ := hi
  have HC : Hid (∀ (b : Int) (w1 : World), Calls Tryd.prog 42 #[.iface t v, noV b] w1 fun e w' => e = .returned (.bool ((n : Int) == b)) ∧ Below w1.heap.size w1 w') := hc
  clear hc
  unfold noV at HC
  have hz : ((n : Int) == 0) = false := by simp; omega
  go_enter Tryd.func27, Tryd.ntmps27
  go_wp2
  go_loopw [3, 4] (fun f i wr => ∃ k : Nat, 1 ≤ k ∧ k ≤ 25 ∧ i = .int .i64 k ∧ f = .int .i64 (if n < k then (n : Int) else 0) ∧ Below w.heap.size w wr) (fun _ i _ => 25 - (intOf i).toNat)
  case atStart => exact ⟨1, by omega, by omega, rfl, by rw [if_neg (by omega)], Below.refl _ _⟩
  case round =>
    obtain ⟨k, k1, k2, rfl, rfl, hb⟩ := hrel
    by_cases hk : k ≤ 24
    · by_cases hn : n < k
      · rw [if_pos hn]
        have e1 : ((n : Int) == (k : Int)) = false := by simp; omega
        go_wp2_with fail
        go_at_call 42
        refine (HC.out _ _).mono ?_
        rw [e1]
        rintro e w1 ⟨rfl, hb1⟩
        go_wp2
        go_roundw
        case rel => exact ⟨k + 1, by omega, by omega, by go_num, by rw [if_pos (by omega)], hb.trans (hb1.mono hb.size)⟩
        case measure => simp [intOf]; omega
      · rw [if_neg hn]
        by_cases he : n = k
        · have e1 : ((n : Int) == (k : Int)) = true := by simp; omega
          go_wp2_with fail
          go_at_call 42
          refine (HC.out _ _).mono ?_
          rw [e1]
          rintro e w1 ⟨rfl, hb1⟩
          go_wp2
          go_roundw
          case rel => exact ⟨k + 1, by omega, by omega, by go_num, by rw [if_pos (by omega)]; subst he; rfl, hb.trans (hb1.mono hb.size)⟩
          case measure => simp [intOf]; omega
        · have e1 : ((n : Int) == (k : Int)) = false := by simp; omega
          go_wp2_with fail
          go_at_call 42
          refine (HC.out _ _).mono ?_
          rw [e1]
          rintro e w1 ⟨rfl, hb1⟩
          go_wp2
          go_roundw
          case rel => exact ⟨k + 1, by omega, by omega, by go_num, by rw [if_neg (by omega)], hb.trans (hb1.mono hb.size)⟩
          case measure => simp [intOf]; omega
    · obtain rfl : k = 25 := by omega
      rw [if_pos (by omega)]
      go_wp2_with fail
      go_at_call 42
      refine (HC.out _ _).mono ?_
      rw [hz]
      rintro e w1 ⟨rfl, hb1⟩
      go_wp2
      go_ret
      exact ⟨rfl, hb.trans (hb1.mono hb.size)⟩

theorem num_no (n : Nat) (h1 : 1 ≤ n) (h2 : n ≤ 24) (w : World) : Calls Tryd.prog 27 #[noV n] w fun e w' => e = .returned (.int .i64 n) ∧ Below w.heap.size w w' :=
  num_any _ n h1 h2 w (fun b w1 => (Is_no n b w1).mono (by rintro e w' ⟨rfl, rfl⟩; exact ⟨rfl, Below.refl _ _⟩)) ⟨_, _, rfl⟩

/-- At an error with a place (type 73). -/
theorem num_at (n : Nat) (k : Int) (h1 : 1 ≤ n) (h2 : n ≤ 24) (w : World) : Calls Tryd.prog 27 #[atV n k] w fun e w' => e = .returned (.int .i64 n) ∧ Below w.heap.size w w' :=
  num_any _ n h1 h2 w (fun b w1 => (Is_at n k b w1).mono (by rintro e w' ⟨rfl, rfl⟩; exact ⟨rfl, (Below.refl _ _).alloc (Nat.le_refl _) _⟩)) ⟨_, _, rfl⟩
end Er
end Go.Proofs.YtbgggekkkcefcabDoor
