/- The document's numbers as bytes. -/
import Derived.Test.YtjnodkjeiogloaaRecP
import Derived.Test.YtjnodkjeiogloaaRowB
import Derived.Test.YtjnodkjeiogloaaOwn
namespace Go.Proofs.Ytjnodkjeiogloaa
set_option linter.ambiguousOpen false
open Go.RowKit
namespace Rc
open Sm
set_option linter.unusedSimpArgs false
set_option linter.unusedVariables false

theorem lo_snoc (v n : Nat) : lo v (n + 1) = lo v n ++ [UInt8.ofNat (v / 256 ^ n % 256)] := by
  induction n generalizing v with
  | zero => simp [lo]
  | succ n ih =>
    rw [lo, ih, lo, List.cons_append, Nat.div_div_eq_div_mul]
    congr 5
    rw [Nat.pow_succ, Nat.mul_comm]

set_option maxRecDepth 100000 in
set_option maxHeartbeats 1000000 in
theorem number_any (v n : Nat) (w : World) (hv : v < 18446744073709551616) (hn : n ≤ 8) :
    Calls Try.prog 41 #[.int .u64 (v : Int), nu (n : Int)] w fun e w' => ∃ x, e = .returned x ∧ w'.ownsRow w.heap.size 5 1 x n ((lo v n).map by1) ∧ Below w.heap.size w w' := by
  obtain ⟨i0, ji, hz0, hz1, hz2⟩ := info_parts info_byte
  go_enter Try.func41, Try.ntmps41
  go_wp2
  go_loopw [5, 6] (fun lv iv wr => ∃ (k : Nat), k ≤ n ∧ iv = nu k ∧ Hid (wr.ownsRow w.heap.size 5 1 lv k ((lo v k).map by1)) ∧ Hid (Below w.heap.size w wr)) (fun _ iv _ => n - (intOf iv).toNat)
  case atStart => exact ⟨0, by omega, rfl, World.ownsRow_nil _ _ _ _, Below.refl _ _⟩
  case round =>
    obtain ⟨k, hk, rfl, hO, hB⟩ := hrel
    by_cases hc : k < n
    · have hc' : (k : Int) < (n : Int) := by omega
      have hmx : Hid (k + 1 ≤ maxLen) := by show _ ≤ _; unfold maxLen; omega
      have hby : Hid ((k + 1) * 1 ≤ 140737488355328) := by show _ ≤ _; omega
      have hws : Hid (w.heap.size ≤ wr.heap.size) := hB.out.size
      obtain ⟨y, hy⟩ : ∃ y : Nat, v / 256 ^ k % 256 = y := ⟨_, rfl⟩
      have hyI : (v : Int) / 2 ^ (8 * k) % 256 = (y : Int) := by
        rw [← hy, show (256 : Nat) ^ k = 2 ^ (8 * k) by rw [Nat.pow_mul]]
        push_cast
        rfl
      have hyl : y < 256 := by omega
      have hb1 : Hid (by1 (UInt8.ofNat y) = .int .u8 (y : Int)) := by
        show Value.int .u8 _ = _
        rw [UInt8.toNat_ofNat_of_lt' (by omega : y < 2 ^ 8)]
      have hS : Hid ((lo v (k + 1)).map by1 = (lo v k).map by1 ++ [.int .u8 (y : Int)]) := by
        show _ = _
        rw [lo_snoc, hy, List.map_append, ← hb1.out]
        rfl
      have hone : Hid (∀ x ∈ [Value.int .u8 (y : Int)], x.oneCell' = true) := by intro x hx; simp at hx; subst hx; rfl
      clear hy hb1
      go_wp2_with (at_builtin; refine wpList_append_own _ rfl _ _ 32 rfl w.heap.size 5 i0 (.int .u8 0) 1 1 Try.underlying32 ji hz0 hz1 hz2 rfl (by decide) _ _ _ rfl (hO.out.alloc _) ⟨wr.heap.size, 0, none⟩ 1 1 [.int .u8 (y : Int)] rfl rfl (cell_one_new _ _ _) hone.out hmx.out hby.out (by have := hws.out; simp; omega) ?_; intro v' w4 hown4 hgrow _; rw [← hS.out] at hown4; have hO4 := Hid.mk' hown4; have hB4 : Hid (Below w.heap.size w w4) := Below.grown (hB.out.alloc hws.out _) hgrow (by have := hws.out; simp; omega) (fun k hk => (hO.out.lt k hk).1); clear hown4 hgrow)
      go_wp2
      go_roundw
      case rel => exact ⟨k + 1, by omega, by go_num, hO4, hB4⟩
      case measure => simp [intOf]; omega
    · obtain rfl : k = n := by omega
      go_wp2
      go_ret
      exact ⟨_, rfl, hO.out, hB.out⟩
end Rc
end Go.Proofs.Ytjnodkjeiogloaa
