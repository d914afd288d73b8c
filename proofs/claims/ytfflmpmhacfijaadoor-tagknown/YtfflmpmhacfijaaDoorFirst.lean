/- The bytes 0, 1, and so on; the published sums. -/
import Derived.Test.YtfflmpmhacfijaaDoorOfT
namespace Go.Proofs.YtfflmpmhacfijaaDoor
set_option linter.ambiguousOpen false
open Go.RowKit
namespace Tg
open Sm
set_option linter.unusedSimpArgs false
set_option linter.unusedVariables false

/-- The bytes 0, 1, and so on. -/
def fb (n : Nat) : List UInt8 := (List.range n).map UInt8.ofNat

theorem fb_len (n : Nat) : (fb n).length = n := by simp [fb]

theorem fb_succ (n : Nat) : fb (n + 1) = fb n ++ [UInt8.ofNat n] := by simp [fb, List.range_succ]

theorem by1_nat (k : Nat) (h : k < 256) : by1 (UInt8.ofNat k) = .int .u8 (k : Int) := by
  unfold by1
  rw [UInt8.toNat_ofNat', Nat.mod_eq_of_lt (by simpa using h)]

set_option maxRecDepth 100000 in
set_option maxHeartbeats 2000000 in
theorem first_any (n : Nat) (hn : n ≤ 200) (w : World) :
    Calls Tryd.prog 18 #[nu n] w fun e w' => ∃ v', e = .returned v' ∧ w'.ownsRow w.heap.size 5 1 v' n ((fb n).map by1) ∧ Below w.heap.size w w' := by
  obtain ⟨i0, hi, hz0, hz1, hz2⟩ := info_parts info_byte
  go_enter Tryd.func18, Tryd.ntmps18
  go_wp2
  go_loopw [3, 4] (fun pv iv wr => ∃ k : Nat, k ≤ n ∧ iv = .int .i64 k ∧ wr.ownsRow w.heap.size 5 1 pv k ((fb k).map by1) ∧ Below w.heap.size w wr) (fun _ iv _ => n - (intOf iv).toNat)
  case atStart => exact ⟨0, Nat.zero_le _, rfl, World.ownsRow_nil _ _ _ _, Below.refl _ _⟩
  case round =>
    obtain ⟨k, hk, rfl, hown, hbel⟩ := hrel
    by_cases hp : k < n
    · have HS : Hid ((fb (k + 1)).map by1 = (fb k).map by1 ++ [.int .u8 (k : Int)]) := by
        show _ = _
        rw [fb_succ, List.map_append, ← by1_nat k (by omega)]; rfl
      go_wp2_with (at_builtin; refine wpList_append_own _ rfl _ _ 22 rfl w.heap.size 5 i0 (.int .u8 0) 1 1 Tryd.underlying22 hi hz0 hz1 hz2 rfl (by decide) _ _ _ rfl (hown.alloc _) ⟨wr.heap.size, 0, none⟩ 1 1 [.int .u8 (k : Int)] rfl rfl (cell_one_new _ _ _) (by simp [Value.oneCell']) (by unfold maxLen; omega) (by omega) (by have := hbel.size; simp; omega) ?_; intro v' w4 hown4 hgrow _; have hbel4 : Below w.heap.size w w4 := Below.grown (hbel.alloc (by exact hbel.size) _) hgrow (by have := hbel.size; simp; omega) (fun k hk => (hown.lt k hk).1))
      go_roundw
      case rel => exact ⟨k + 1, by omega, by go_num, by rw [HS.out]; exact hown4, hbel4⟩
      case measure => simp [intOf]; omega
    · obtain rfl : k = n := by omega
      go_wp2
      go_ret
      exact ⟨_, rfl, hown, hbel⟩

theorem conv_back {w : World} {base n : Nat} {v : Value} (hn : 0 < n) (h : w.ownsRow base 5 1 v n ((fb n).map by1)) : (convert 22 9 v).run Tryd.prog w = .ok (.string (tx (fb n))) w := by
  obtain ⟨a, cap, e, h1, h2, h3⟩ := own_rd' h (fb_len n)
  obtain ⟨g, o, rfl, hg, hc⟩ := h3 (by rw [fb_len]; exact hn)
  subst e
  exact run_convert_bytes_back w 22 9 5 ⟨g, o, none⟩ cap (fb n) Tryd.underlying22 Tryd.underlying5 Tryd.underlying9 (fun j hj => by
    have := hc j hj
    rw [← this]
    unfold Addr.add
    by_cases h0 : j = 0
    · subst h0; simp
    · simp [h0])

/-- The key of the published sums. -/
def kv0 : V4 := keyV (k0L (fb 16)) (k1L (fb 16))

theorem sum0 : goes 0 kv0 [] = 8246050544436514353 := by
  rw [goes_short _ _ _ (by decide)]
  decide +kernel

theorem sum1 : goes 1 kv0 (fb 1) = 8428550223375919101 := by
  rw [goes_short _ _ _ (by decide)]
  decide +kernel

theorem sum2 : goes 2 kv0 (fb 2) = 967288799772626778 := by
  rw [goes_short _ _ _ (by decide)]
  decide +kernel

theorem sum15 : goes 15 kv0 (fb 15) = 11613035633349379557 := by
  rw [goes_long _ _ _ (by decide), goes_short _ _ _ (by decide)]
  decide +kernel
end Tg
end Go.Proofs.YtfflmpmhacfijaaDoor
