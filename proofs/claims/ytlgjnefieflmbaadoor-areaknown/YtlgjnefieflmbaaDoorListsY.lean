/- Rows of bytes: the same, a copy. -/
import Derived.Test.YtlgjnefieflmbaaDoorRefTk
import Derived.ChangeKeysEq
namespace Go.Proofs.YtlgjnefieflmbaaDoor
set_option linter.ambiguousOpen false
open Go.RowKit
namespace Pk
open Sm
set_option linter.unusedSimpArgs false
set_option linter.unusedVariables false

theorem below_dn {b : Nat} {w w' : World} (h : Below b w w') (n : Nat) : Below b w (w'.drewN n) := ⟨h.os, h.tape, h.output, h.size, h.block⟩

set_option maxRecDepth 100000 in
set_option maxHeartbeats 2000000 in
theorem sameB_eq (v1 v2 : Value) (l : List UInt8) (w : World) (h1 : RdB w v1 l) (h2 : RdB w v2 l) :
    Calls Tryd.prog 40 #[v1, v2] w fun e w' => e = .returned (.bool true) ∧ Below w.heap.size w w' := by
  obtain ⟨a, cap, rfl, hc, hm, hcell⟩ := h1
  obtain ⟨a2, cap2, rfl, hc2, hm2, hcell2⟩ := h2
  unfold maxLen at hm hm2
  have HC := Hid.mk' hcell
  have HC2 := Hid.mk' hcell2
  clear hcell hcell2
  have hne : ((l.length : Int) != (l.length : Int)) = false := by simp
  go_enter Tryd.func40, Tryd.ntmps40
  go_wp2
  go_loopw [5] (fun iv wr => ∃ k : Nat, k ≤ l.length ∧ iv = .int .i64 k ∧ Hid (Below w.heap.size w wr)) (fun iv _ => l.length - (intOf iv).toNat)
  case atStart => exact ⟨0, Nat.zero_le _, rfl, Below.refl _ _⟩
  case round =>
    obtain ⟨k, hk, rfl, hbel⟩ := hrel
    by_cases hp : k < l.length
    · obtain ⟨g, o, rfl, hgl, hcj⟩ := HC.out (Nat.lt_of_le_of_lt (Nat.zero_le _) hp)
      obtain ⟨g2, o2, rfl, hgl2, hcj2⟩ := HC2.out (Nat.lt_of_le_of_lt (Nat.zero_le _) hp)
      have q0 := hcj k hp
      have q2 := hcj2 k hp
      rw [← hbel.out.cell (p := ⟨g, o + k, none⟩) hgl] at q0
      rw [← hbel.out.cell (p := ⟨g2, o2 + k, none⟩) hgl2] at q2
      unfold by1 at q0 q2
      generalize ((l[k]).toNat : Int) = x at *
      clear hcj hcj2
      have z0 : (0 : Int) ≤ (k : Int) := by omega
      have z1 : (k : Int) < (l.length : Int) := by omega
      go_wp2_with fail
      go_quiet (fail)
      have hB2 := Hid.mk' (below_dn hbel.out nq)
      clear q0 q2
      go_wp2
      go_roundw
      case rel => exact ⟨k + 1, by omega, by go_num, hB2⟩
      case measure => simp [intOf]; omega
    · obtain rfl : k = l.length := by omega
      go_wp2
      go_ret
      exact ⟨rfl, hbel.out⟩

end Pk
end Go.Proofs.YtlgjnefieflmbaaDoor
