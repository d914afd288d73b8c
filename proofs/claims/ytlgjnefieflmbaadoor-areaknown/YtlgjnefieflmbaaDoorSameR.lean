/- Rows of raw writes that are the same. -/
import Derived.Test.YtlgjnefieflmbaaDoorDiskP
import Derived.ChangeKeysEq
namespace Go.Proofs.YtlgjnefieflmbaaDoor
set_option linter.ambiguousOpen false
open Go.RowKit
namespace Dk
open Sm Ft
set_option linter.unusedSimpArgs false
set_option linter.unusedVariables false

theorem below_dn {b : Nat} {w w' : World} (h : Below b w w') (n : Nat) : Below b w (w'.drewN n) := ⟨h.os, h.tape, h.output, h.size, h.block⟩

set_option maxRecDepth 100000 in
theorem raw_neq (b : Int) (f : ByteArray) (w : World) : (binOp .neq 71 (.agg #[nu b, .string f]) (.agg #[nu b, .string f])).run Tryd.prog w = .ok (.bool false) w := by
  have hu := Tryd.underlying71
  have hp : Tryd.prog.stoodInHeld 71 = false := by kernel_rfl
  rw [run_neq_struct]
  rw [show (10000 : Nat) = 9999 + 1 from rfl, run_equalIn_agg _ _ _ _ _ (by rw [hu]; simp [Program.fieldsOf, hu]) hp]
  simp only [Program.fieldsOf, hu]
  simp [go_sem, Op.eqFields, part, hp, Tryd.underlying3, Tryd.underlying9, Tryd.isAgg3, Tryd.isAgg9, Tryd.sizeOf3, Tryd.sizeOf9]

set_option maxRecDepth 100000 in
set_option maxHeartbeats 2000000 in
theorem sameRaws_eq (v1 v2 : Value) (l : List Raw) (w : World) (h1 : RdR w v1 l) (h2 : RdR w v2 l) :
    Calls Tryd.prog 18 #[v1, v2] w fun e w' => e = .returned (.bool true) ∧ Below w.heap.size w w' := by
  obtain ⟨a, cap, rfl, hc, hm, hcell⟩ := h1
  obtain ⟨a2, cap2, rfl, hc2, hm2, hcell2⟩ := h2
  unfold maxLen at hm hm2
  have HC := Hid.mk' hcell
  have HC2 := Hid.mk' hcell2
  clear hcell hcell2
  have hne : ((l.length : Int) != (l.length : Int)) = false := by simp
  go_enter Tryd.func18, Tryd.ntmps18
  go_wp2
  go_loopw [5] (fun iv wr => ∃ k : Nat, k ≤ l.length ∧ iv = .int .i64 k ∧ Hid (Below w.heap.size w wr)) (fun iv _ => l.length - (intOf iv).toNat)
  case atStart => exact ⟨0, Nat.zero_le _, rfl, Below.refl _ _⟩
  case round =>
    obtain ⟨k, hk, rfl, hbel⟩ := hrel
    by_cases hp : k < l.length
    · obtain ⟨g, o, rfl, hgl, hcj⟩ := HC.out (Nat.lt_of_le_of_lt (Nat.zero_le _) hp)
      obtain ⟨g2, o2, rfl, hgl2, hcj2⟩ := HC2.out (Nat.lt_of_le_of_lt (Nat.zero_le _) hp)
      obtain ⟨r, hr⟩ : ∃ r, l[k]? = some r := ⟨_, List.getElem?_eq_getElem hp⟩
      obtain ⟨q0, q1⟩ := hcj k r hr
      obtain ⟨q2, q3⟩ := hcj2 k r hr
      rw [← hbel.out.cell (p := ⟨g, o + k * 2, none⟩) hgl] at q0
      rw [← hbel.out.cell (p := ⟨g, o + k * 2 + 1, none⟩) hgl] at q1
      rw [← hbel.out.cell (p := ⟨g2, o2 + k * 2, none⟩) hgl2] at q2
      rw [← hbel.out.cell (p := ⟨g2, o2 + k * 2 + 1, none⟩) hgl2] at q3
      obtain ⟨rb, rt⟩ := r
      simp only at q0 q1 q2 q3
      generalize tx rt = f at *
      have hx := fun w => raw_neq rb f w
      clear hcj hcj2 hr
      have z0 : (0 : Int) ≤ (k : Int) := by omega
      have z1 : (k : Int) < (l.length : Int) := by omega
      go_wp2_with fail
      go_quiet (fail)
      have hB2 := Hid.mk' (below_dn hbel.out nq)
      clear q0 q1 q2 q3
      go_wp2
      go_roundw
      case rel => exact ⟨k + 1, by omega, by go_num, hB2⟩
      case measure => simp [intOf]; omega
    · obtain rfl : k = l.length := by omega
      go_wp2
      go_ret
      exact ⟨rfl, hbel.out⟩
end Dk
end Go.Proofs.YtlgjnefieflmbaaDoor
