/- Layer 22: slices.Grow and slices.Concat of rows of refusals. -/
import Derived.Test.YtbgggekkkcefcabDoorGrF
import Derived.Lib.AppendZeros
import Derived.Lib.Walk
import Derived.Lib.SliceRun
import Derived.Deep.AppendLies
namespace Go.Proofs.YtbgggekkkcefcabDoor
set_option linter.ambiguousOpen false
open Go.RowKit
namespace Gr
set_option linter.unusedVariables false
set_option linter.unusedSimpArgs false

abbrev zR : Value := .agg #[.int .i64 0, .nilFunc]

theorem zeros_size (c : Array Value) : ∀ n, (Builtin.zeroCells c n).size = n * c.size := by
  intro n
  induction n with
  | zero => simp [Builtin.zeroCells]
  | succ n ih => simp_all [Builtin.zeroCells]

set_option maxRecDepth 100000 in
set_option maxHeartbeats 2000000 in
theorem grow_p (n : Nat) (h0 : 0 < n) (hn : n ≤ 1000) (w : World) :
    Calls Tryd.prog 51 #[.slice none 0 0, .int .i64 n] w fun e w' => ∃ v, e = .returned v ∧ w'.ownsRow w.heap.size 52 2 v 0 [] ∧ Below w.heap.size w w' := by
  obtain ⟨i0, hi, hz0, hz1, hz2⟩ := info_parts infoRf
  have h1 : ¬ ((n : Int) < 0) := by omega
  have h3 : wrap64 ((n : Int) - 0) = (n : Int) := by unfold wrap64; omega
  have h3' : wrap64 (n : Int) = (n : Int) := by unfold wrap64; omega
  have h4 : (n : Int) > 0 := by omega
  have hr : ∀ ty, (Builtin.append_ #[53, 3] ty #[.slice none 0 0, .int .i64 n]).run Tryd.prog w = _ := fun ty => Lib.run_append_nil_zeros w 53 3 ty 52 i0 zR .i64 .i64 Tryd.underlying53 Tryd.underlying3 hi hz0 n h0 (by rw [hz1]; omega) (by omega) (by rw [hz2]; omega)
  have hge := grownCap_ge w n 0 52
  have hle := grownCap_le_maxLen w n 0 52 (by unfold maxLen; omega)
  obtain ⟨G, hG⟩ : ∃ G, grownCap w n 0 52 = G := ⟨_, rfl⟩
  rw [hG] at hge hle
  simp only [hG] at hr
  have hG63 : G ≤ 9223372036854775807 := by unfold maxLen at hle; omega
  have HO : Hid (∀ o, o = Obj.cells (Builtin.zeroCells zR.cells n ++ Builtin.zeroCells zR.cells (G - n)) 52 → (w.drew.alloc o).ownsRow w.heap.size 52 2 (.slice (some ⟨w.heap.size, 0, none⟩) 0 G) 0 []) := hidG (by
    rintro o rfl
    refine ⟨rfl, .inr ⟨w.heap.size, G, _, rfl, Nat.le_refl _, heap_alloc_new w.drew _, Nat.zero_le _, hle, ?_, by simp⟩⟩
    rw [Array.size_append, zeros_size, zeros_size]
    show n * 2 + (G - n) * 2 = G * 2
    omega)
  have HB : Hid (∀ o, Below w.heap.size w (w.drew.alloc o)) := hidG fun o => (Below.refl _ _).drew.alloc (Nat.le_refl _) _
  clear hG hz0 hz1 hz2 hi hle
  go_enter Tryd.func51, Tryd.ntmps51
  go_wp2_with (at_builtin; refine Lib.wpList_append_run _ rfl _ _ _ _ rfl _ _ rfl rfl _ _ (hr _) ?_)
  go_ret
  exact ⟨_, rfl, HO.out _ rfl, HB.out _⟩
end Gr
end Go.Proofs.YtbgggekkkcefcabDoor
