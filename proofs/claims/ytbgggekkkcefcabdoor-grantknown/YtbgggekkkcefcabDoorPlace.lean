/- The questions Place, Plain and At of the statements. -/
import Derived.Test.YtbgggekkkcefcabDoorAsTop
import Derived.Deep.RegionHeld3
namespace Go.Proofs.YtbgggekkkcefcabDoor
open Go.RowKit
namespace Er
set_option linter.unusedSimpArgs false
set_option linter.unusedVariables false

theorem below_then {w a b : World} (h : Below w.heap.size w a) (k : Below a.heap.size a b) : Below w.heap.size w b := h.trans (k.mono h.size)

set_option maxRecDepth 100000 in
set_option maxHeartbeats 1000000 in
theorem plain_nil (m : Int) (w : World) :
    Calls Tryd.prog 30 #[.nilIface, .int .i64 m] w fun e w' => e = .returned (.bool (decide (0 = m))) ∧ Below w.heap.size w w' := by
  have B0 : Below w.heap.size w (w.alloc (.cells #[.int .i64 0, .int .i64 0] 73)) := (Below.refl _ _).alloc (Nat.le_refl _) _
  have cN := num_nil
  by_cases hm : 0 = m
  · subst hm
    go_enter Tryd.func30, Tryd.ntmps30
    go_wp2_with (go_at_call 27; refine (cN _).mono ?_; rintro e w1 ⟨rfl, rfl⟩)
    go_ret
    exact ⟨rfl, B0⟩
  · have e1 : ((0 : Int) == m) = false := by simpa using hm
    rw [decide_eq_false hm]
    go_enter Tryd.func30, Tryd.ntmps30
    go_wp2_with (go_at_call 27; refine (cN _).mono ?_; rintro e w1 ⟨rfl, rfl⟩)
    go_ret
    exact ⟨rfl, B0⟩

set_option maxRecDepth 100000 in
set_option maxHeartbeats 1000000 in
theorem plain_no (n : Nat) (m : Int) (h1 : 1 ≤ n) (h2 : n ≤ 24) (w : World) (hg : Handle w) :
    Calls Tryd.prog 30 #[noV n, .int .i64 m] w fun e w' => e = .returned (.bool (decide ((n : Int) = m))) ∧ Below w.heap.size w w' := by
  have B0 : Below w.heap.size w (w.alloc (.cells #[.int .i64 0, .int .i64 0] 73)) := (Below.refl _ _).alloc (Nat.le_refl _) _
  have cN := num_no n h1 h2 (w.alloc (.cells #[.int .i64 0, .int .i64 0] 73))
  have cA : Hid (∀ w1, Handle w1 → Calls Tryd.prog 48 #[noV n, .iface 75 (.pointer (some ⟨w.heap.size, 0, none⟩))] w1 fun e w' => e = .returned (.bool false) ∧ Below w1.heap.size w1 w') := fun w1 h => As_no n w.heap.size w1 h
  have HG : Handle (w.alloc (.cells #[.int .i64 0, .int .i64 0] 73)) := hg.below B0
  by_cases hm : (n : Int) = m
  · subst hm
    rw [decide_eq_true rfl]
    unfold noV at cN cA ⊢
    go_enter Tryd.func30, Tryd.ntmps30
    go_wp2_with (first | (go_at_call 27; refine cN.mono ?_; rintro e w1 ⟨rfl, hb1⟩) | (go_at_call 48; refine (cA.out _ (HG.below hb1)).mono ?_; rintro e w2 ⟨rfl, hb2⟩))
    go_ret
    exact ⟨rfl, below_then (below_then B0 hb1) hb2⟩
  · have e1 : ((n : Int) == m) = false := by simpa using hm
    rw [decide_eq_false hm]
    unfold noV at cN cA ⊢
    go_enter Tryd.func30, Tryd.ntmps30
    go_wp2_with (first | (go_at_call 27; refine cN.mono ?_; rintro e w1 ⟨rfl, hb1⟩))
    go_ret
    exact ⟨rfl, below_then B0 hb1⟩

end Er
end Go.Proofs.YtbgggekkkcefcabDoor
