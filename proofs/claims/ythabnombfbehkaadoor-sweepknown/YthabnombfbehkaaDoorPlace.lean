import Derived.Test.YthabnombfbehkaaDoorAsTop
import Derived.Deep.RegionHeld3
/- The questions Place, Plain and At of the statements. -/
namespace Go.Proofs.YthabnombfbehkaaDoor
open Go.RowKit
namespace Er
set_option linter.unusedSimpArgs false
set_option linter.unusedVariables false

theorem below_then {w a b : World} (h : Below w.heap.size w a) (k : Below a.heap.size a b) : Below w.heap.size w b := h.trans (k.mono h.size)

set_option maxRecDepth 100000 in
set_option maxHeartbeats 1000000 in
theorem place_at (n : Nat) (k : Int) (h1 : 1 ≤ n) (h2 : n ≤ 24) (w : World) (hg : Handle w) :
    Calls Tryd.prog 59 #[atV n k] w fun e w' => e = .returned (.tuple #[.int .i64 k, .bool true]) ∧ Below w.heap.size w w' := by
  have HW : Handle (w.alloc (.cells #[.int .i64 0, .int .i64 0] 94)) := hg.below ((Below.refl _ _).alloc (Nat.le_refl _) _)
  have cA := As_at n k w.heap.size (.int .i64 0) (.int .i64 0) (w.alloc (.cells #[.int .i64 0, .int .i64 0] 94)) HW (by simp) (by simp) (by simp) (by simp) (by simp)
  have cN : Hid (∀ w1, Calls Tryd.prog 57 #[atV n k] w1 fun e w' => e = .returned (.int .i64 n) ∧ Below w1.heap.size w1 w') := fun w1 => num_at n k h1 h2 w1
  have B0 : Below w.heap.size w (w.alloc (.cells #[.int .i64 0, .int .i64 0] 94)) := (Below.refl _ _).alloc (Nat.le_refl _) _
  unfold atV at cA cN ⊢
  go_enter Tryd.func59, Tryd.ntmps59
  go_wp2_with (go_at_call 58; refine cA.mono ?_; rintro e w1 ⟨rfl, hb1, hc0, hc1⟩)
  have hb2 := B0.trans hb1
  have hsz : w.heap.size < w1.heap.size := by
    rcases Nat.lt_or_ge w.heap.size w1.heap.size with h | h
    · exact h
    · simp [World.cell?, Array.getElem?_eq_none h] at hc0
  clear cA hb1 B0 HW
  go_region_held3 (fun w' => w'.cell? ⟨w.heap.size, 0, none⟩ = some (.int .i64 n) ∧ w'.cell? ⟨w.heap.size, 1, none⟩ = some (.int .i64 k) ∧ Below w.heap.size w w') (first | assumption | exact ⟨by assumption, by assumption, hb2.drew⟩) (first | (go_at_call 57; refine (cN.out _).mono ?_; rintro e w2 ⟨rfl, hq⟩; have hS2 : w2.cell? ⟨w.heap.size, 0, none⟩ = some (.int .i64 n) ∧ w2.cell? ⟨w.heap.size, 1, none⟩ = some (.int .i64 k) ∧ Below w.heap.size w w2 := ⟨(hq.cell (p := ⟨w.heap.size, 0, none⟩) hsz).trans hc0, (hq.cell (p := ⟨w.heap.size, 1, none⟩) hsz).trans hc1, hb2.drew.trans (hq.mono (Nat.le_of_lt hsz))⟩))
  go_wp2
  go_ret2
  exact ⟨rfl, hS2.2.2⟩
set_option maxRecDepth 100000 in
set_option maxHeartbeats 1000000 in
theorem place_no (n : Nat) (w : World) (hg : Handle w) :
    Calls Tryd.prog 59 #[noV n] w fun e w' => e = .returned (.tuple #[.int .i64 0, .bool false]) ∧ Below w.heap.size w w' := by
  have B0 : Below w.heap.size w (w.alloc (.cells #[.int .i64 0, .int .i64 0] 94)) := (Below.refl _ _).alloc (Nat.le_refl _) _
  have cA := As_no n w.heap.size (w.alloc (.cells #[.int .i64 0, .int .i64 0] 94)) (hg.below B0)
  unfold noV at cA ⊢
  go_enter Tryd.func59, Tryd.ntmps59
  go_wp2_with (go_at_call 58; refine cA.mono ?_; rintro e w1 ⟨rfl, hb1⟩)
  go_ret2
  exact ⟨rfl, below_then B0 hb1⟩

set_option maxRecDepth 100000 in
set_option maxHeartbeats 1000000 in
theorem plain_nil (m : Int) (w : World) :
    Calls Tryd.prog 35 #[.nilIface, .int .i64 m] w fun e w' => e = .returned (.bool (decide (0 = m))) ∧ Below w.heap.size w w' := by
  have B0 : Below w.heap.size w (w.alloc (.cells #[.int .i64 0, .int .i64 0] 94)) := (Below.refl _ _).alloc (Nat.le_refl _) _
  have cN := num_nil
  by_cases hm : 0 = m
  · subst hm
    go_enter Tryd.func35, Tryd.ntmps35
    go_wp2_with (go_at_call 57; refine (cN _).mono ?_; rintro e w1 ⟨rfl, rfl⟩)
    go_ret
    exact ⟨rfl, B0⟩
  · have e1 : ((0 : Int) == m) = false := by simpa using hm
    rw [decide_eq_false hm]
    go_enter Tryd.func35, Tryd.ntmps35
    go_wp2_with (go_at_call 57; refine (cN _).mono ?_; rintro e w1 ⟨rfl, rfl⟩)
    go_ret
    exact ⟨rfl, B0⟩

set_option maxRecDepth 100000 in
set_option maxHeartbeats 1000000 in
theorem plain_no (n : Nat) (m : Int) (h1 : 1 ≤ n) (h2 : n ≤ 24) (w : World) (hg : Handle w) :
    Calls Tryd.prog 35 #[noV n, .int .i64 m] w fun e w' => e = .returned (.bool (decide ((n : Int) = m))) ∧ Below w.heap.size w w' := by
  have B0 : Below w.heap.size w (w.alloc (.cells #[.int .i64 0, .int .i64 0] 94)) := (Below.refl _ _).alloc (Nat.le_refl _) _
  have cN := num_no n h1 h2 (w.alloc (.cells #[.int .i64 0, .int .i64 0] 94))
  have cA : Hid (∀ w1, Handle w1 → Calls Tryd.prog 58 #[noV n, .iface 97 (.pointer (some ⟨w.heap.size, 0, none⟩))] w1 fun e w' => e = .returned (.bool false) ∧ Below w1.heap.size w1 w') := fun w1 h => As_no n w.heap.size w1 h
  have HG : Handle (w.alloc (.cells #[.int .i64 0, .int .i64 0] 94)) := hg.below B0
  by_cases hm : (n : Int) = m
  · subst hm
    rw [decide_eq_true rfl]
    unfold noV at cN cA ⊢
    go_enter Tryd.func35, Tryd.ntmps35
    go_wp2_with (first | (go_at_call 57; refine cN.mono ?_; rintro e w1 ⟨rfl, hb1⟩) | (go_at_call 58; refine (cA.out _ (HG.below hb1)).mono ?_; rintro e w2 ⟨rfl, hb2⟩))
    go_ret
    exact ⟨rfl, below_then (below_then B0 hb1) hb2⟩
  · have e1 : ((n : Int) == m) = false := by simpa using hm
    rw [decide_eq_false hm]
    unfold noV at cN cA ⊢
    go_enter Tryd.func35, Tryd.ntmps35
    go_wp2_with (first | (go_at_call 57; refine cN.mono ?_; rintro e w1 ⟨rfl, hb1⟩))
    go_ret
    exact ⟨rfl, below_then B0 hb1⟩

set_option maxRecDepth 100000 in
set_option maxHeartbeats 1000000 in
theorem at_nil (k : Int) (w : World) :
    Calls Tryd.prog 36 #[.nilIface, .int .i64 0, .int .i64 k] w fun e w' => e = .returned (.bool true) ∧ w' = w := by
  go_enter Tryd.func36, Tryd.ntmps36
  go_wp2
  go_ret
  exact ⟨rfl, rfl⟩

set_option maxRecDepth 100000 in
set_option maxHeartbeats 1000000 in
theorem at_at (n : Nat) (k : Int) (h1 : 1 ≤ n) (h2 : n ≤ 24) (w : World) (hg : Handle w) :
    Calls Tryd.prog 36 #[atV n k, .int .i64 n, .int .i64 k] w fun e w' => e = .returned (.bool true) ∧ Below w.heap.size w w' := by
  have hz : ((n : Int) == 0) = false := by simp; omega
  have cP := place_at n k h1 h2 w hg
  have cN : Hid (∀ w1, Calls Tryd.prog 57 #[atV n k] w1 fun e w' => e = .returned (.int .i64 n) ∧ Below w1.heap.size w1 w') := fun w1 => num_at n k h1 h2 w1
  unfold atV at cP cN ⊢
  go_enter Tryd.func36, Tryd.ntmps36
  go_wp2_with (first | (go_at_call 59; refine cP.mono ?_; rintro e w1 ⟨rfl, hb1⟩) | (go_at_call 57; refine (cN.out _).mono ?_; rintro e w2 ⟨rfl, hb2⟩))
  go_ret
  exact ⟨rfl, below_then hb1 hb2⟩
end Er
end Go.Proofs.YthabnombfbehkaaDoor
