/- The program's rows and digits: their parts; a token's row; a row's token. -/
import Derived.Test.YtkkpcngdpnoidaaArr8
namespace Go.Proofs.Ytkkpcngdpnoidaa
set_option linter.ambiguousOpen false
open Go.RowKit
namespace Tk
open Sm
set_option linter.unusedSimpArgs false
set_option linter.unusedVariables false

theorem cut15 (H a b : Nat) (hb : b ≤ 15) (hab : a < b) (w : World) : (Instr.sliceAt 42 (.pointer (some ⟨H, 0, none⟩)) (some (.int .i64 (a : Int))) (some (.int .i64 (b : Int))) (some (.int .i64 (b : Int)))).run Try.prog w = .ok (.slice (some ⟨H, a, none⟩) (b - a) (b - a)) w := by
  have h1 : ((b : Int) ≤ 15) := by omega
  have h2 : ((a : Int) ≤ (b : Int)) := by omega
  have h3 : ¬ b = a := by omega
  simp [Instr.sliceAt, Instr.sureAddr, Instr.sliceBounds, Instr.sliceBound, asIntOf, run_underlying Try.underlying42, Addr.add, Try.sizeOf5, h1, h2, h3, hb, Nat.le_of_lt hab]
  by_cases h0 : a = 0
  · simp [h0]
  · simp [h0]

theorem cut24 (H a b : Nat) (hb : b ≤ 24) (hab : a < b) (w : World) : (Instr.sliceAt 39 (.pointer (some ⟨H, 0, none⟩)) (some (.int .i64 (a : Int))) (some (.int .i64 (b : Int))) (some (.int .i64 (b : Int)))).run Try.prog w = .ok (.slice (some ⟨H, a, none⟩) (b - a) (b - a)) w := by
  have h1 : ((b : Int) ≤ 24) := by omega
  have h2 : ((a : Int) ≤ (b : Int)) := by omega
  have h3 : ¬ b = a := by omega
  simp [Instr.sliceAt, Instr.sureAddr, Instr.sliceBounds, Instr.sliceBound, asIntOf, run_underlying Try.underlying39, Addr.add, Try.sizeOf5, h1, h2, h3, hb, Nat.le_of_lt hab]
  by_cases h0 : a = 0
  · simp [h0]
  · simp [h0]

theorem slot_any (H : Nat) (w : World) : Calls Try.prog 20 #[.pointer (some ⟨H, 0, none⟩)] w fun e w' => e = .returned (.slice (some ⟨H, 0, none⟩) 1 1) ∧ w' = w := by
  have h : ∀ w, (Instr.sliceAt 42 (.pointer (some ⟨H, 0, none⟩)) none (some (.int .i64 1)) (some (.int .i64 1))).run Try.prog w = .ok (.slice (some ⟨H, 0, none⟩) 1 1) w := fun w => by
    simp [Instr.sliceAt, Instr.sureAddr, Instr.sliceBounds, Instr.sliceBound, asIntOf, run_underlying Try.underlying42, Addr.add, Try.sizeOf5]
  go_enter Try.func20, Try.ntmps20
  go_wp2
  go_ret
  exact ⟨rfl, rfl⟩

theorem birth_any (H : Nat) (w : World) : Calls Try.prog 21 #[.pointer (some ⟨H, 0, none⟩)] w fun e w' => e = .returned (.slice (some ⟨H, 1, none⟩) 3 3) ∧ w' = w := by
  have h := fun w => cut15 H 1 4 (by decide) (by decide) w
  simp only [Int.cast_ofNat_Int, Nat.reduceSub] at h
  go_enter Try.func21, Try.ntmps21
  go_wp2
  go_ret
  exact ⟨rfl, rfl⟩

theorem tag_any (H : Nat) (w : World) : Calls Try.prog 22 #[.pointer (some ⟨H, 0, none⟩)] w fun e w' => e = .returned (.slice (some ⟨H, 4, none⟩) 8 8) ∧ w' = w := by
  have h := fun w => cut15 H 4 12 (by decide) (by decide) w
  simp only [Int.cast_ofNat_Int, Nat.reduceSub] at h
  go_enter Try.func22, Try.ntmps22
  go_wp2
  go_ret
  exact ⟨rfl, rfl⟩

theorem rest_any (H : Nat) (w : World) : Calls Try.prog 26 #[.pointer (some ⟨H, 0, none⟩)] w fun e w' => e = .returned (.slice (some ⟨H, 12, none⟩) 3 3) ∧ w' = w := by
  have h := fun w => cut15 H 12 15 (by decide) (by decide) w
  simp only [Int.cast_ofNat_Int, Nat.reduceSub] at h
  go_enter Try.func26, Try.ntmps26
  go_wp2
  go_ret
  exact ⟨rfl, rfl⟩

theorem groupR_any (H g : Nat) (hg : g < 3) (w : World) : Calls Try.prog 17 #[.pointer (some ⟨H, 0, none⟩), nu g] w fun e w' => e = .returned (.slice (some ⟨H, 5 * g, none⟩) 5 5) ∧ w' = w := by
  have hc : g = 0 ∨ g = 1 ∨ g = 2 := by omega
  rcases hc with rfl | rfl | rfl
  · have h := fun w => cut15 H 0 5 (by decide) (by decide) w
    simp only [Int.cast_ofNat_Int, Nat.reduceSub] at h ⊢
    go_enter Try.func17, Try.ntmps17
    go_wp2
    go_ret
    exact ⟨rfl, rfl⟩
  · have h := fun w => cut15 H 5 10 (by decide) (by decide) w
    simp only [Int.cast_ofNat_Int, Nat.reduceSub] at h ⊢
    go_enter Try.func17, Try.ntmps17
    go_wp2
    go_ret
    exact ⟨rfl, rfl⟩
  · have h := fun w => cut15 H 10 15 (by decide) (by decide) w
    simp only [Int.cast_ofNat_Int, Nat.reduceSub] at h ⊢
    go_enter Try.func17, Try.ntmps17
    go_wp2
    go_ret
    exact ⟨rfl, rfl⟩

theorem groupD_any (H g : Nat) (hg : g < 3) (w : World) : Calls Try.prog 18 #[.pointer (some ⟨H, 0, none⟩), nu g] w fun e w' => e = .returned (.slice (some ⟨H, 8 * g, none⟩) 8 8) ∧ w' = w := by
  have hc : g = 0 ∨ g = 1 ∨ g = 2 := by omega
  rcases hc with rfl | rfl | rfl
  · have h := fun w => cut24 H 0 8 (by decide) (by decide) w
    simp only [Int.cast_ofNat_Int, Nat.reduceSub] at h ⊢
    go_enter Try.func18, Try.ntmps18
    go_wp2
    go_ret
    exact ⟨rfl, rfl⟩
  · have h := fun w => cut24 H 8 16 (by decide) (by decide) w
    simp only [Int.cast_ofNat_Int, Nat.reduceSub] at h ⊢
    go_enter Try.func18, Try.ntmps18
    go_wp2
    go_ret
    exact ⟨rfl, rfl⟩
  · have h := fun w => cut24 H 16 24 (by decide) (by decide) w
    simp only [Int.cast_ofNat_Int, Nat.reduceSub] at h ⊢
    go_enter Try.func18, Try.ntmps18
    go_wp2
    go_ret
    exact ⟨rfl, rfl⟩

theorem mayBe_any (s b t : Int) (w : World) : Calls Try.prog 11 #[tok s b t] w fun e w' => e = .returned (.bool (mayB s b)) ∧ Below w.heap.size w w' := by
  have hb : Below w.heap.size w (w.alloc (.cells #[nu s, nu b, u8v t] 24)) := (Below.refl _ _).alloc (Nat.le_refl _) _
  obtain ⟨q, hq⟩ : ∃ q, mayB s b = q := ⟨_, rfl⟩
  have HQ := Hid.mk' hq
  rw [hq]
  unfold mayB at HQ
  clear hq
  by_cases h1 : 0 ≤ s
  · by_cases h2 : s < 32
    · by_cases h3 : 1 ≤ b
      · by_cases h4 : b ≤ 1048576
        · go_enter Try.func11, Try.ntmps11
          go_wp2
          go_ret
          exact ⟨ret_bool (by rw [← HQ.out]; exact (decide_eq_true ⟨h1, h2, h3, h4⟩).symm), hb⟩
        · go_enter Try.func11, Try.ntmps11
          go_wp2
          go_ret
          exact ⟨ret_bool (by rw [← HQ.out]; exact (decide_eq_false (by omega)).symm), hb⟩
      · go_enter Try.func11, Try.ntmps11
        go_wp2
        go_ret
        exact ⟨ret_bool (by rw [← HQ.out]; exact (decide_eq_false (by omega)).symm), hb⟩
    · go_enter Try.func11, Try.ntmps11
      go_wp2
      go_ret
      exact ⟨ret_bool (by rw [← HQ.out]; exact (decide_eq_false (by omega)).symm), hb⟩
  · go_enter Try.func11, Try.ntmps11
    go_wp2
    go_ret
    exact ⟨ret_bool (by rw [← HQ.out]; exact (decide_eq_false (by omega)).symm), hb⟩
end Tk
end Go.Proofs.Ytkkpcngdpnoidaa
