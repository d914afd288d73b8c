/- The document's answer: worths and digits. -/
import Derived.Test.YtfibcbnhjajdlabDoorNumber
namespace Go.Proofs.YtfibcbnhjajdlabDoor
set_option linter.ambiguousOpen false
open Go.RowKit Er Nm
namespace Ck
set_option linter.unusedSimpArgs false
set_option linter.unusedVariables false

set_option maxRecDepth 100000 in
theorem worth_c (k : Nat) (w : World) (h : k < 4) :
    Calls Tryd.prog 38 #[.int .i64 k] w fun e w' => e = .returned (.int .i64 (tk k : Nat)) ∧ w' = w := by
  obtain rfl | rfl | rfl | rfl : k = 0 ∨ k = 1 ∨ k = 2 ∨ k = 3 := by omega
  all_goals
    simp only [Int.cast_ofNat_Int]
    go_enter Tryd.func38, Tryd.ntmps38
    go_wp2
    go_ret
    exact ⟨rfl, rfl⟩

theorem cat_b (a b : List UInt8) : B a ++ B b = B (a ++ b) := by
  apply ByteArray.ext
  simp [B]

theorem run_conv1 (w : World) (a0 : Int) :
    Sem.run Tryd.prog (convert 42 9 (.slice (some ⟨w.heap.size, 0, none⟩) 1 1)) (w.alloc (.cells #[.int .u8 a0] 5)) =
      .ok (.string (B [UInt8.ofNat a0.toNat])) (w.alloc (.cells #[.int .u8 a0] 5)) := by
  rw [run_convert_bytes_string _ 42 9 5 _ 1 1 Tryd.underlying42 Tryd.underlying5 Tryd.underlying9]
  refine run_bytesToString _ _ 1 1 [a0] ?_
  refine run_loadCells_list (w.alloc (.cells #[.int .u8 a0] 5)) ⟨w.heap.size, 0, none⟩ [.int .u8 a0] ?_
  intro j v h
  match j, h with
  | 0, h => simp at h; subst h; simp [Addr.add]
  | n + 1, h => simp at h

/-- What is left to be told, and what is told. -/
def Told (n0 i m : Nat) (s : List UInt8) : Prop := ((0 < m ∨ i = 0) → Lib.decDigits m ++ s = Lib.decDigits n0) ∧ (m = 0 → 0 < i → s = Lib.decDigits n0) ∧ m < 10 ^ (20 - i)

theorem Told.step {n0 i m : Nat} {s : List UInt8} (h : Told n0 i m s) (hi : i < 20) (hm : 0 < m ∨ i = 0) : Told n0 (i + 1) (m / 10) (UInt8.ofNat (48 + m % 10) :: s) := by
  obtain ⟨h1, h2, h3⟩ := h
  have h4 := h1 hm
  have hp : 10 ^ (20 - i) = 10 ^ (20 - (i + 1)) * 10 := by rw [← Nat.pow_succ]; congr 1; omega
  refine ⟨fun q => ?_, fun q _ => ?_, by rw [hp] at h3; omega⟩
  · rw [dec_big (by omega)] at h4
    rw [← h4]; simp
  · have : m < 10 := by omega
    rw [dec_small this] at h4
    rw [← h4, Nat.mod_eq_of_lt this]; rfl

theorem Told.done {n0 m : Nat} {s : List UInt8} (h : Told n0 20 m s) : m = 0 := by have := h.2.2; simp at this; exact this

set_option maxRecDepth 100000 in
set_option maxHeartbeats 1000000 in
theorem digits_c (n : Nat) (w : World) (hn : n ≤ 1099511627776) :
    Calls Tryd.prog 39 #[.int .i64 n] w fun e w' => e = .returned (.string (B (Lib.decDigits n))) ∧ Below w.heap.size w w' := by
  have hcv := run_conv1
  go_enter Tryd.func39, Tryd.ntmps39
  go_wp2
  go_loopw [0, 3, 4] (fun a b c wr => ∃ (m i : Nat) (s : List UInt8), i ≤ 20 ∧ m ≤ n ∧ a = .int .i64 m ∧ b = .string (B s) ∧ c = .int .i64 i ∧ s.length ≤ i ∧ Hid (Told n i m s) ∧ Below w.heap.size w wr) (fun _ _ c _ => 20 - (intOf c).toNat)
  case atStart => exact ⟨n, 0, [], by omega, by omega, rfl, rfl, rfl, Nat.le_refl _, ⟨fun _ => by simp, fun _ h => by omega, by omega⟩, Below.refl _ _⟩
  case round =>
    obtain ⟨m, i, s, hi, hmn, rfl, rfl, rfl, hsl, HT, hB⟩ := hrel
    by_cases hgo : i < 20 ∧ (i = 0 ∨ 0 < m)
    · obtain ⟨h20, hor⟩ := hgo
      have HN : Hid (Told n (i + 1) (m / 10) (UInt8.ofNat (48 + m % 10) :: s)) := HT.out.step h20 hor.symm
      obtain ⟨d, HD⟩ : ∃ d, Hid (m % 10 = d) := ⟨_, rfl⟩
      obtain ⟨q, HQ⟩ : ∃ q, Hid (m / 10 = q) := ⟨_, rfl⟩
      have hd : (m : Int) % 10 = (d : Int) := by have := HD.out; omega
      have hq : (m : Int) / 10 = (q : Int) := by have := HQ.out; omega
      have hdl : d < 10 := by have := HD.out; omega
      have hql : q ≤ n := by have := HQ.out; omega
      rw [HD.out, HQ.out] at HN
      have z1 : (B [48 + UInt8.ofNat d]).size = 1 := rfl
      have z2 : (B s).size = s.length := rfl
      have HX : Hid (B [48 + UInt8.ofNat d] ++ B s = B (UInt8.ofNat (48 + d) :: s)) := by
        show _ = _
        have e : UInt8.ofNat (48 + d) = 48 + UInt8.ofNat d := by simp
        rw [cat_b, e]; rfl
      by_cases hi0 : i = 0
      · subst hi0
        simp only [Int.cast_ofNat_Int]
        clear hor
        go_wp2
        go_roundw
        case rel => exact ⟨q, 1, UInt8.ofNat (48 + d) :: s, by omega, hql, rfl, by rw [HX.out], rfl, by simp only [List.length_cons]; omega, HN, hB.alloc hB.size _⟩
        case measure => simp [intOf]
      · have hm0 : 0 < m := by omega
        have hib : ((i : Int) == 0) = false := by rw [beq_eq_false_iff_ne]; omega
        clear hor
        go_wp2
        go_roundw
        case rel => exact ⟨q, i + 1, UInt8.ofNat (48 + d) :: s, by omega, hql, rfl, by rw [HX.out], by go_num, by simp only [List.length_cons]; omega, HN, hB.alloc hB.size _⟩
        case measure => simp [intOf]; omega
    · have hm0 : m = 0 := by
        rcases Nat.lt_or_ge i 20 with q | q
        · omega
        · obtain rfl : i = 20 := by omega
          exact HT.out.done
      have hi0 : 0 < i := by omega
      subst hm0
      have HD : Hid (s = Lib.decDigits n) := HT.out.2.1 rfl hi0
      have hib : ((i : Int) == 0) = false := by rw [beq_eq_false_iff_ne]; omega
      simp only [Int.cast_ofNat_Int]
      clear hgo
      by_cases h20 : i < 20
      all_goals
        go_wp2
        go_ret
        rw [HD.out]
        exact ⟨rfl, hB⟩
end Ck
end Go.Proofs.YtfibcbnhjajdlabDoor
