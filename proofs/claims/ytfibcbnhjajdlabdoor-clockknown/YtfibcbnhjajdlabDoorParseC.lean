/- Parse of a duration. -/
import Derived.Test.YtfibcbnhjajdlabDoorPartsC
namespace Go.Proofs.YtfibcbnhjajdlabDoor
set_option linter.ambiguousOpen false
open Go.RowKit Er Nm
namespace Ck
set_option linter.unusedSimpArgs false
set_option linter.unusedVariables false

/-- An error's number, as an error. -/
def errC (n : Nat) : Value := if n = 0 then .nilIface else noV n

theorem partsG_most (M : Nat) (hM : ∀ r k, numN r * tk k ≤ M) : ∀ (j k t : Nat) (r : List UInt8), (partsG j k t r).1 ≤ t + j * M := by
  intro j
  induction j with
  | zero => intro k t r; rw [partsG, Nat.zero_mul]; exact Nat.le_refl _
  | succ j ih =>
    intro k t r
    have hs : (j + 1) * M = j * M + M := Nat.succ_mul j M
    rw [hs]
    unfold partsG
    split
    · exact Nat.le_add_right _ _
    · split
      · have := ih (k + 1) t r
        generalize j * M = q at *
        omega
      · split
        · exact Nat.le_add_right _ _
        · have h1 := ih (k + 1) (t + numN r * tk k) (be r).tail
          have h2 := hM r k
          generalize j * M = q at *
          generalize numN r * tk k = z at *
          omega

theorem partsG_le (l : List UInt8) : (partsG 4 0 0 l).1 ≤ 379991218559731200 := by
  have := partsG_most 94997804639932800 num_tk 4 0 0 l
  omega

set_option maxRecDepth 100000 in
set_option maxHeartbeats 2000000 in
theorem parse_c (l : List UInt8) (w : World) (hl : l.length ≤ maxLen) (hU : Units w) :
    Calls Tryd.prog 18 #[.string (B l)] w fun e w' => e = .returned (.tuple #[.int .i64 (parseG l).1, errC (parseG l).2]) ∧ Below w.heap.size w w' := by
  by_cases h0 : l = [48, 115]
  · subst h0
    have e1 : parseG [48, 115] = (0, 0) := rfl
    have e2 : B [48, 115] = ⟨#[48, 115]⟩ := rfl
    rw [e1, e2]
    go_enter Tryd.func18, Tryd.ntmps18
    go_wp2
    go_ret2
    exact ⟨rfl, Below.refl _ _⟩
  have hne : ((B l).toList == [48, 115]) = false := by rw [beq_eq_false_iff_ne, ByteArray.toList_eq]; exact h0
  have cp := parts_c l w hl hU
  have ht := isTime_any
  have hle := partsG_le l
  have HG : Hid (parseG l = finP (partsG 4 0 0 l)) := by
    show _ = _
    unfold parseG; rw [if_neg h0]
  clear h0 hl
  generalize partsG 4 0 0 l = x at *
  obtain ⟨t, r⟩ := x
  simp only at cp hle
  by_cases hz : t = 0
  · subst hz
    have e1 : finP (0, r) = (0, 4) := by simp [finP]
    rw [HG.out, e1]
    unfold errC noV
    rw [if_neg (by omega)]
    go_enter Tryd.func18, Tryd.ntmps18
    go_wp2_with fail
    refine cp.mono ?_
    rintro e w1 ⟨rfl, hB⟩
    simp only [Int.cast_ofNat_Int]
    go_wp2
    go_ret2
    exact ⟨rfl, hB⟩
  have hzb : ((t : Int) == 0) = false := by rw [beq_eq_false_iff_ne]; omega
  by_cases hr : r = []
  · subst hr
    have e0 : B [] = ⟨#[]⟩ := rfl
    rw [e0] at cp
    by_cases hb : 1099511627776 < t
    · have e1 : finP (t, []) = (0, 12) := by simp [finP, hz, hb]
      have tb : timeB (t : Int) = false := timeB_not.2 (by omega)
      rw [HG.out, e1]
      unfold errC noV
      rw [if_neg (by omega)]
      go_enter Tryd.func18, Tryd.ntmps18
      go_wp2_with fail
      refine cp.mono ?_
      rintro e w1 ⟨rfl, hB⟩
      go_wp2_with (go_at_call 12; refine (ht _ _).mono ?_; rintro e w2 ⟨rfl, rfl⟩)
      go_ret2
      exact ⟨rfl, hB⟩
    · have e1 : finP (t, []) = (t, 0) := by simp [finP, hz, hb]
      have tb : timeB (t : Int) = true := timeB_iff.2 (by omega)
      rw [HG.out, e1]
      unfold errC
      rw [if_pos rfl]
      go_enter Tryd.func18, Tryd.ntmps18
      go_wp2_with fail
      refine cp.mono ?_
      rintro e w1 ⟨rfl, hB⟩
      go_wp2_with (go_at_call 12; refine (ht _ _).mono ?_; rintro e w2 ⟨rfl, rfl⟩)
      go_ret2
      exact ⟨rfl, hB⟩
  · have hrn : ((B r).toList == ([] : List UInt8)) = false := by rw [beq_eq_false_iff_ne, ByteArray.toList_eq]; exact hr
    have e1 : finP (t, r) = (0, 4) := finP_bad hr
    rw [HG.out, e1]
    unfold errC noV
    rw [if_neg (by omega)]
    go_enter Tryd.func18, Tryd.ntmps18
    go_wp2_with fail
    refine cp.mono ?_
    rintro e w1 ⟨rfl, hB⟩
    go_wp2
    go_ret2
    exact ⟨rfl, hB⟩
end Ck
end Go.Proofs.YtfibcbnhjajdlabDoor
