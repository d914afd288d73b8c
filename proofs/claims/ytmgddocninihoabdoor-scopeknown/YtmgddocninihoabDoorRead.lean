/- What a word of a text stands for. -/
import Derived.Test.YtmgddocninihoabDoorLook
import Derived.Test.YtmgddocninihoabDoorShelf
namespace Go.Proofs.YtmgddocninihoabDoor
set_option linter.ambiguousOpen false
open Go.RowKit Go.Maps Nm
namespace Sc
set_option linter.unusedSimpArgs false
set_option linter.unusedVariables false

/-- A word without the star behind it, if it has one. -/
def bare (h : List UInt8) : List UInt8 := Lib.trimSuffix h [46, 42]
def starred (h : List UInt8) : Bool := Lib.hasSuffix h [46, 42]
/-- What a word is, of a book: the set, and the error's number. -/
def readG (l : List (List UInt8)) (h : List UInt8) : Nat × Nat :=
  if h = [42] then (allS l.length, 0)
  else if dottedB (bare h) = false then (0, 4)
  else if (if starred h then belowS l (bare h) else namedS l (bare h)) = 0 then (0, 10)
  else (if starred h then belowS l (bare h) else namedS l (bare h), 0)

theorem bare_len (h : List UInt8) : (bare h).length ≤ h.length := by
  unfold bare Lib.trimSuffix
  split
  · simp
  · exact Nat.le_refl _

theorem allS_lt (n : Nat) (h : n ≤ 64) : allS n < 18446744073709551616 := by
  have : 2 ^ n ≤ 2 ^ 64 := Nat.pow_le_pow_right (by decide) h
  unfold allS
  omega
theorem namedS_lt (l : List (List UInt8)) (p : List UInt8) (h : l.length ≤ 64) : namedS l p < 18446744073709551616 := mask_lt _ _ h
theorem belowS_lt (l : List (List UInt8)) (p : List UInt8) (h : l.length ≤ 64) : belowS l p < 18446744073709551616 := mask_lt _ _ h

theorem readG_lt (l : List (List UInt8)) (h : List UInt8) (h64 : l.length ≤ 64) : (readG l h).1 < 18446744073709551616 := by
  have hx : (if starred h then belowS l (bare h) else namedS l (bare h)) < 18446744073709551616 := by
    split
    · exact belowS_lt _ _ h64
    · exact namedS_lt _ _ h64
  unfold readG
  generalize (if starred h then belowS l (bare h) else namedS l (bare h)) = x at *
  split
  · exact allS_lt _ h64
  · split
    · show 0 < _; decide
    · split
      · show 0 < _; decide
      · exact hx

theorem cutSuffix_l (h : List UInt8) (w : World) (hl : h.length ≤ maxLen) :
    Calls Tryd.prog 30 #[.string (B h), .string ⟨#[46, 42]⟩] w fun e w' => e = .returned (.tuple #[.string (B (bare h)), .bool (starred h)]) ∧ w' = w :=
  Tryd.strings_CutSuffix (B h) ⟨#[46, 42]⟩ w (by unfold maxLen at hl; show h.length ≤ _; omega)

theorem Mp.most {w : World} {pb mb : Nat} {l : List (List UInt8)} (h : Mp w pb mb l) : l.length ≤ 64 := by obtain ⟨_, ⟨D, hD, _⟩, _⟩ := h; exact hD.most

set_option maxRecDepth 100000 in
set_option maxHeartbeats 1000000 in
theorem read_s (pb mb : Nat) (l : List (List UInt8)) (h : List UInt8) (w : World) (hM : Mp w pb mb l) (hl : h.length ≤ maxLen) :
    Calls Tryd.prog 13 #[.pointer (some ⟨pb, 0, none⟩), .string (B h)] w fun e w' => e = .returned (.tuple #[Bt.st (readG l h).1, .int .i64 (readG l h).2]) ∧ Below w.heap.size w w' := by
  have hB := bare_len h
  have HL : Hid (h.length ≤ maxLen) := hl
  have HL2 : Hid ((bare h).length ≤ maxLen) := Nat.le_trans hB hl
  clear hl hB
  have h64 := hM.most
  by_cases h42 : h = [42]
  · subst h42
    have ca := all_s pb mb l w hM
    have e1 : readG l [42] = (allS l.length, 0) := by simp [readG]
    rw [e1]
    have e2 : (B [42]).toList = [42] := by rw [ByteArray.toList_eq]; rfl
    have e3 : (B [42]) = ⟨#[42]⟩ := rfl
    rw [e3]
    go_enter Tryd.func13, Tryd.ntmps13
    go_wp2_with (go_at_call 18; refine ca.mono ?_; rintro e w1 ⟨rfl, rfl⟩)
    go_ret2
    exact ⟨rfl, Below.refl _ _⟩
  · have hne : ((B h).toList == [42]) = false := by
      rw [beq_eq_false_iff_ne, ByteArray.toList_eq]; exact h42
    have cc : Hid (∀ w1, Calls Tryd.prog 30 #[.string (B h), .string ⟨#[46, 42]⟩] w1 fun e w' => e = .returned (.tuple #[.string (B (bare h)), .bool (starred h)]) ∧ w' = w1) := fun w1 => cutSuffix_l h w1 HL.out
    have cd := dotted_l (bare h) w HL2.out
    cases hd : dottedB (bare h) with
    | false =>
      rw [hd] at cd
      have e1 : readG l h = (0, 4) := by simp [readG, h42, hd]
      rw [e1]
      clear h42 e1
      go_enter Tryd.func13, Tryd.ntmps13
      go_wp2_with (first | (go_at_call 30; refine (cc.out _).mono ?_; rintro e w1 ⟨rfl, rfl⟩) | (go_at_call 31; refine cd.mono ?_; rintro e w2 ⟨rfl, hb2⟩))
      go_ret2
      exact ⟨rfl, hb2⟩
    | true =>
      rw [hd] at cd
      have cn : Hid (∀ w1, Mp w1 pb mb l → Calls Tryd.prog 32 #[.pointer (some ⟨pb, 0, none⟩), .string (B (bare h))] w1 fun e w' => e = .returned (Bt.st (namedS l (bare h))) ∧ w' = w1) := fun w1 hm => named_s pb mb l (bare h) w1 hm HL2.out
      have cb : Hid (∀ w1, Mp w1 pb mb l → Calls Tryd.prog 33 #[.pointer (some ⟨pb, 0, none⟩), .string (B (bare h))] w1 fun e w' => e = .returned (Bt.st (belowS l (bare h))) ∧ Below w1.heap.size w1 w') := fun w1 hm => below_s pb mb l (bare h) w1 hm HL2.out
      have e1 : readG l h = if (if starred h then belowS l (bare h) else namedS l (bare h)) = 0 then (0, 10) else (if starred h then belowS l (bare h) else namedS l (bare h), 0) := by simp [readG, h42, hd]
      rw [e1]
      clear h42 e1 hd
      cases hs : starred h with
      | true =>
        rw [hs] at cc
        simp only [if_true]
        generalize hX : belowS l (bare h) = X at *
        clear hs hX
        by_cases hz : X = 0
        · subst hz
          simp only [if_true]
          go_enter Tryd.func13, Tryd.ntmps13
          go_wp2_with (first | (go_at_call 30; refine (cc.out _).mono ?_; rintro e w1 ⟨rfl, rfl⟩) | (go_at_call 31; refine cd.mono ?_; rintro e w2 ⟨rfl, hb2⟩) | (go_at_call 32; refine (cn.out _ (hM.kept hb2)).mono ?_; rintro e w3 ⟨rfl, rfl⟩) | (go_at_call 33; refine (cb.out _ (hM.kept hb2)).mono ?_; rintro e w3 ⟨rfl, hb3⟩))
          go_ret2
          exact ⟨rfl, hb2.trans (hb3.mono hb2.size)⟩
        · have hz2 : ((X : Int) == 0) = false := by rw [beq_eq_false_iff_ne]; omega
          rw [if_neg hz]
          clear hz
          go_enter Tryd.func13, Tryd.ntmps13
          go_wp2_with (first | (go_at_call 30; refine (cc.out _).mono ?_; rintro e w1 ⟨rfl, rfl⟩) | (go_at_call 31; refine cd.mono ?_; rintro e w2 ⟨rfl, hb2⟩) | (go_at_call 32; refine (cn.out _ (hM.kept hb2)).mono ?_; rintro e w3 ⟨rfl, rfl⟩) | (go_at_call 33; refine (cb.out _ (hM.kept hb2)).mono ?_; rintro e w3 ⟨rfl, hb3⟩))
          go_ret2
          exact ⟨rfl, hb2.trans (hb3.mono hb2.size)⟩
      | false =>
        rw [hs] at cc
        simp only [if_false, Bool.false_eq_true]
        generalize hX : namedS l (bare h) = X at *
        clear hs hX
        by_cases hz : X = 0
        · subst hz
          simp only [if_true]
          go_enter Tryd.func13, Tryd.ntmps13
          go_wp2_with (first | (go_at_call 30; refine (cc.out _).mono ?_; rintro e w1 ⟨rfl, rfl⟩) | (go_at_call 31; refine cd.mono ?_; rintro e w2 ⟨rfl, hb2⟩) | (go_at_call 32; refine (cn.out _ (hM.kept hb2)).mono ?_; rintro e w3 ⟨rfl, rfl⟩))
          go_ret2
          exact ⟨rfl, hb2⟩
        · have hz2 : ((X : Int) == 0) = false := by rw [beq_eq_false_iff_ne]; omega
          rw [if_neg hz]
          clear hz
          go_enter Tryd.func13, Tryd.ntmps13
          go_wp2_with (first | (go_at_call 30; refine (cc.out _).mono ?_; rintro e w1 ⟨rfl, rfl⟩) | (go_at_call 31; refine cd.mono ?_; rintro e w2 ⟨rfl, hb2⟩) | (go_at_call 32; refine (cn.out _ (hM.kept hb2)).mono ?_; rintro e w3 ⟨rfl, rfl⟩))
          go_ret2
          exact ⟨rfl, hb2⟩
end Sc
end Go.Proofs.YtmgddocninihoabDoor
