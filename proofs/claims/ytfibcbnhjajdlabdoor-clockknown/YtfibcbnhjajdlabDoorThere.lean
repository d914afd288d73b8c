/- The walks of ClockThere and ClockBack. -/
import Derived.Test.YtfibcbnhjajdlabDoorParseC
import Derived.Test.YtfibcbnhjajdlabDoorPrintC
namespace Go.Proofs.YtfibcbnhjajdlabDoor
set_option linter.ambiguousOpen false
open Go.RowKit Er Nm
namespace Ck
set_option linter.unusedSimpArgs false
set_option linter.unusedVariables false

theorem form61 : formL 61 = [49, 109, 49, 115] := by
  have h1 : Lib.decDigits 1 = [49] := Lib.decDigits_one (by omega)
  simp [formL, fo, re, part, tk, lt', h1]

set_option maxRecDepth 100000 in
theorem works_c (w : World) (hU : Units w) (hP : Pow w) :
    Calls Tryd.prog 7 #[] w fun e w' => e = .returned (.bool true) ∧ Below w.heap.size w w' := by
  have c1 := print_c 61 w (by omega) hU hP
  rw [form61] at c1
  have e1 : B [49, 109, 49, 115] = ⟨#[49, 109, 49, 115]⟩ := rfl
  rw [e1] at c1
  have c2 : Hid (∀ w1, Calls Tryd.prog 8 #[.int .i64 5, .int .i64 3] w1 fun e w' => e = .returned (.tuple #[.int .i64 8, .nilIface]) ∧ w' = w1) := fun w1 => after_yes 5 3 w1 (by decide)
  go_enter Tryd.func7, Tryd.ntmps7
  go_wp2_with fail
  refine c1.mono ?_
  rintro e w1 ⟨rfl, hB⟩
  go_wp2_with (go_at_call 8; refine (c2.out _).mono ?_; rintro e w2 ⟨rfl, hq⟩; subst w2)
  go_ret
  exact ⟨rfl, hB⟩

theorem parse_nil : parseG [] = (0, 4) := by simp [parseG, partsG, be, finP]

set_option maxRecDepth 100000 in
set_option maxHeartbeats 1000000 in
theorem clockThere_walk (n : Int) (w : World) (hn : -9223372036854775808 ≤ n ∧ n ≤ 9223372036854775807) (hU : Units w) (hP : Pow w) :
    Calls Tryd.prog 15 #[.int .i64 n] w fun e w' => e = .returned (.bool true) ∧ Below w.heap.size w w' := by
  have cW : Hid (∀ w1, Below w.heap.size w w1 → Calls Tryd.prog 7 #[] w1 fun e w' => e = .returned (.bool true) ∧ Below w1.heap.size w1 w') := fun w1 h => works_c w1 (hU.below h) (hP.below h)
  by_cases ht : 0 ≤ n ∧ n ≤ 1099511627776
  · obtain ⟨h0, h1⟩ := ht
    obtain ⟨m, rfl⟩ := Int.eq_ofNat_of_zero_le h0
    have c1 := print_c m w (by omega) hU hP
    have cP : Hid (∀ w1, Below w.heap.size w w1 → Calls Tryd.prog 18 #[.string (B (formL m))] w1 fun e w' => e = .returned (.tuple #[.int .i64 m, .nilIface]) ∧ Below w1.heap.size w1 w') := fun w1 h => by
      have := parse_c (formL m) w1 (by
        have h3 := fo_len 4 m (by omega)
        unfold formL
        split
        · decide
        · unfold maxLen; omega) (hU.below h)
      rw [parse_form m (by omega)] at this
      exact this
    clear hU hP
    go_enter Tryd.func15, Tryd.ntmps15
    go_wp2_with fail
    refine c1.mono ?_
    rintro e w1 ⟨rfl, hB1⟩
    go_wp2_with fail
    refine (cW.out _ hB1).mono ?_
    rintro e w2 ⟨rfl, hB⟩
    have hB2 := hB1.trans (hB.mono hB1.size)
    clear hB
    go_wp2_with fail
    refine (cP.out _ hB2).mono ?_
    rintro e w3 ⟨rfl, hB⟩
    have hB3 := hB2.trans (hB.mono hB2.size)
    go_wp2
    go_ret
    exact ⟨rfl, hB3⟩
  · have c1 := print_no n w (timeB_not.2 ht)
    have cP : Hid (∀ w1, Below w.heap.size w w1 → Calls Tryd.prog 18 #[.string ⟨#[]⟩] w1 fun e w' => e = .returned (.tuple #[.int .i64 0, noV 4]) ∧ Below w1.heap.size w1 w') := fun w1 h => by
      have := parse_c [] w1 (by decide) (hU.below h)
      rw [parse_nil] at this
      exact this
    clear hU hP
    unfold noV at c1 cP
    have HT : Hid (¬ (0 ≤ n ∧ n ≤ 1099511627776)) := ht
    clear ht
    by_cases h0 : 0 ≤ n
    · have h1 : ¬ n ≤ 1099511627776 := fun q => HT.out ⟨h0, q⟩
      have h1d : decide (n ≤ 1099511627776) = false := by simpa using h1
      go_enter Tryd.func15, Tryd.ntmps15
      go_wp2_with fail
      refine c1.mono ?_
      rintro e w1 ⟨rfl, hq⟩
      subst w1
      go_wp2_with fail
      refine (cW.out _ (Below.refl _ _)).mono ?_
      rintro e w2 ⟨rfl, hB2⟩
      go_wp2_with fail
      refine (cP.out _ hB2).mono ?_
      rintro e w3 ⟨rfl, hB⟩
      have hB3 := hB2.trans (hB.mono hB2.size)
      go_wp2
      go_ret
      exact ⟨rfl, hB3⟩
    · have h0d : decide (0 ≤ n) = false := by simpa using h0
      go_enter Tryd.func15, Tryd.ntmps15
      go_wp2_with fail
      refine c1.mono ?_
      rintro e w1 ⟨rfl, hq⟩
      subst w1
      go_wp2_with fail
      refine (cW.out _ (Below.refl _ _)).mono ?_
      rintro e w2 ⟨rfl, hB2⟩
      go_wp2_with fail
      refine (cP.out _ hB2).mono ?_
      rintro e w3 ⟨rfl, hB⟩
      have hB3 := hB2.trans (hB.mono hB2.size)
      go_wp2
      go_ret
      exact ⟨rfl, hB3⟩

set_option maxRecDepth 100000 in
set_option maxHeartbeats 1000000 in
theorem clockBack_walk (l : List UInt8) (w : World) (hl : l.length ≤ maxLen) (hU : Units w) (hP : Pow w) :
    Calls Tryd.prog 21 #[.string (B l)] w fun e w' => e = .returned (.bool true) ∧ Below w.heap.size w w' := by
  have cW : Hid (∀ w1, Below w.heap.size w w1 → Calls Tryd.prog 7 #[] w1 fun e w' => e = .returned (.bool true) ∧ Below w1.heap.size w1 w') := fun w1 h => works_c w1 (hU.below h) (hP.below h)
  have c1 := parse_c l w hl hU
  cases hx : parseG l with
  | mk m e0 =>
  rw [hx] at c1
  by_cases he : e0 = 0
  · subst he
    obtain ⟨hf, hm⟩ := form_parse l m hx
    have cP : Hid (∀ w1, Below w.heap.size w w1 → Calls Tryd.prog 13 #[.int .i64 m] w1 fun e w' => e = .returned (.tuple #[.string (B l), .nilIface]) ∧ Below w1.heap.size w1 w') := fun w1 h => by
      have := print_c m w1 hm (hU.below h) (hP.below h)
      rw [hf] at this
      exact this
    have e1 : errC 0 = .nilIface := rfl
    rw [e1] at c1
    clear hU hP hx hf
    go_enter Tryd.func21, Tryd.ntmps21
    go_wp2_with fail
    refine c1.mono ?_
    rintro e w1 ⟨rfl, hB1⟩
    go_wp2_with fail
    refine (cP.out _ hB1).mono ?_
    rintro e w2 ⟨rfl, hB⟩
    have hB2 := hB1.trans (hB.mono hB1.size)
    clear hB
    go_wp2_with fail
    refine (cW.out _ hB2).mono ?_
    rintro e w3 ⟨rfl, hB⟩
    have hB3 := hB2.trans (hB.mono hB2.size)
    go_wp2
    go_ret
    exact ⟨ret_bool (by simp), hB3⟩
  · have hz := parse_zero l (by rw [hx]; exact he)
    rw [hx] at hz
    have hz' : m = 0 := hz
    subst hz'
    have e1 : errC e0 = noV e0 := by unfold errC; rw [if_neg he]
    rw [e1] at c1
    unfold noV at c1
    clear hU hP hx hz
    go_enter Tryd.func21, Tryd.ntmps21
    go_wp2_with fail
    refine c1.mono ?_
    rintro e w1 ⟨rfl, hB1⟩
    simp only [Int.cast_ofNat_Int]
    go_wp2_with fail
    refine (cW.out _ hB1).mono ?_
    rintro e w2 ⟨rfl, hB⟩
    have hB2 := hB1.trans (hB.mono hB1.size)
    go_wp2
    go_ret
    exact ⟨rfl, hB2⟩
end Ck
end Go.Proofs.YtfibcbnhjajdlabDoor
