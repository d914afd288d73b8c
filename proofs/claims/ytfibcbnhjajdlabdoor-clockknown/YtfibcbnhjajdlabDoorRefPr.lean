/- The document's answer: Print; and the walk of ClockPrints. -/
import Derived.Test.YtfibcbnhjajdlabDoorRefD
import Derived.Test.YtfibcbnhjajdlabDoorPrintC
import Derived.Test.YtfibcbnhjajdlabDoorTwo
import Derived.Deep.RegionHeld3
namespace Go.Proofs.YtfibcbnhjajdlabDoor
set_option linter.ambiguousOpen false
open Go.RowKit Er Nm
namespace Ck
set_option linter.unusedSimpArgs false
set_option linter.unusedVariables false

set_option maxRecDepth 100000 in
theorem rprint_no (n : Int) (w : World) (h : timeB n = false) :
    Calls Tryd.prog 27 #[.int .i64 n] w fun e w' => e = .returned (.tuple #[.string ⟨#[]⟩, .int .i64 12]) ∧ w' = w := by
  have c := time_any
  go_enter Tryd.func27, Tryd.ntmps27
  go_wp2_with (go_at_call 37; refine (c _ _).mono ?_; rintro e w1 ⟨rfl, rfl⟩)
  go_ret2
  exact ⟨rfl, rfl⟩

theorem letter_at (k : Nat) (h : k < 4) : (⟨#[100, 104, 109, 115]⟩ : ByteArray).extract k (k + 1) = B [lt' k] := by
  obtain rfl | rfl | rfl | rfl : k = 0 ∨ k = 1 ∨ k = 2 ∨ k = 3 := by omega
  all_goals decide

theorem slice_letter (k : Nat) (h : k < 4) (w : World) : (Instr.slice 9 (.string ⟨#[100, 104, 109, 115]⟩) (some (.int .i64 (k : Int))) (some (.int .i64 ((k : Int) + 1))) none).run Tryd.prog w = .ok (.string (B [lt' k])) w := by
  have z4 : (⟨#[100, 104, 109, 115]⟩ : ByteArray).size = 4 := rfl
  rw [run_slice_string_if w 9 _ .i64 .i64 _ _ Tryd.underlying9, if_pos ⟨by omega, by rw [z4]; omega⟩, if_pos ⟨by omega, by omega⟩]
  rw [show ((k : Int)).toNat = k by omega, show ((k : Int) + 1).toNat = k + 1 by omega, letter_at k h]

set_option maxRecDepth 100000 in
set_option maxHeartbeats 2000000 in
theorem rprint_c (n : Nat) (w : World) (hn : n ≤ 1099511627776) :
    Calls Tryd.prog 27 #[.int .i64 n] w fun e w' => e = .returned (.tuple #[.string (B (formL n)), .int .i64 0]) ∧ Below w.heap.size w w' := by
  have ct := time_any (n : Int)
  have tb : timeB (n : Int) = true := timeB_iff.2 (by omega)
  rw [tb] at ct
  clear tb
  by_cases h0 : n = 0
  · subst h0
    rw [form_zero]
    have e : B [48, 115] = ⟨#[48, 115]⟩ := rfl
    rw [e]
    simp only [Int.cast_ofNat_Int] at ct ⊢
    go_enter Tryd.func27, Tryd.ntmps27
    go_wp2_with (go_at_call 37; refine (ct _).mono ?_; rintro e w1 ⟨rfl, hq⟩; subst w1)
    go_ret2
    exact ⟨rfl, Below.refl _ _⟩
  have hnb : ((n : Int) == 0) = false := by rw [beq_eq_false_iff_ne]; omega
  rw [form_pos h0]
  clear h0
  have cW : Hid (∀ (k : Nat) (w1 : World), k < 4 → Calls Tryd.prog 38 #[.int .i64 k] w1 fun e w' => e = .returned (.int .i64 (tk k : Nat)) ∧ w' = w1) := fun k w1 h => worth_c k w1 h
  have cD : Hid (∀ (m : Nat) (w1 : World), m ≤ 1099511627776 → Calls Tryd.prog 39 #[.int .i64 m] w1 fun e w' => e = .returned (.string (B (Lib.decDigits m))) ∧ Below w1.heap.size w1 w') := fun m w1 h => digits_c m w1 h
  go_enter Tryd.func27, Tryd.ntmps27
  go_wp2_with (go_at_call 37; refine (ct _).mono ?_; rintro e w1 ⟨rfl, hq⟩; subst w1)
  go_loopw [0, 4, 5] (fun a b c wr => ∃ k : Nat, k ≤ 4 ∧ a = .int .i64 (re k n : Nat) ∧ b = .string (B (fo k n)) ∧ c = .int .i64 k ∧ Below w.heap.size w wr) (fun _ _ c _ => 4 - (intOf c).toNat)
  case atStart => exact ⟨0, by omega, rfl, rfl, rfl, Below.refl _ _⟩
  case round =>
    obtain ⟨k, hk, rfl, rfl, rfl, hB⟩ := hrel
    have hm := Nat.le_trans (re_le k n) hn
    have hfl := fo_len k n hn
    by_cases hlt : k < 4
    · obtain ⟨m, HM⟩ : ∃ m, Hid (re k n = m) := ⟨_, rfl⟩
      obtain ⟨f, HF0⟩ : ∃ f, Hid (fo k n = f) := ⟨_, rfl⟩
      obtain ⟨t, HT⟩ : ∃ t, Hid (tk k = t) := ⟨_, rfl⟩
      have htp := tk_pos k
      rw [HM.out] at hm ⊢
      rw [HF0.out] at hfl ⊢
      rw [HT.out] at htp
      obtain ⟨q, HQ⟩ : ∃ q : Nat, Hid (m / t = q) := ⟨_, rfl⟩
      obtain ⟨r, HR⟩ : ∃ r : Nat, Hid (m % t = r) := ⟨_, rfl⟩
      have hq : (m : Int) / (t : Int) = (q : Int) := by rw [← HQ.out]; exact (Int.natCast_ediv m t).symm
      have hr : (m : Int) % (t : Int) = (r : Int) := by rw [← HR.out]; exact (Int.natCast_emod m t).symm
      have hql : q ≤ 1099511627776 := by have := HQ.out; have := Nat.div_le_self m t; omega
      have HF : Hid (fo (k + 1) n = f ++ part k q) := by
        show fo k n ++ part k (re k n / tk k) = _
        rw [HM.out, HF0.out, HT.out, HQ.out]
      have HE : Hid (re (k + 1) n = r) := by
        show re k n % tk k = r
        rw [HM.out, HT.out, HR.out]
      have cw : Hid (∀ (w1 : World), Calls Tryd.prog 38 #[.int .i64 k] w1 fun e w' => e = .returned (.int .i64 (t : Nat)) ∧ w' = w1) := fun w1 => by rw [← HT.out]; exact cW.out k w1 hlt
      have ht0 : ((t : Int) == 0) = false := by rw [beq_eq_false_iff_ne]; omega
      by_cases hz : q = 0
      · subst hz
        have hF2 : Hid (f = fo (k + 1) n) := by show _ = _; rw [HF.out]; simp [part]
        go_wp2_with (go_at_call 38; refine (cw.out _).mono ?_; rintro e w1 ⟨rfl, hq1⟩; subst w1)
        go_roundw
        case rel => exact ⟨k + 1, by omega, by rw [HE.out, hr], by rw [← hF2.out], by go_num, hB⟩
        case measure => simp [intOf]; omega
      · have hpos : 0 < q := by omega
        have HF2 : Hid (fo (k + 1) n = (f ++ Lib.decDigits q) ++ [lt' k]) := by
          show _ = _
          rw [HF.out]; simp [part, hz]
        have hdl := dec_len q hql
        have z1 : (B f).size = f.length := rfl
        have z2 : (B (Lib.decDigits q)).size = (Lib.decDigits q).length := rfl
        have z3 : (B f ++ B (Lib.decDigits q)).size = f.length + (Lib.decDigits q).length := by rw [cat_b]; simp [B_size]
        have z5 : (B [lt' k]).size = 1 := rfl
        have HX : Hid (B f ++ B (Lib.decDigits q) ++ B [lt' k] = B (fo (k + 1) n)) := by
          show _ = _
          rw [cat_b, cat_b, HF2.out]
        have cd : Hid (∀ w1, Calls Tryd.prog 39 #[.int .i64 q] w1 fun e w' => e = .returned (.string (B (Lib.decDigits q))) ∧ Below w1.heap.size w1 w') := fun w1 => cD.out q w1 hql
        have hx := letter_at k hlt
        have z4 : (⟨#[100, 104, 109, 115]⟩ : ByteArray).size = 4 := rfl
        have hj1 : (0 : Int) ≤ (k : Int) + 1 := by omega
        have hj2 : (k : Int) + 1 ≤ 4 := by omega
        have hj3 : (k : Int) ≤ (k : Int) + 1 := by omega
        have hj4 : ((k : Int) + 1).toNat = k + 1 := by omega
        have hwr : IntKind.i64.wrap ((k : Int) + 1) = (k : Int) + 1 := by rw [IntKind.wrap_i64]; omega
        have hf84 : f.length ≤ 84 := by omega
        have hc1 : ¬ 9223372036854775807 < f.length + (Lib.decDigits q).length := by omega
        have hc2 : ¬ 9223372036854775807 < f.length + (Lib.decDigits q).length + 1 := by omega
        go_wp2_with (go_at_call 38; refine (cw.out _).mono ?_; rintro e w1 ⟨rfl, hq1⟩; subst w1)
        go_region_held3 (fun w' => Below w.heap.size w w') (first | assumption | exact hB.drew) (first | (go_at_call 39; refine (cd.out _).mono ?_; rintro e w2 ⟨rfl, hq2⟩; have hS2 : Below w.heap.size w w2 := hB.drew.trans (hq2.mono hB.drew.size)))
        go_wp2
        go_roundw
        case rel => exact ⟨k + 1, by omega, by rw [HE.out], by rw [HX.out], by go_num, hS2⟩
        case measure => simp [intOf]; omega
    · obtain rfl : k = 4 := by omega
      simp only [Int.cast_ofNat_Int]
      go_wp2
      go_ret2
      exact ⟨rfl, hB⟩

set_option maxRecDepth 100000 in
set_option maxHeartbeats 1000000 in
theorem clockPrints_walk (n : Int) (w : World) (hn : -9223372036854775808 ≤ n ∧ n ≤ 9223372036854775807) (hE : Handle w) (hU : Units w) (hP : Pow w) :
    Calls Tryd.prog 14 #[.int .i64 n] w fun e w' => e = .returned (.bool true) ∧ Below w.heap.size w w' := by
  by_cases ht : 0 ≤ n ∧ n ≤ 1099511627776
  · obtain ⟨h0, h1⟩ := ht
    obtain ⟨m, rfl⟩ := Int.eq_ofNat_of_zero_le h0
    have c1 := print_c m w (by omega) hU hP
    have c2 : Hid (∀ w1, Calls Tryd.prog 27 #[.int .i64 m] w1 fun e w' => e = .returned (.tuple #[.string (B (formL m)), .int .i64 0]) ∧ Below w1.heap.size w1 w') := fun w1 => rprint_c m w1 (by omega)
    have c3 : Hid (∀ w1, Calls Tryd.prog 19 #[.nilIface, .int .i64 0] w1 fun e w' => e = .returned (.bool true) ∧ Below w1.heap.size w1 w') := fun w1 => plain_ok w1
    clear hU hP
    go_enter Tryd.func14, Tryd.ntmps14
    go_wp2_with fail
    refine c1.mono ?_
    rintro e w1 ⟨rfl, hB1⟩
    go_wp2_with fail
    refine (c2.out _).mono ?_
    rintro e w2 ⟨rfl, hB⟩
    have hB2 := hB1.trans (hB.mono hB1.size)
    clear hB
    go_wp2_with fail
    refine (c3.out _).mono ?_
    rintro e w3 ⟨rfl, hB⟩
    have hB3 := hB2.trans (hB.mono hB2.size)
    go_wp2
    go_ret
    exact ⟨ret_bool (by simp), hB3⟩
  · have c1 := print_no n w (timeB_not.2 ht)
    have c2 := rprint_no n w (timeB_not.2 ht)
    have c3 := plain_same 12 12 rfl (by omega) (by omega) w hE
    unfold noV at c1 c3
    clear hU hP ht
    go_enter Tryd.func14, Tryd.ntmps14
    go_wp2_with fail
    refine c1.mono ?_
    rintro e w1 ⟨rfl, hq⟩
    subst w1
    go_wp2_with fail
    refine c2.mono ?_
    rintro e w2 ⟨rfl, hq⟩
    subst w2
    go_wp2_with fail
    refine c3.mono ?_
    rintro e w3 ⟨rfl, hB3⟩
    go_wp2
    go_ret
    exact ⟨rfl, hB3⟩
end Ck
end Go.Proofs.YtfibcbnhjajdlabDoor
