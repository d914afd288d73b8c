import Derived.Test.YteclbmmhidmklaaDoorSoS
/- A row that is sorted: insertion. -/
namespace Go.Proofs.YteclbmmhidmklaaDoor
set_option linter.ambiguousOpen false
open Go.RowKit
namespace Hq
open Hh Ft
set_option linter.unusedSimpArgs false
set_option linter.unusedVariables false
attribute [local go_sem] Oper.semAt_some

set_option maxRecDepth 100000 in
set_option maxHeartbeats 4000000 in
theorem insertion_p {p g c n : Nat} {W : World} {D : List It} (h : Sw p g c n W D) (a b : Nat) (hb : b ≤ n) (hab : a ≤ b) :
    Calls Tryd.prog 67 #[slc g n c, nun a, nun b, cmpV p] W fun e W' => e = .returned (.tuple #[]) ∧ LeftW p g c n a b W W' D (Srt a b) := by
  have hn := h.big
  by_cases hab2 : b ≤ a + 1
  · have h1 : ¬ (a : Int) + 1 < (b : Int) := by omega
    have h2 : ¬ ((a : Int) + 1 < (b : Int)) := h1
    have HE : Hid (LeftW p g c n a b W W D (Srt a b)) := LeftW.refl h (Srt.one a b D hab2)
    clear h
    go_enter Tryd.func67, Tryd.ntmps67
    go_wp2
    go_loopw [8, 9] (fun iv jv wr => iv = .int .i64 ((a : Int) + 1) ∧ Hid (wr = W)) (fun _ _ _ => 0)
    case atStart => exact ⟨rfl, rfl⟩
    case round =>
      obtain ⟨rfl, HW⟩ := hrel
      have hw := HW.out
      subst hw
      go_wp2
      go_end0
      exact ⟨rfl, HE.out⟩
  · have hcap := (h.cap (by omega)).2
    have HS : Hid (LeftW p g c n a b W W D (Srt a (a + 1))) := LeftW.refl h (Srt.one _ _ _ (Nat.le_refl _))
    clear h
    go_enter Tryd.func67, Tryd.ntmps67
    go_wp2
    go_loopw [8, 9] (fun iv jv wr => ∃ i : Nat, iv = nun i ∧ a + 1 ≤ i ∧ i ≤ b ∧ Hid (LeftW p g c n a b W wr D (Srt a i))) (fun iv _ _ => b - (intOf iv).toNat)
    case atStart => exact ⟨a + 1, by go_num, Nat.le_refl _, by omega, HS⟩
    case round =>
      clear HS
      obtain ⟨i, rfl, hi1, hi2, HL⟩ := hrel
      by_cases hib : i < b
      · have hiI : (i : Int) < (b : Int) := by omega
        have HI : Hid (LeftW p g c n a b W wr D (Ins a i i)) := by
          obtain ⟨E, e1, e2, e3, e4⟩ := HL.out
          exact ⟨E, e1, e2, e3, Ins.start e4⟩
        clear HL
        rename World => w1
        go_wp2
        go_loopw [9] (fun jv wr => ∃ j : Nat, jv = nun j ∧ a ≤ j ∧ j ≤ i ∧ Hid (LeftW p g c n a b W wr D (Ins a i j))) (fun jv _ => (intOf jv).toNat)
        case atStart => exact ⟨i, rfl, by omega, Nat.le_refl _, HI⟩
        case round =>
          clear HI
          obtain ⟨j, rfl, hj1, hj2, HL⟩ := hrel
          obtain ⟨E, e1, e2, e3, e4⟩ := HL.out
          by_cases hja : a < j
          · have hjI : (j : Int) > (a : Int) := by omega
            have hjI2 : (a : Int) < (j : Int) := by omega
            obtain ⟨q, hq⟩ : ∃ q, j = q + 1 := ⟨j - 1, by omega⟩
            obtain ⟨x, hx⟩ : ∃ x, atD E j = x := ⟨_, rfl⟩
            obtain ⟨y, hy⟩ : ∃ y, atD E q = y := ⟨_, rfl⟩
            have hj0 : (0 : Int) ≤ (j : Int) := by omega
            have hjn : (j : Int) < (n : Int) := by omega
            have hq0 : (0 : Int) ≤ (q : Int) := by omega
            have hqn : (q : Int) < (n : Int) := by omega
            have hlE : E.length = n := e1.len
            have h4' := e4
            rw [hq] at h4'
            obtain ⟨⟨⟨c0, c1, c2, c3⟩, hsd⟩, r, HR, HC⟩ := e1.cmp (i := j) (j := q) (by omega) (by omega) hx hy
            obtain ⟨s, hs⟩ : ∃ s, ahd x y = s := ⟨_, rfl⟩
            rw [hs] at HR
            have HSD := Hid.mk' hsd
            have hin : i < E.length := by omega
            have hwk : IntKind.i64.wrap ((j : Int) - 1) = (q : Int) := by rw [wrap_i64] <;> omega
            cases s with
            | true =>
              have hgq : ahd (atD E (q + 1)) (atD E q) = true := by rw [← hq, hx, hy]; exact hs
              have HSW : Hid (∀ w5, Below wr.heap.size wr w5 → Sw p g c n w5 E ∧ Keep (fun k => k = g) W w5 ∧ ∀ w6, Sw p g c n w6 (swp E j q) → Keep (fun k => k = g) w5 w6 → LeftW p g c n a b W w6 D (Ins a i q)) := fun w5 hb5 => ⟨e1.below hb5, keep_below e2 hb5, fun w6 s6 k6 => ⟨_, s6, keep_keep (keep_below e2 hb5) k6, e3.trans (Pm.swp E (by omega) (by omega) (by omega) (by omega) (by omega)), by rw [hq]; exact h4'.step (by omega) (by omega) hin hgq⟩⟩
              have HX := Hid.mk' hx
              have HY := Hid.mk' hy
              have hrd : decide (r < 0) = true := HR.out
              have HQ := Hid.mk' hq
              have HJ : Hid (a ≤ q ∧ q < j ∧ j < n ∧ q ≤ i) := by
                refine ⟨?_, ?_, ?_, ?_⟩ <;> omega
              clear e1 e2 e3 e4 h4' hx hy hsd HL hq hs hgq hlE hin
              obtain ⟨xi, xk⟩ := x
              obtain ⟨yi, yk⟩ := y
              dsimp only at c0 c1 c2 c3 HC HSD
              go_wp2_with fail
              go_region_held3 (fun w' => w'.cell? ⟨g, j * 2, none⟩ = some (nu xi) ∧ w'.cell? ⟨g, j * 2 + 1, none⟩ = some (nu xk) ∧ w'.cell? ⟨g, q * 2, none⟩ = some (nu yi) ∧ w'.cell? ⟨g, q * 2 + 1, none⟩ = some (nu yk)) (first | assumption | exact HSD.out | exact hs5 | fail) (first | (go_at_call 50; with_reducible refine HC.out.mono ?_; rintro e w5 ⟨rfl, hs5, HB5⟩) | fail)
              obtain ⟨s5, k5, t5⟩ := HSW.out w5 HB5.out
              have T5 := Hid.mk' t5
              obtain ⟨⟨b0, b1, b2, b3⟩, ⟨f0, f1, f2, f3⟩, ⟨z0, hz0⟩, ⟨z1, hz1⟩, w6, hw6, HW6⟩ := s5.swap (i := j) (j := q) (by have := HJ.out; omega) (by have := HJ.out; omega) HX.out HY.out
              dsimp only at b0 b1 b2 b3 hz0 hz1 hw6
              have HL6 : Hid (LeftW p g c n a b W w6 D (Ins a i q)) := T5.out w6 HW6.out.1 HW6.out.2
              have HE6 := Hid.mk' hw6
              clear s5 k5 t5 T5 HSW c0 c1 c2 c3 hs5 HB5 HC HSD hw6 HW6
              go_upto_region 6 with fail
              go_region
              rw [HE6.out]
              clear b0 b1 b2 b3 f0 f1 f2 f3 hz0 hz1
              have hjq : (j : Int) - 1 = (q : Int) := by have := HQ.out; omega
              clear hwk
              go_wp2
              go_roundw
              case rel => exact ⟨q, by simp, HJ.out.1, HJ.out.2.2.2, HL6⟩
              case measure => have := HJ.out; simp [intOf]; omega
            | false =>
              have HST : Hid (∀ w5, Below wr.heap.size wr w5 → LeftW p g c n a b W w5 D (Srt a (i + 1))) := fun w5 hb5 => ⟨E, e1.below hb5, keep_below e2 hb5, e3, e4.stop e1.unl hin hj2 (.inr (by rw [show j - 1 = q by omega, hx, hy]; exact hs))⟩
              have hrd : decide (r < 0) = false := HR.out
              clear e1 e2 e3 e4 h4' hx hy hsd HL hq hs hlE hin
              obtain ⟨xi, xk⟩ := x
              obtain ⟨yi, yk⟩ := y
              dsimp only at c0 c1 c2 c3 HC HSD
              go_wp2_with fail
              go_region_held3 (fun w' => w'.cell? ⟨g, j * 2, none⟩ = some (nu xi) ∧ w'.cell? ⟨g, j * 2 + 1, none⟩ = some (nu xk) ∧ w'.cell? ⟨g, q * 2, none⟩ = some (nu yi) ∧ w'.cell? ⟨g, q * 2 + 1, none⟩ = some (nu yk)) (first | assumption | exact HSD.out | exact hs5 | fail) (first | (go_at_call 50; with_reducible refine HC.out.mono ?_; rintro e w5 ⟨rfl, hs5, HB5⟩) | fail)
              have HL5 := Hid.mk' (HST.out w5 HB5.out)
              clear c0 c1 c2 c3 hs5 HB5 HC HSD HST hwk
              go_wp2
              go_roundw
              case rel => exact ⟨i + 1, by go_num, by omega, by omega, HL5⟩
              case measure => simp [intOf]; omega
          · have hjI : ¬ (j : Int) > (a : Int) := by omega
            have hjI2 : ¬ (a : Int) < (j : Int) := by omega
            have HST : Hid (∀ k, LeftW p g c n a b W (wr.drewN k) D (Srt a (i + 1))) := fun k => by
              have hb5 : Below wr.heap.size wr (wr.drewN k) := ⟨rfl, rfl, rfl, Nat.le_refl _, fun _ _ => rfl⟩
              exact ⟨E, e1.below hb5, keep_below e2 hb5, e3, e4.stop e1.unl (by rw [e1.len]; omega) hj2 (.inl (by omega))⟩
            clear e1 e2 e3 e4 HL
            go_wp2_with fail
            go_quiet (fail)
            go_wp2
            go_roundw
            case rel => exact ⟨i + 1, by go_num, by omega, by omega, HST.out _⟩
            case measure => simp [intOf]; omega
      · have hiI : ¬ (i : Int) < (b : Int) := by omega
        obtain rfl : i = b := by omega
        go_wp2
        go_end0
        exact ⟨rfl, HL.out⟩
end Hq
end Go.Proofs.YteclbmmhidmklaaDoor
