import Derived.Test.YteclbmmhidmklaaDoorSoS
import Derived.BigQuiet
import Derived.Deep.CutBlock
/- A row that is sorted: nearly in its order? -/
namespace Go.Proofs.YteclbmmhidmklaaDoor
set_option linter.ambiguousOpen false
open Go.RowKit
namespace Hq
open Hh Ft
set_option linter.unusedSimpArgs false
set_option linter.unusedVariables false
attribute [local go_sem] Oper.semAt_some

theorem Srt.snoc {a q : Nat} {D : List It} (h : Srt a (q + 1) D) (hu : Unl D) (hq : a ≤ q) (hl : q + 1 < D.length) (hg : ahd (atD D (q + 1)) (atD D q) = false) : Srt a (q + 1 + 1) D := by
  intro i j h1 h2 h3
  by_cases e : j = q + 1
  · have h4 : ahd (atD D q) (atD D (q + 1)) = true := ahd_total (hu.ne (by omega) (by omega) (by omega)) (by rw [hg]; simp)
    rw [e]
    by_cases e2 : i = q
    · rw [e2]
      exact h4
    · exact ahd_trans (h i q h1 (by omega) (by omega)) h4
  · exact h i j h1 h2 (by omega)

theorem Srt.swp_out {a i x y : Nat} {D : List It} (h : Srt a i D) (hx : i ≤ x) (hy : i ≤ y) (hxl : x < D.length) (hyl : y < D.length) : Srt a i (swp D x y) := by
  intro u v h1 h2 h3
  rw [swp_at D x y _ hxl hyl, swp_at D x y _ hxl hyl, if_neg (by omega), if_neg (by omega), if_neg (by omega), if_neg (by omega)]
  exact h u v h1 h2 h3

theorem Srt.less {a i j : Nat} {D : List It} (h : Srt a i D) (hj : j ≤ i) : Srt a j D := fun u v h1 h2 h3 => h u v h1 h2 (by omega)

def PartP (p g c n a b : Nat) (W W' : World) (D : List It) (e : Ending) : Prop := ∃ o : Bool, e = .returned (.bool o) ∧ LeftW p g c n a b W W' D (fun E => o = true → Srt a b E)

set_option maxRecDepth 100000 in
set_option maxHeartbeats 8000000 in
theorem partial_p {p g c n : Nat} {W : World} {D : List It} (h : Sw p g c n W D) (a b : Nat) (hb : b ≤ n) (hab : a + 12 < b) (hbf : Bef a b D) :
    Calls Tryd.prog 72 #[slc g n c, nun a, nun b, cmpV p] W fun e W' => PartP p g c n a b W W' D e := by
  have hn := h.big
  have hcap := (h.cap (by omega)).2
  have HBF := Hid.mk' hbf
  have HS0 : Hid (LeftW p g c n a b W W D (Srt a (a + 1))) := LeftW.refl h (Srt.one _ _ _ (Nat.le_refl _))
  clear h hbf
  go_enter Tryd.func72, Tryd.ntmps72
  go_wp2_with fail
  go_loopw [9, 10, 11, 12] (fun iv tv jv kv wr => ∃ i t : Nat, iv = nun i ∧ tv = nun t ∧ t ≤ 5 ∧ a + 1 ≤ i ∧ i ≤ b ∧ Hid (LeftW p g c n a b W wr D (Srt a i))) (fun _ tv _ _ _ => 5 - (intOf tv).toNat)
  case atStart => exact ⟨a + 1, 0, by go_num, rfl, by omega, Nat.le_refl _, by omega, HS0⟩
  case round =>
    clear HS0
    obtain ⟨i, t, rfl, rfl, ht, hi1, hi2, HS⟩ := hrel
    by_cases ht5 : t < 5
    · have htI : (t : Int) < 5 := by omega
      rename World => w9
      go_upto_block 2 with fail
      go_cut [9] from 19 to 38 (fun iv wr => ∃ i : Nat, iv = nun i ∧ a + 1 ≤ i ∧ i ≤ b ∧ Hid (LeftW p g c n a b W wr D (Srt a i)))
      case first =>
        go_wp2_with fail
        go_loopw [9] (fun iv wr => ∃ i : Nat, iv = nun i ∧ a + 1 ≤ i ∧ i ≤ b ∧ Hid (LeftW p g c n a b W wr D (Srt a i))) (fun iv _ => b - (intOf iv).toNat)
        case atStart => exact ⟨i, rfl, hi1, hi2, HS⟩
        case round =>
          clear HS hi1 hi2
          obtain ⟨i, rfl, hi1, hi2, HL⟩ := hrel
          obtain ⟨E, e1, e2, e3, e4⟩ := HL.out
          by_cases hib : i < b
          · have hibI : (i : Int) < (b : Int) := by omega
            obtain ⟨q, hq⟩ : ∃ q, q + 1 = i := ⟨i - 1, by omega⟩
            have hin : (i : Int) < (n : Int) := by omega
            have hi0 : (0 : Int) ≤ (i : Int) := by omega
            have hqn : (q : Int) < (n : Int) := by omega
            have hq0 : (0 : Int) ≤ (q : Int) := by omega
            have hwk : IntKind.i64.wrap ((i : Int) - 1) = (q : Int) := by rw [wrap_i64] <;> omega
            have hlE : E.length = n := e1.len
            obtain ⟨x, hx⟩ : ∃ x, atD E i = x := ⟨_, rfl⟩
            obtain ⟨y, hy⟩ : ∃ y, atD E q = y := ⟨_, rfl⟩
            obtain ⟨⟨⟨c0, c1, c2, c3⟩, hsd⟩, r, HR, HC⟩ := e1.cmp (i := i) (j := q) (by omega) (by omega) hx hy
            obtain ⟨s, hs⟩ : ∃ s, ahd x y = s := ⟨_, rfl⟩
            rw [hs] at HR
            have HSD := Hid.mk' hsd
            have hgs : ahd (atD E i) (atD E q) = s := by rw [hx, hy]; exact hs
            cases s with
            | false =>
              have HST : Hid (∀ w5, Below wr.heap.size wr w5 → LeftW p g c n a b W w5 D (Srt a (i + 1))) := fun w5 hb5 => ⟨E, e1.below hb5, keep_below e2 hb5, e3, by rw [← hq] at e4 hgs ⊢; exact e4.snoc e1.unl (by omega) (by omega) hgs⟩
              have hrd : decide (r < 0) = false := HR.out
              clear e1 e2 e3 e4 hx hy hsd HL hs hgs hlE hq
              obtain ⟨xi, xk⟩ := x
              obtain ⟨yi, yk⟩ := y
              dsimp only at c0 c1 c2 c3 HC HSD
              go_wp2_with fail
              go_region_held3 (fun w' => w'.cell? ⟨g, i * 2, none⟩ = some (nu xi) ∧ w'.cell? ⟨g, i * 2 + 1, none⟩ = some (nu xk) ∧ w'.cell? ⟨g, q * 2, none⟩ = some (nu yi) ∧ w'.cell? ⟨g, q * 2 + 1, none⟩ = some (nu yk)) (first | assumption | exact HSD.out | exact hs5 | fail) (first | (go_at_call 50; with_reducible refine HC.out.mono ?_; rintro e w5 ⟨rfl, hs5, HB5⟩) | fail)
              have HL5 := Hid.mk' (HST.out w5 HB5.out)
              clear c0 c1 c2 c3 hs5 HB5 HC HSD HST hwk
              go_wp2
              go_roundw
              case rel => exact ⟨i + 1, by go_num, by omega, by omega, HL5⟩
              case measure => simp [intOf]; omega
            | true =>
              have HST : Hid (∀ w5, Below wr.heap.size wr w5 → LeftW p g c n a b W w5 D (Srt a i)) := fun w5 hb5 => ⟨E, e1.below hb5, keep_below e2 hb5, e3, e4⟩
              have hrd : decide (r < 0) = true := HR.out
              clear e1 e2 e3 e4 hx hy hsd HL hs hgs hlE hq
              obtain ⟨xi, xk⟩ := x
              obtain ⟨yi, yk⟩ := y
              dsimp only at c0 c1 c2 c3 HC HSD
              go_wp2_with fail
              go_region_held3 (fun w' => w'.cell? ⟨g, i * 2, none⟩ = some (nu xi) ∧ w'.cell? ⟨g, i * 2 + 1, none⟩ = some (nu xk) ∧ w'.cell? ⟨g, q * 2, none⟩ = some (nu yi) ∧ w'.cell? ⟨g, q * 2 + 1, none⟩ = some (nu yk)) (first | assumption | exact HSD.out | exact hs5 | fail) (first | (go_at_call 50; with_reducible refine HC.out.mono ?_; rintro e w5 ⟨rfl, hs5, HB5⟩) | fail)
              have HL5 := Hid.mk' (HST.out w5 HB5.out)
              clear c0 c1 c2 c3 hs5 HB5 HC HSD HST hwk
              go_wp2
              go_meet
              case rel => exact ⟨i, rfl, hi1, hi2, HL5⟩
          · have hibI : ¬ (i : Int) < (b : Int) := by omega
            have HST : Hid (∀ k, LeftW p g c n a b W (wr.drewN k) D (Srt a i)) := fun k => by
              have hb5 : Below wr.heap.size wr (wr.drewN k) := ⟨rfl, rfl, rfl, Nat.le_refl _, fun _ _ => rfl⟩
              exact ⟨E, e1.below hb5, keep_below e2 hb5, e3, e4⟩
            clear e1 e2 e3 e4 HL
            go_wp2_with fail
            go_quiet (fail)
            go_wp2
            go_meet
            case rel => exact ⟨i, rfl, hi1, hi2, HST.out _⟩
      case rest =>
        clear HS hi1 hi2
        obtain ⟨i, rfl, hi1, hi2, HS⟩ := hcut
        by_cases hib : i < b
        · have hbI : ((i : Int) == (b : Int)) = false := by
            simp only [beq_eq_false_iff_ne]
            omega
          by_cases h50 : b - a < 50
          · have h50I : (b : Int) - (a : Int) < 50 := by omega
            have HE : Hid (PartP p g c n a b W wc D (.returned (.bool false))) := by
              obtain ⟨E, e1, e2, e3, e4⟩ := HS.out
              exact ⟨false, rfl, E, e1, e2, e3, fun h => by simp at h⟩
            clear HS
            go_wp2
            go_ret
            exact HE.out
          · have h50I : ¬ (b : Int) - (a : Int) < 50 := by omega
            have HIB : Hid (i < b ∧ b ≤ n) := ⟨hib, hb⟩
            obtain ⟨E, e1, e2, e3, e4⟩ := HS.out
            obtain ⟨q, hq⟩ : ∃ q, q + 1 = i := ⟨i - 1, by omega⟩
            have hin : (i : Int) < (n : Int) := by omega
            have hi0 : (0 : Int) ≤ (i : Int) := by omega
            have hqn : (q : Int) < (n : Int) := by omega
            have hq0 : (0 : Int) ≤ (q : Int) := by omega
            have hwk : IntKind.i64.wrap ((i : Int) - 1) = (q : Int) := by rw [wrap_i64] <;> omega
            have hlE : E.length = n := e1.len
            obtain ⟨x, hx⟩ : ∃ x, atD E i = x := ⟨_, rfl⟩
            obtain ⟨y, hy⟩ : ∃ y, atD E q = y := ⟨_, rfl⟩
            have hst : Srt a q (swp E i q) := (e4.less (by omega)).swp_out (by omega) (by omega) (by omega) (by omega)
            clear HS
            obtain ⟨xi, xk⟩ := x
            obtain ⟨yi, yk⟩ := y
            obtain ⟨⟨b0, b1, b2, b3⟩, ⟨f0, f1, f2, f3⟩, ⟨z0, hz0⟩, ⟨z1, hz1⟩, w6, hw6, HW6⟩ := e1.swap (i := i) (j := q) (by omega) (by omega) hx hy
            have HL6 : Hid (LeftW p g c n a b W w6 D (Srt a q)) := ⟨_, HW6.out.1, keep_keep e2 HW6.out.2, e3.trans (Pm.swp E (by omega) (by omega) (by omega) (by omega) (by omega)), hst⟩
            have HE6 := Hid.mk' hw6
            dsimp only at b0 b1 b2 b3 hz0 hz1 HE6
            clear e1 e2 e3 e4 hx hy hlE HW6 hw6
            go_upto_region 12 with fail
            go_region
            rw [HE6.out]
            clear b0 b1 b2 b3 f0 f1 f2 f3 hz0 hz1 HE6
            have hiq : (i : Int) - 1 = (q : Int) := by omega
            have HQ : Hid (q + 1 = i) := hq
            clear hwk hst h50 h50I hbI hin hi0 hqn hq0
            by_cases h2 : 2 ≤ i - a
            · have h2I : (i : Int) - (a : Int) ≥ 2 := by omega
              have h2I2 : (2 : Int) ≤ (i : Int) - (a : Int) := by omega
              obtain ⟨q0, hq0⟩ : ∃ q0, q = q0 := ⟨_, rfl⟩
              have HQ0 : Hid (a ≤ q0 ∧ q0 + 1 = i ∧ i < b ∧ b ≤ n) := by
                have := HIB.out
                show _ ∧ _
                omega
              have HS : Hid (LeftW p g c n a b W w6 D (Ins a q0 q0)) := by
                obtain ⟨E, e1, e2, e3, e4⟩ := HL6.out
                rw [hq0] at e4
                exact ⟨E, e1, e2, e3, Ins.start e4⟩
              rw [hq0] at hiq
              clear HL6 hq hq0 HQ hib h2
              go_upto_block 4 with fail
              go_cut [11] from 68 to 100 (fun jv wr => Hid (LeftW p g c n a b W wr D (Srt a (q0 + 1))))
              case first =>
                go_wp2_with fail
                go_loopw [11] (fun jv wr => ∃ j : Nat, jv = nun j ∧ a ≤ j ∧ j ≤ q0 ∧ Hid (LeftW p g c n a b W wr D (Ins a q0 j))) (fun jv _ => (intOf jv).toNat)
                case atStart => exact ⟨q0, rfl, HQ0.out.1, Nat.le_refl _, HS⟩
                case round =>
                  clear HS
                  obtain ⟨j, rfl, hj1, hj2, HL⟩ := hrel
                  obtain ⟨E, e1, e2, e3, e4⟩ := HL.out
                  have hq0b := HQ0.out
                  by_cases hj0 : 1 ≤ j
                  · have hjI : (j : Int) ≥ 1 := by omega
                    have hjI2 : (1 : Int) ≤ (j : Int) := by omega
                    clear hj0
                    obtain ⟨q, hq⟩ : ∃ q, q + 1 = j := ⟨j - 1, by omega⟩
                    have hjn : (j : Int) < (n : Int) := by omega
                    have hj0 : (0 : Int) ≤ (j : Int) := by omega
                    have hqn : (q : Int) < (n : Int) := by omega
                    have hq0 : (0 : Int) ≤ (q : Int) := by omega
                    have hwk : IntKind.i64.wrap ((j : Int) - 1) = (q : Int) := by rw [wrap_i64] <;> omega
                    have hlE : E.length = n := e1.len
                    obtain ⟨x, hx⟩ : ∃ x, atD E j = x := ⟨_, rfl⟩
                    obtain ⟨y, hy⟩ : ∃ y, atD E q = y := ⟨_, rfl⟩
                    obtain ⟨⟨⟨c0, c1, c2, c3⟩, hsd⟩, r, HR, HC⟩ := e1.cmp (i := j) (j := q) (by omega) (by omega) hx hy
                    obtain ⟨s, hs⟩ : ∃ s, ahd x y = s := ⟨_, rfl⟩
                    rw [hs] at HR
                    have HSD := Hid.mk' hsd
                    have hgs : ahd (atD E j) (atD E q) = s := by rw [hx, hy]; exact hs
                    cases s with
                    | false =>
                      have HST : Hid (∀ w5, Below wr.heap.size wr w5 → LeftW p g c n a b W w5 D (Srt a (q0 + 1))) := fun w5 hb5 => ⟨E, e1.below hb5, keep_below e2 hb5, e3, e4.stop e1.unl (by omega) hj2 (.inr (by rw [show j - 1 = q by omega]; exact hgs))⟩
                      have hrd : decide (r < 0) = false := HR.out
                      clear e1 e2 e3 e4 hx hy hsd HL hs hgs hlE hq hq0b
                      obtain ⟨xi, xk⟩ := x
                      obtain ⟨yi, yk⟩ := y
                      dsimp only at c0 c1 c2 c3 HC HSD
                      go_wp2_with fail
                      go_region_held3 (fun w' => w'.cell? ⟨g, j * 2, none⟩ = some (nu xi) ∧ w'.cell? ⟨g, j * 2 + 1, none⟩ = some (nu xk) ∧ w'.cell? ⟨g, q * 2, none⟩ = some (nu yi) ∧ w'.cell? ⟨g, q * 2 + 1, none⟩ = some (nu yk)) (first | assumption | exact HSD.out | exact hs5 | fail) (first | (go_at_call 50; with_reducible refine HC.out.mono ?_; rintro e w5 ⟨rfl, hs5, HB5⟩) | fail)
                      have HL5 := Hid.mk' (HST.out w5 HB5.out)
                      clear c0 c1 c2 c3 hs5 HB5 HC HSD HST hwk
                      go_wp2
                      go_meet
                      case rel => exact HL5
                    | true =>
                      have haj : a < j := by
                        rcases Nat.lt_or_ge a j with h1 | h1
                        · exact h1
                        · have h2 := (HBF.out.pm e3) q j (by omega) (by omega) (by omega)
                          exact absurd hgs (ahd_asymm h2)
                      have HST : Hid (∀ w5, Below wr.heap.size wr w5 → Sw p g c n w5 E ∧ Keep (fun k => k = g) W w5 ∧ Pm a b D E ∧ Ins a q0 (q + 1) E) := fun w5 hb5 => ⟨e1.below hb5, keep_below e2 hb5, e3, by rw [hq]; exact e4⟩
                      have HX := Hid.mk' hx
                      have HY := Hid.mk' hy
                      have HGS : Hid (ahd (atD E (q + 1)) (atD E q) = true) := by rw [hq]; exact hgs
                      have hrd : decide (r < 0) = true := HR.out
                      clear e1 e2 e3 e4 hx hy hsd HL hs hgs hlE
                      obtain ⟨xi, xk⟩ := x
                      obtain ⟨yi, yk⟩ := y
                      dsimp only at c0 c1 c2 c3 HC HSD
                      go_wp2_with fail
                      go_region_held3 (fun w' => w'.cell? ⟨g, j * 2, none⟩ = some (nu xi) ∧ w'.cell? ⟨g, j * 2 + 1, none⟩ = some (nu xk) ∧ w'.cell? ⟨g, q * 2, none⟩ = some (nu yi) ∧ w'.cell? ⟨g, q * 2 + 1, none⟩ = some (nu yk)) (first | assumption | exact HSD.out | exact hs5 | fail) (first | (go_at_call 50; with_reducible refine HC.out.mono ?_; rintro e w5 ⟨rfl, hs5, HB5⟩) | fail)
                      obtain ⟨e1, e2, e3, e4⟩ := HST.out w5 HB5.out
                      have hlE : E.length = n := e1.len
                      have hx := HX.out
                      have hy := HY.out
                      have hst := e4.step (by omega) (by omega) (by omega) HGS.out
                      rw [hq] at hst
                      clear c0 c1 c2 c3 hs5 HB5 HC HSD HST HGS HX HY
                      obtain ⟨⟨b0, b1, b2, b3⟩, ⟨f0, f1, f2, f3⟩, ⟨z0, hz0⟩, ⟨z1, hz1⟩, w6, hw6, HW6⟩ := e1.swap (i := j) (j := q) (by omega) (by omega) hx hy
                      have HL6 : Hid (LeftW p g c n a b W w6 D (Ins a q0 q)) := ⟨_, HW6.out.1, keep_keep e2 HW6.out.2, e3.trans (Pm.swp E (by omega) (by omega) (by omega) (by omega) (by omega)), hst⟩
                      have HE6 := Hid.mk' hw6
                      dsimp only at b0 b1 b2 b3 hz0 hz1 HE6
                      clear e1 e2 e3 e4 hx hy hlE HW6 hw6
                      go_upto_region 17 with fail
                      go_region
                      rw [HE6.out]
                      clear b0 b1 b2 b3 f0 f1 f2 f3 hz0 hz1 HE6
                      have hjq : (j : Int) - 1 = (q : Int) := by omega
                      have HJ : Hid (q < j ∧ a ≤ q ∧ q ≤ q0) := by
                        show _ ∧ _
                        omega
                      clear hwk hq
                      go_wp2
                      go_roundw
                      case rel => exact ⟨q, by simp, HJ.out.2.1, HJ.out.2.2, HL6⟩
                      case measure => have := HJ.out; simp [intOf]; omega
                  · have hjI : ¬ (j : Int) ≥ 1 := by omega
                    have hjI2 : ¬ (1 : Int) ≤ (j : Int) := by omega
                    have HL5 : Hid (LeftW p g c n a b W wr D (Srt a (q0 + 1))) := ⟨E, e1, e2, e3, e4.stop e1.unl (by have := e1.len; omega) hj2 (.inl (by omega))⟩
                    clear e1 e2 e3 e4 HL
                    go_wp2
                    go_meet
                    case rel => exact HL5
              case rest =>
                have HS2 : Hid (LeftW p g c n a b W wc D (Srt a i)) := by
                  have := hcut.out
                  rw [HQ0.out.2.1] at this
                  exact this
                clear HS hcut hiq HQ0
                obtain ⟨HS, _⟩ : Hid (LeftW p g c n a b W wc D (Srt a i)) ∧ True := ⟨HS2, trivial⟩
                clear HS2
                by_cases h3 : 2 ≤ b - i
                · have h3I : (b : Int) - (i : Int) ≥ 2 := by omega
                  have h3I2 : (2 : Int) ≤ (b : Int) - (i : Int) := by omega
                  clear h3
                  go_wp2_with fail
                  go_loopw [12] (fun jv wr => ∃ j : Nat, jv = nun j ∧ i + 1 ≤ j ∧ j ≤ b ∧ Hid (LeftW p g c n a b W wr D (Srt a i))) (fun jv _ => b - (intOf jv).toNat)
                  case atStart => exact ⟨i + 1, by go_num, Nat.le_refl _, by have := HIB.out; omega, HS⟩
                  case round =>
                    clear HS
                    obtain ⟨j, rfl, hj1, hj2, HL⟩ := hrel
                    obtain ⟨E, e1, e2, e3, e4⟩ := HL.out
                    have hib := HIB.out
                    by_cases hjb : j < b
                    · have hjI : (j : Int) < (b : Int) := by omega
                      obtain ⟨q, hq⟩ : ∃ q, q + 1 = j := ⟨j - 1, by omega⟩
                      have hjn : (j : Int) < (n : Int) := by omega
                      have hj0 : (0 : Int) ≤ (j : Int) := by omega
                      have hqn : (q : Int) < (n : Int) := by omega
                      have hq0 : (0 : Int) ≤ (q : Int) := by omega
                      have hwk : IntKind.i64.wrap ((j : Int) - 1) = (q : Int) := by rw [wrap_i64] <;> omega
                      have hlE : E.length = n := e1.len
                      obtain ⟨x, hx⟩ : ∃ x, atD E j = x := ⟨_, rfl⟩
                      obtain ⟨y, hy⟩ : ∃ y, atD E q = y := ⟨_, rfl⟩
                      obtain ⟨⟨⟨c0, c1, c2, c3⟩, hsd⟩, r, HR, HC⟩ := e1.cmp (i := j) (j := q) (by omega) (by omega) hx hy
                      obtain ⟨s, hs⟩ : ∃ s, ahd x y = s := ⟨_, rfl⟩
                      rw [hs] at HR
                      have HSD := Hid.mk' hsd
                      have hgs : ahd (atD E j) (atD E q) = s := by rw [hx, hy]; exact hs
                      cases s with
                      | false =>
                        have HST : Hid (∀ w5, Below wr.heap.size wr w5 → LeftW p g c n a b W w5 D (Srt a i)) := fun w5 hb5 => ⟨E, e1.below hb5, keep_below e2 hb5, e3, e4⟩
                        have hrd : decide (r < 0) = false := HR.out
                        clear e1 e2 e3 e4 hx hy hsd HL hs hgs hlE hq hib
                        obtain ⟨xi, xk⟩ := x
                        obtain ⟨yi, yk⟩ := y
                        dsimp only at c0 c1 c2 c3 HC HSD
                        go_wp2_with fail
                        go_region_held3 (fun w' => w'.cell? ⟨g, j * 2, none⟩ = some (nu xi) ∧ w'.cell? ⟨g, j * 2 + 1, none⟩ = some (nu xk) ∧ w'.cell? ⟨g, q * 2, none⟩ = some (nu yi) ∧ w'.cell? ⟨g, q * 2 + 1, none⟩ = some (nu yk)) (first | assumption | exact HSD.out | exact hs5 | fail) (first | (go_at_call 50; with_reducible refine HC.out.mono ?_; rintro e w5 ⟨rfl, hs5, HB5⟩) | fail)
                        have HL5 := Hid.mk' (HST.out w5 HB5.out)
                        clear c0 c1 c2 c3 hs5 HB5 HC HSD HST hwk
                        go_wp2
                        go_roundw
                        case rel => exact ⟨i, t + 1, rfl, by go_num, by omega, hi1, by omega, HL5⟩
                        case measure => simp [intOf]; omega
                      | true =>
                        have HST : Hid (∀ w5, Below wr.heap.size wr w5 → Sw p g c n w5 E ∧ Keep (fun k => k = g) W w5 ∧ Pm a b D E ∧ Srt a i E) := fun w5 hb5 => ⟨e1.below hb5, keep_below e2 hb5, e3, e4⟩
                        have HX := Hid.mk' hx
                        have HY := Hid.mk' hy
                        have hrd : decide (r < 0) = true := HR.out
                        clear e1 e2 e3 e4 hx hy hsd HL hs hgs hlE
                        obtain ⟨xi, xk⟩ := x
                        obtain ⟨yi, yk⟩ := y
                        dsimp only at c0 c1 c2 c3 HC HSD
                        go_wp2_with fail
                        go_region_held3 (fun w' => w'.cell? ⟨g, j * 2, none⟩ = some (nu xi) ∧ w'.cell? ⟨g, j * 2 + 1, none⟩ = some (nu xk) ∧ w'.cell? ⟨g, q * 2, none⟩ = some (nu yi) ∧ w'.cell? ⟨g, q * 2 + 1, none⟩ = some (nu yk)) (first | assumption | exact HSD.out | exact hs5 | fail) (first | (go_at_call 50; with_reducible refine HC.out.mono ?_; rintro e w5 ⟨rfl, hs5, HB5⟩) | fail)
                        obtain ⟨e1, e2, e3, e4⟩ := HST.out w5 HB5.out
                        have hlE : E.length = n := e1.len
                        have hx := HX.out
                        have hy := HY.out
                        have hst : Srt a i (swp E j q) := e4.swp_out (by omega) (by omega) (by omega) (by omega)
                        clear c0 c1 c2 c3 hs5 HB5 HC HSD HST HX HY
                        obtain ⟨⟨b0, b1, b2, b3⟩, ⟨f0, f1, f2, f3⟩, ⟨z0, hz0⟩, ⟨z1, hz1⟩, w6, hw6, HW6⟩ := e1.swap (i := j) (j := q) (by omega) (by omega) hx hy
                        have HL6 : Hid (LeftW p g c n a b W w6 D (Srt a i)) := ⟨_, HW6.out.1, keep_keep e2 HW6.out.2, e3.trans (Pm.swp E (by omega) (by omega) (by omega) (by omega) (by omega)), hst⟩
                        have HE6 := Hid.mk' hw6
                        dsimp only at b0 b1 b2 b3 hz0 hz1 HE6
                        clear e1 e2 e3 e4 hx hy hlE HW6 hw6
                        go_upto_region 23 with fail
                        go_region
                        rw [HE6.out]
                        clear b0 b1 b2 b3 f0 f1 f2 f3 hz0 hz1 HE6
                        clear hwk hq hib
                        go_wp2
                        go_roundw
                        case rel => exact ⟨j + 1, by go_num, by omega, by omega, HL6⟩
                        case measure => simp [intOf]; omega
                    · have hjI : ¬ (j : Int) < (b : Int) := by omega
                      have HL5 := HL
                      clear e1 e2 e3 e4 HL hib
                      go_wp2
                      go_roundw
                      case rel => exact ⟨i, t + 1, rfl, by go_num, by omega, hi1, by omega, HL5⟩
                      case measure => simp [intOf]; omega
                · have h3I : ¬ (b : Int) - (i : Int) ≥ 2 := by omega
                  have h3I2 : ¬ (2 : Int) ≤ (b : Int) - (i : Int) := by omega
                  have HL5 := HS
                  have hib := HIB.out
                  clear HS h3
                  go_wp2
                  go_roundw
                  case rel => exact ⟨i, t + 1, rfl, by go_num, by omega, hi1, by omega, HL5⟩
                  case measure => simp [intOf]; omega
            · have h2I : ¬ (i : Int) - (a : Int) ≥ 2 := by omega
              have h2I2 : ¬ (2 : Int) ≤ (i : Int) - (a : Int) := by omega
              have HS : Hid (LeftW p g c n a b W w6 D (Srt a i)) := by
                obtain ⟨E, e1, e2, e3, e4⟩ := HL6.out
                exact ⟨E, e1, e2, e3, Srt.one _ _ _ (by omega)⟩
              clear HL6 hq HQ hiq hib h2
              by_cases h3 : 2 ≤ b - i
              · have h3I : (b : Int) - (i : Int) ≥ 2 := by omega
                have h3I2 : (2 : Int) ≤ (b : Int) - (i : Int) := by omega
                clear h3
                go_wp2_with fail
                go_loopw [12] (fun jv wr => ∃ j : Nat, jv = nun j ∧ i + 1 ≤ j ∧ j ≤ b ∧ Hid (LeftW p g c n a b W wr D (Srt a i))) (fun jv _ => b - (intOf jv).toNat)
                case atStart => exact ⟨i + 1, by go_num, Nat.le_refl _, by have := HIB.out; omega, HS⟩
                case round =>
                  clear HS
                  obtain ⟨j, rfl, hj1, hj2, HL⟩ := hrel
                  obtain ⟨E, e1, e2, e3, e4⟩ := HL.out
                  have hib := HIB.out
                  by_cases hjb : j < b
                  · have hjI : (j : Int) < (b : Int) := by omega
                    obtain ⟨q, hq⟩ : ∃ q, q + 1 = j := ⟨j - 1, by omega⟩
                    have hjn : (j : Int) < (n : Int) := by omega
                    have hj0 : (0 : Int) ≤ (j : Int) := by omega
                    have hqn : (q : Int) < (n : Int) := by omega
                    have hq0 : (0 : Int) ≤ (q : Int) := by omega
                    have hwk : IntKind.i64.wrap ((j : Int) - 1) = (q : Int) := by rw [wrap_i64] <;> omega
                    have hlE : E.length = n := e1.len
                    obtain ⟨x, hx⟩ : ∃ x, atD E j = x := ⟨_, rfl⟩
                    obtain ⟨y, hy⟩ : ∃ y, atD E q = y := ⟨_, rfl⟩
                    obtain ⟨⟨⟨c0, c1, c2, c3⟩, hsd⟩, r, HR, HC⟩ := e1.cmp (i := j) (j := q) (by omega) (by omega) hx hy
                    obtain ⟨s, hs⟩ : ∃ s, ahd x y = s := ⟨_, rfl⟩
                    rw [hs] at HR
                    have HSD := Hid.mk' hsd
                    have hgs : ahd (atD E j) (atD E q) = s := by rw [hx, hy]; exact hs
                    cases s with
                    | false =>
                      have HST : Hid (∀ w5, Below wr.heap.size wr w5 → LeftW p g c n a b W w5 D (Srt a i)) := fun w5 hb5 => ⟨E, e1.below hb5, keep_below e2 hb5, e3, e4⟩
                      have hrd : decide (r < 0) = false := HR.out
                      clear e1 e2 e3 e4 hx hy hsd HL hs hgs hlE hq hib
                      obtain ⟨xi, xk⟩ := x
                      obtain ⟨yi, yk⟩ := y
                      dsimp only at c0 c1 c2 c3 HC HSD
                      go_wp2_with fail
                      go_region_held3 (fun w' => w'.cell? ⟨g, j * 2, none⟩ = some (nu xi) ∧ w'.cell? ⟨g, j * 2 + 1, none⟩ = some (nu xk) ∧ w'.cell? ⟨g, q * 2, none⟩ = some (nu yi) ∧ w'.cell? ⟨g, q * 2 + 1, none⟩ = some (nu yk)) (first | assumption | exact HSD.out | exact hs5 | fail) (first | (go_at_call 50; with_reducible refine HC.out.mono ?_; rintro e w5 ⟨rfl, hs5, HB5⟩) | fail)
                      have HL5 := Hid.mk' (HST.out w5 HB5.out)
                      clear c0 c1 c2 c3 hs5 HB5 HC HSD HST hwk
                      go_wp2
                      go_roundw
                      case rel => exact ⟨i, t + 1, rfl, by go_num, by omega, hi1, by omega, HL5⟩
                      case measure => simp [intOf]; omega
                    | true =>
                      have HST : Hid (∀ w5, Below wr.heap.size wr w5 → Sw p g c n w5 E ∧ Keep (fun k => k = g) W w5 ∧ Pm a b D E ∧ Srt a i E) := fun w5 hb5 => ⟨e1.below hb5, keep_below e2 hb5, e3, e4⟩
                      have HX := Hid.mk' hx
                      have HY := Hid.mk' hy
                      have hrd : decide (r < 0) = true := HR.out
                      clear e1 e2 e3 e4 hx hy hsd HL hs hgs hlE
                      obtain ⟨xi, xk⟩ := x
                      obtain ⟨yi, yk⟩ := y
                      dsimp only at c0 c1 c2 c3 HC HSD
                      go_wp2_with fail
                      go_region_held3 (fun w' => w'.cell? ⟨g, j * 2, none⟩ = some (nu xi) ∧ w'.cell? ⟨g, j * 2 + 1, none⟩ = some (nu xk) ∧ w'.cell? ⟨g, q * 2, none⟩ = some (nu yi) ∧ w'.cell? ⟨g, q * 2 + 1, none⟩ = some (nu yk)) (first | assumption | exact HSD.out | exact hs5 | fail) (first | (go_at_call 50; with_reducible refine HC.out.mono ?_; rintro e w5 ⟨rfl, hs5, HB5⟩) | fail)
                      obtain ⟨e1, e2, e3, e4⟩ := HST.out w5 HB5.out
                      have hlE : E.length = n := e1.len
                      have hx := HX.out
                      have hy := HY.out
                      have hst : Srt a i (swp E j q) := e4.swp_out (by omega) (by omega) (by omega) (by omega)
                      clear c0 c1 c2 c3 hs5 HB5 HC HSD HST HX HY
                      obtain ⟨⟨b0, b1, b2, b3⟩, ⟨f0, f1, f2, f3⟩, ⟨z0, hz0⟩, ⟨z1, hz1⟩, w6, hw6, HW6⟩ := e1.swap (i := j) (j := q) (by omega) (by omega) hx hy
                      have HL6 : Hid (LeftW p g c n a b W w6 D (Srt a i)) := ⟨_, HW6.out.1, keep_keep e2 HW6.out.2, e3.trans (Pm.swp E (by omega) (by omega) (by omega) (by omega) (by omega)), hst⟩
                      have HE6 := Hid.mk' hw6
                      dsimp only at b0 b1 b2 b3 hz0 hz1 HE6
                      clear e1 e2 e3 e4 hx hy hlE HW6 hw6
                      go_upto_region 23 with fail
                      go_region
                      rw [HE6.out]
                      clear b0 b1 b2 b3 f0 f1 f2 f3 hz0 hz1 HE6
                      clear hwk hq hib
                      go_wp2
                      go_roundw
                      case rel => exact ⟨j + 1, by go_num, by omega, by omega, HL6⟩
                      case measure => simp [intOf]; omega
                  · have hjI : ¬ (j : Int) < (b : Int) := by omega
                    have HL5 := HL
                    clear e1 e2 e3 e4 HL hib
                    go_wp2
                    go_roundw
                    case rel => exact ⟨i, t + 1, rfl, by go_num, by omega, hi1, by omega, HL5⟩
                    case measure => simp [intOf]; omega
              · have h3I : ¬ (b : Int) - (i : Int) ≥ 2 := by omega
                have h3I2 : ¬ (2 : Int) ≤ (b : Int) - (i : Int) := by omega
                have HL5 := HS
                have hib := HIB.out
                clear HS h3
                go_wp2
                go_roundw
                case rel => exact ⟨i, t + 1, rfl, by go_num, by omega, hi1, by omega, HL5⟩
                case measure => simp [intOf]; omega
        · obtain rfl : i = b := by omega
          have hbI : ((i : Int) == (i : Int)) = true := by simp
          have HE : Hid (PartP p g c n a i W wc D (.returned (.bool true))) := by
            obtain ⟨E, e1, e2, e3, e4⟩ := HS.out
            exact ⟨true, rfl, E, e1, e2, e3, fun _ => e4⟩
          clear HS
          go_wp2
          go_ret
          exact HE.out
    · have htI : ¬ (t : Int) < 5 := by omega
      have HE : Hid (PartP p g c n a b W wr D (.returned (.bool false))) := by
        obtain ⟨E, e1, e2, e3, e4⟩ := HS.out
        exact ⟨false, rfl, E, e1, e2, e3, fun h => by simp at h⟩
      clear HS
      go_wp2
      go_ret
      exact HE.out
end Hq
end Go.Proofs.YteclbmmhidmklaaDoor
