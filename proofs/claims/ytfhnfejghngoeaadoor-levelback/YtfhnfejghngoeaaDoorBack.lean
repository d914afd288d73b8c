/- The walk of LevelBack. -/
import Derived.Test.YtfhnfejghngoeaaDoorSmall
namespace Go.Proofs.YtfhnfejghngoeaaDoor
set_option linter.ambiguousOpen false
open Go.RowKit Er Nm
namespace Lv
set_option linter.unusedSimpArgs false
set_option linter.unusedVariables false

theorem up_enough {a b : Int} (h : upB a b = true) : enoughB b a = true ∧ enoughB a b = false ∧ (a != 2) = true := by
  rcases upB_iff.1 h with ⟨rfl, rfl⟩ | ⟨rfl, rfl⟩ | ⟨rfl, rfl⟩ <;> exact ⟨rfl, rfl, rfl⟩

set_option maxRecDepth 100000 in
theorem back_111 (a b n : Int) (k : Int) (hk : levelB k = true) (ha : levelB a = true) (hu : upB a b = true) (h1 : 1 ≤ n) (h2 : n ≤ 300) (w : World) (hN : NamesG w) (hS : StepsG w) :
    Calls Tryd.prog 5 #[.int .i64 a, .int .i64 b, .int .i64 n, .string (nmS k)] w fun e w' => e = .returned (.bool true) ∧ Below w.heap.size w w' := by
  have HN : Hid (NamesG w) := hN
  have HS : Hid (StepsG w) := hS
  have HA : Hid (levelB a = true) := ha
  have HK : Hid (levelB k = true) := hk
  have HU : Hid (upB a b = true) := hu
  have e1 := enough_any b a
  have e2 := enough_any a b
  obtain ⟨q1, q2, q3⟩ := up_enough hu
  rw [q1] at e1
  rw [q2] at e2
  have E1 : Hid (∀ w1, Calls Tryd.prog 13 #[.int .i64 b, .int .i64 a] w1 fun e w' => e = .returned (.bool true) ∧ w' = w1) := e1
  have E2 : Hid (∀ w1, Calls Tryd.prog 13 #[.int .i64 a, .int .i64 b] w1 fun e w' => e = .returned (.bool false) ∧ w' = w1) := e2
  have h3 : 0 < n := by omega
  have H1 : Hid (1 ≤ n ∧ n ≤ 300) := ⟨h1, h2⟩
  clear hu q1 q2 e1 e2
  have hB0 := Below.refl w.heap.size w
  clear hN hS ha hk
  go_enter Tryd.func5, Tryd.ntmps5
  go_wp2_with fail
  refine (works_any w HN.out).mono ?_
  rintro e w1 ⟨rfl, hb1⟩
  have hB1 := Er.below_then hB0 hb1
  clear hb1
  go_wp2_with fail
  refine (name_yes a w1 HA.out (HN.out.below hB1)).mono ?_
  rintro e w2 ⟨rfl, hb2⟩
  have hB2 := Er.below_then hB1 hb2
  clear hb2
  go_wp2_with fail
  refine (parse_yes a w2 HA.out (HN.out.below hB2)).mono ?_
  rintro e w3 ⟨rfl, hq⟩
  subst w3
  go_wp2_with fail
  refine (parse_yes k w2 HK.out (HN.out.below hB2)).mono ?_
  rintro e w3 ⟨rfl, hq⟩
  subst w3
  go_wp2_with fail
  refine (name_yes k w2 HK.out (HN.out.below hB2)).mono ?_
  rintro e w3 ⟨rfl, hb3⟩
  have hB3 := Er.below_then hB2 hb3
  clear hb3
  go_wp2_with fail
  refine (raise_ok a b n w3 (HS.out.below hB3) HU.out H1.out).mono ?_
  rintro e w4 ⟨rfl, hb4⟩
  have hB4 := Er.below_then hB3 hb4
  clear hb4
  go_wp2_with fail
  refine (E1.out w4).mono ?_
  rintro e w5 ⟨rfl, hq⟩
  subst w5
  go_wp2_with fail
  refine (E2.out w4).mono ?_
  rintro e w5 ⟨rfl, hq⟩
  subst w5
  go_wp2
  go_ret
  exact ⟨rfl, hB4⟩

set_option maxRecDepth 100000 in
theorem back_110 (a b n : Int) (k : Int) (hk : levelB k = true) (ha : levelB a = true) (xe : Int) (cr : ∀ w1, StepsG w1 → Calls Tryd.prog 15 #[.int .i64 a, .int .i64 b, .int .i64 n] w1 fun e w' => e = .returned (noV xe) ∧ Below w1.heap.size w1 w') (w : World) (hN : NamesG w) (hS : StepsG w) :
    Calls Tryd.prog 5 #[.int .i64 a, .int .i64 b, .int .i64 n, .string (nmS k)] w fun e w' => e = .returned (.bool true) ∧ Below w.heap.size w w' := by
  have HN : Hid (NamesG w) := hN
  have HS : Hid (StepsG w) := hS
  have HA : Hid (levelB a = true) := ha
  have HK : Hid (levelB k = true) := hk
  have HR : Hid (∀ w1, StepsG w1 → Calls Tryd.prog 15 #[.int .i64 a, .int .i64 b, .int .i64 n] w1 fun e w' => e = .returned (noV xe) ∧ Below w1.heap.size w1 w') := cr
  clear cr
  have hB0 := Below.refl w.heap.size w
  clear hN hS ha hk
  go_enter Tryd.func5, Tryd.ntmps5
  go_wp2_with fail
  refine (works_any w HN.out).mono ?_
  rintro e w1 ⟨rfl, hb1⟩
  have hB1 := Er.below_then hB0 hb1
  clear hb1
  go_wp2_with fail
  refine (name_yes a w1 HA.out (HN.out.below hB1)).mono ?_
  rintro e w2 ⟨rfl, hb2⟩
  have hB2 := Er.below_then hB1 hb2
  clear hb2
  go_wp2_with fail
  refine (parse_yes a w2 HA.out (HN.out.below hB2)).mono ?_
  rintro e w3 ⟨rfl, hq⟩
  subst w3
  go_wp2_with fail
  refine (parse_yes k w2 HK.out (HN.out.below hB2)).mono ?_
  rintro e w3 ⟨rfl, hq⟩
  subst w3
  go_wp2_with fail
  refine (name_yes k w2 HK.out (HN.out.below hB2)).mono ?_
  rintro e w3 ⟨rfl, hb3⟩
  have hB3 := Er.below_then hB2 hb3
  clear hb3
  go_wp2_with fail
  refine (HR.out w3 (HS.out.below hB3)).mono ?_
  rintro e w4 ⟨rfl, hb4⟩
  have hB4 := Er.below_then hB3 hb4
  clear hb4
  unfold noV
  go_wp2
  go_ret
  exact ⟨rfl, hB4⟩

set_option maxRecDepth 100000 in
theorem back_101 (a b n : Int) (s : ByteArray) (k0 : s ≠ nmS 0) (k1 : s ≠ nmS 1) (k2 : s ≠ nmS 2) (ha : levelB a = true) (hu : upB a b = true) (h1 : 1 ≤ n) (h2 : n ≤ 300) (w : World) (hN : NamesG w) (hS : StepsG w) :
    Calls Tryd.prog 5 #[.int .i64 a, .int .i64 b, .int .i64 n, .string s] w fun e w' => e = .returned (.bool true) ∧ Below w.heap.size w w' := by
  have HN : Hid (NamesG w) := hN
  have HS : Hid (StepsG w) := hS
  have HA : Hid (levelB a = true) := ha
  have HK : Hid (s ≠ nmS 0 ∧ s ≠ nmS 1 ∧ s ≠ nmS 2) := ⟨k0, k1, k2⟩
  have HU : Hid (upB a b = true) := hu
  have e1 := enough_any b a
  have e2 := enough_any a b
  obtain ⟨q1, q2, q3⟩ := up_enough hu
  rw [q1] at e1
  rw [q2] at e2
  have E1 : Hid (∀ w1, Calls Tryd.prog 13 #[.int .i64 b, .int .i64 a] w1 fun e w' => e = .returned (.bool true) ∧ w' = w1) := e1
  have E2 : Hid (∀ w1, Calls Tryd.prog 13 #[.int .i64 a, .int .i64 b] w1 fun e w' => e = .returned (.bool false) ∧ w' = w1) := e2
  have h3 : 0 < n := by omega
  have H1 : Hid (1 ≤ n ∧ n ≤ 300) := ⟨h1, h2⟩
  clear hu q1 q2 e1 e2
  have hB0 := Below.refl w.heap.size w
  clear hN hS ha k0 k1 k2
  go_enter Tryd.func5, Tryd.ntmps5
  go_wp2_with fail
  refine (works_any w HN.out).mono ?_
  rintro e w1 ⟨rfl, hb1⟩
  have hB1 := Er.below_then hB0 hb1
  clear hb1
  go_wp2_with fail
  refine (name_yes a w1 HA.out (HN.out.below hB1)).mono ?_
  rintro e w2 ⟨rfl, hb2⟩
  have hB2 := Er.below_then hB1 hb2
  clear hb2
  go_wp2_with fail
  refine (parse_yes a w2 HA.out (HN.out.below hB2)).mono ?_
  rintro e w3 ⟨rfl, hq⟩
  subst w3
  go_wp2_with fail
  refine (parse_no s w2 HK.out.1 HK.out.2.1 HK.out.2.2 (HN.out.below hB2)).mono ?_
  rintro e w3 ⟨rfl, hq⟩
  subst w3
  unfold noV
  go_wp2_with fail
  refine (raise_ok a b n w2 (HS.out.below hB2) HU.out H1.out).mono ?_
  rintro e w3 ⟨rfl, hb3⟩
  have hB3 := Er.below_then hB2 hb3
  clear hb3
  go_wp2_with fail
  refine (E1.out w3).mono ?_
  rintro e w4 ⟨rfl, hq⟩
  subst w4
  go_wp2_with fail
  refine (E2.out w3).mono ?_
  rintro e w4 ⟨rfl, hq⟩
  subst w4
  go_wp2
  go_ret
  exact ⟨rfl, hB3⟩

set_option maxRecDepth 100000 in
theorem back_100 (a b n : Int) (s : ByteArray) (k0 : s ≠ nmS 0) (k1 : s ≠ nmS 1) (k2 : s ≠ nmS 2) (ha : levelB a = true) (xe : Int) (cr : ∀ w1, StepsG w1 → Calls Tryd.prog 15 #[.int .i64 a, .int .i64 b, .int .i64 n] w1 fun e w' => e = .returned (noV xe) ∧ Below w1.heap.size w1 w') (w : World) (hN : NamesG w) (hS : StepsG w) :
    Calls Tryd.prog 5 #[.int .i64 a, .int .i64 b, .int .i64 n, .string s] w fun e w' => e = .returned (.bool true) ∧ Below w.heap.size w w' := by
  have HN : Hid (NamesG w) := hN
  have HS : Hid (StepsG w) := hS
  have HA : Hid (levelB a = true) := ha
  have HK : Hid (s ≠ nmS 0 ∧ s ≠ nmS 1 ∧ s ≠ nmS 2) := ⟨k0, k1, k2⟩
  have HR : Hid (∀ w1, StepsG w1 → Calls Tryd.prog 15 #[.int .i64 a, .int .i64 b, .int .i64 n] w1 fun e w' => e = .returned (noV xe) ∧ Below w1.heap.size w1 w') := cr
  clear cr
  have hB0 := Below.refl w.heap.size w
  clear hN hS ha k0 k1 k2
  go_enter Tryd.func5, Tryd.ntmps5
  go_wp2_with fail
  refine (works_any w HN.out).mono ?_
  rintro e w1 ⟨rfl, hb1⟩
  have hB1 := Er.below_then hB0 hb1
  clear hb1
  go_wp2_with fail
  refine (name_yes a w1 HA.out (HN.out.below hB1)).mono ?_
  rintro e w2 ⟨rfl, hb2⟩
  have hB2 := Er.below_then hB1 hb2
  clear hb2
  go_wp2_with fail
  refine (parse_yes a w2 HA.out (HN.out.below hB2)).mono ?_
  rintro e w3 ⟨rfl, hq⟩
  subst w3
  go_wp2_with fail
  refine (parse_no s w2 HK.out.1 HK.out.2.1 HK.out.2.2 (HN.out.below hB2)).mono ?_
  rintro e w3 ⟨rfl, hq⟩
  subst w3
  unfold noV
  go_wp2_with fail
  refine (HR.out w2 (HS.out.below hB2)).mono ?_
  rintro e w3 ⟨rfl, hb3⟩
  have hB3 := Er.below_then hB2 hb3
  clear hb3
  unfold noV
  go_wp2
  go_ret
  exact ⟨rfl, hB3⟩

set_option maxRecDepth 100000 in
theorem back_011 (a b n : Int) (k : Int) (hk : levelB k = true) (ha : levelB a = false) (hu : upB a b = true) (h1 : 1 ≤ n) (h2 : n ≤ 300) (w : World) (hN : NamesG w) (hS : StepsG w) :
    Calls Tryd.prog 5 #[.int .i64 a, .int .i64 b, .int .i64 n, .string (nmS k)] w fun e w' => e = .returned (.bool true) ∧ Below w.heap.size w w' := by
  have HN : Hid (NamesG w) := hN
  have HS : Hid (StepsG w) := hS
  have HA : Hid (levelB a = false) := ha
  have HK : Hid (levelB k = true) := hk
  have HU : Hid (upB a b = true) := hu
  have e1 := enough_any b a
  have e2 := enough_any a b
  obtain ⟨q1, q2, q3⟩ := up_enough hu
  rw [q1] at e1
  rw [q2] at e2
  have E1 : Hid (∀ w1, Calls Tryd.prog 13 #[.int .i64 b, .int .i64 a] w1 fun e w' => e = .returned (.bool true) ∧ w' = w1) := e1
  have E2 : Hid (∀ w1, Calls Tryd.prog 13 #[.int .i64 a, .int .i64 b] w1 fun e w' => e = .returned (.bool false) ∧ w' = w1) := e2
  have h3 : 0 < n := by omega
  have H1 : Hid (1 ≤ n ∧ n ≤ 300) := ⟨h1, h2⟩
  clear hu q1 q2 e1 e2
  have hB0 := Below.refl w.heap.size w
  clear hN hS ha hk
  go_enter Tryd.func5, Tryd.ntmps5
  go_wp2_with fail
  refine (works_any w HN.out).mono ?_
  rintro e w1 ⟨rfl, hb1⟩
  have hB1 := Er.below_then hB0 hb1
  clear hb1
  go_wp2_with fail
  refine (same_below (name_no a w1 HA.out)).mono ?_
  rintro e w2 ⟨rfl, hb2⟩
  unfold noV
  have hB2 := Er.below_then hB1 hb2
  clear hb2
  go_wp2_with fail
  refine (parse_yes k w2 HK.out (HN.out.below hB2)).mono ?_
  rintro e w3 ⟨rfl, hq⟩
  subst w3
  go_wp2_with fail
  refine (name_yes k w2 HK.out (HN.out.below hB2)).mono ?_
  rintro e w3 ⟨rfl, hb3⟩
  have hB3 := Er.below_then hB2 hb3
  clear hb3
  go_wp2_with fail
  refine (raise_ok a b n w3 (HS.out.below hB3) HU.out H1.out).mono ?_
  rintro e w4 ⟨rfl, hb4⟩
  have hB4 := Er.below_then hB3 hb4
  clear hb4
  go_wp2_with fail
  refine (E1.out w4).mono ?_
  rintro e w5 ⟨rfl, hq⟩
  subst w5
  go_wp2_with fail
  refine (E2.out w4).mono ?_
  rintro e w5 ⟨rfl, hq⟩
  subst w5
  go_wp2
  go_ret
  exact ⟨rfl, hB4⟩

set_option maxRecDepth 100000 in
theorem back_010 (a b n : Int) (k : Int) (hk : levelB k = true) (ha : levelB a = false) (xe : Int) (cr : ∀ w1, StepsG w1 → Calls Tryd.prog 15 #[.int .i64 a, .int .i64 b, .int .i64 n] w1 fun e w' => e = .returned (noV xe) ∧ Below w1.heap.size w1 w') (w : World) (hN : NamesG w) (hS : StepsG w) :
    Calls Tryd.prog 5 #[.int .i64 a, .int .i64 b, .int .i64 n, .string (nmS k)] w fun e w' => e = .returned (.bool true) ∧ Below w.heap.size w w' := by
  have HN : Hid (NamesG w) := hN
  have HS : Hid (StepsG w) := hS
  have HA : Hid (levelB a = false) := ha
  have HK : Hid (levelB k = true) := hk
  have HR : Hid (∀ w1, StepsG w1 → Calls Tryd.prog 15 #[.int .i64 a, .int .i64 b, .int .i64 n] w1 fun e w' => e = .returned (noV xe) ∧ Below w1.heap.size w1 w') := cr
  clear cr
  have hB0 := Below.refl w.heap.size w
  clear hN hS ha hk
  go_enter Tryd.func5, Tryd.ntmps5
  go_wp2_with fail
  refine (works_any w HN.out).mono ?_
  rintro e w1 ⟨rfl, hb1⟩
  have hB1 := Er.below_then hB0 hb1
  clear hb1
  go_wp2_with fail
  refine (same_below (name_no a w1 HA.out)).mono ?_
  rintro e w2 ⟨rfl, hb2⟩
  unfold noV
  have hB2 := Er.below_then hB1 hb2
  clear hb2
  go_wp2_with fail
  refine (parse_yes k w2 HK.out (HN.out.below hB2)).mono ?_
  rintro e w3 ⟨rfl, hq⟩
  subst w3
  go_wp2_with fail
  refine (name_yes k w2 HK.out (HN.out.below hB2)).mono ?_
  rintro e w3 ⟨rfl, hb3⟩
  have hB3 := Er.below_then hB2 hb3
  clear hb3
  go_wp2_with fail
  refine (HR.out w3 (HS.out.below hB3)).mono ?_
  rintro e w4 ⟨rfl, hb4⟩
  have hB4 := Er.below_then hB3 hb4
  clear hb4
  unfold noV
  go_wp2
  go_ret
  exact ⟨rfl, hB4⟩

set_option maxRecDepth 100000 in
theorem back_001 (a b n : Int) (s : ByteArray) (k0 : s ≠ nmS 0) (k1 : s ≠ nmS 1) (k2 : s ≠ nmS 2) (ha : levelB a = false) (hu : upB a b = true) (h1 : 1 ≤ n) (h2 : n ≤ 300) (w : World) (hN : NamesG w) (hS : StepsG w) :
    Calls Tryd.prog 5 #[.int .i64 a, .int .i64 b, .int .i64 n, .string s] w fun e w' => e = .returned (.bool true) ∧ Below w.heap.size w w' := by
  have HN : Hid (NamesG w) := hN
  have HS : Hid (StepsG w) := hS
  have HA : Hid (levelB a = false) := ha
  have HK : Hid (s ≠ nmS 0 ∧ s ≠ nmS 1 ∧ s ≠ nmS 2) := ⟨k0, k1, k2⟩
  have HU : Hid (upB a b = true) := hu
  have e1 := enough_any b a
  have e2 := enough_any a b
  obtain ⟨q1, q2, q3⟩ := up_enough hu
  rw [q1] at e1
  rw [q2] at e2
  have E1 : Hid (∀ w1, Calls Tryd.prog 13 #[.int .i64 b, .int .i64 a] w1 fun e w' => e = .returned (.bool true) ∧ w' = w1) := e1
  have E2 : Hid (∀ w1, Calls Tryd.prog 13 #[.int .i64 a, .int .i64 b] w1 fun e w' => e = .returned (.bool false) ∧ w' = w1) := e2
  have h3 : 0 < n := by omega
  have H1 : Hid (1 ≤ n ∧ n ≤ 300) := ⟨h1, h2⟩
  clear hu q1 q2 e1 e2
  have hB0 := Below.refl w.heap.size w
  clear hN hS ha k0 k1 k2
  go_enter Tryd.func5, Tryd.ntmps5
  go_wp2_with fail
  refine (works_any w HN.out).mono ?_
  rintro e w1 ⟨rfl, hb1⟩
  have hB1 := Er.below_then hB0 hb1
  clear hb1
  go_wp2_with fail
  refine (same_below (name_no a w1 HA.out)).mono ?_
  rintro e w2 ⟨rfl, hb2⟩
  unfold noV
  have hB2 := Er.below_then hB1 hb2
  clear hb2
  go_wp2_with fail
  refine (parse_no s w2 HK.out.1 HK.out.2.1 HK.out.2.2 (HN.out.below hB2)).mono ?_
  rintro e w3 ⟨rfl, hq⟩
  subst w3
  unfold noV
  go_wp2_with fail
  refine (raise_ok a b n w2 (HS.out.below hB2) HU.out H1.out).mono ?_
  rintro e w3 ⟨rfl, hb3⟩
  have hB3 := Er.below_then hB2 hb3
  clear hb3
  go_wp2_with fail
  refine (E1.out w3).mono ?_
  rintro e w4 ⟨rfl, hq⟩
  subst w4
  go_wp2_with fail
  refine (E2.out w3).mono ?_
  rintro e w4 ⟨rfl, hq⟩
  subst w4
  go_wp2
  go_ret
  exact ⟨rfl, hB3⟩

set_option maxRecDepth 100000 in
theorem back_000 (a b n : Int) (s : ByteArray) (k0 : s ≠ nmS 0) (k1 : s ≠ nmS 1) (k2 : s ≠ nmS 2) (ha : levelB a = false) (xe : Int) (cr : ∀ w1, StepsG w1 → Calls Tryd.prog 15 #[.int .i64 a, .int .i64 b, .int .i64 n] w1 fun e w' => e = .returned (noV xe) ∧ Below w1.heap.size w1 w') (w : World) (hN : NamesG w) (hS : StepsG w) :
    Calls Tryd.prog 5 #[.int .i64 a, .int .i64 b, .int .i64 n, .string s] w fun e w' => e = .returned (.bool true) ∧ Below w.heap.size w w' := by
  have HN : Hid (NamesG w) := hN
  have HS : Hid (StepsG w) := hS
  have HA : Hid (levelB a = false) := ha
  have HK : Hid (s ≠ nmS 0 ∧ s ≠ nmS 1 ∧ s ≠ nmS 2) := ⟨k0, k1, k2⟩
  have HR : Hid (∀ w1, StepsG w1 → Calls Tryd.prog 15 #[.int .i64 a, .int .i64 b, .int .i64 n] w1 fun e w' => e = .returned (noV xe) ∧ Below w1.heap.size w1 w') := cr
  clear cr
  have hB0 := Below.refl w.heap.size w
  clear hN hS ha k0 k1 k2
  go_enter Tryd.func5, Tryd.ntmps5
  go_wp2_with fail
  refine (works_any w HN.out).mono ?_
  rintro e w1 ⟨rfl, hb1⟩
  have hB1 := Er.below_then hB0 hb1
  clear hb1
  go_wp2_with fail
  refine (same_below (name_no a w1 HA.out)).mono ?_
  rintro e w2 ⟨rfl, hb2⟩
  unfold noV
  have hB2 := Er.below_then hB1 hb2
  clear hb2
  go_wp2_with fail
  refine (parse_no s w2 HK.out.1 HK.out.2.1 HK.out.2.2 (HN.out.below hB2)).mono ?_
  rintro e w3 ⟨rfl, hq⟩
  subst w3
  unfold noV
  go_wp2_with fail
  refine (HR.out w2 (HS.out.below hB2)).mono ?_
  rintro e w3 ⟨rfl, hb3⟩
  have hB3 := Er.below_then hB2 hb3
  clear hb3
  unfold noV
  go_wp2
  go_ret
  exact ⟨rfl, hB3⟩

theorem levelBack_walk (a b n : Int) (l : List UInt8) (w : World) (ha : -9223372036854775808 ≤ a ∧ a ≤ 9223372036854775807) (hb : -9223372036854775808 ≤ b ∧ b ≤ 9223372036854775807) (hn : -9223372036854775808 ≤ n ∧ n ≤ 9223372036854775807) (hl : (B l).size ≤ maxLen) (hN : NamesG w) (hS : StepsG w) :
    Calls Tryd.prog 5 #[.int .i64 a, .int .i64 b, .int .i64 n, .string (B l)] w fun e w' => e = .returned (.bool true) ∧ Below w.heap.size w w' := by
  generalize B l = s at *
  have key : (upB a b = true ∧ 1 ≤ n ∧ n ≤ 300) ∨ ∃ xe, ∀ w1, StepsG w1 → Calls Tryd.prog 15 #[.int .i64 a, .int .i64 b, .int .i64 n] w1 fun e w' => e = .returned (noV xe) ∧ Below w1.heap.size w1 w' := by
    cases h : upB a b with
    | true =>
      by_cases h1 : 1 ≤ n ∧ n ≤ 300
      · exact .inl ⟨rfl, h1⟩
      · exact .inr ⟨12, fun w1 k => raise_time a b n w1 k h h1⟩
    | false => exact .inr ⟨13, fun w1 k => raise_level a b n w1 k h⟩
  cases h : levelB a with
  | true =>
    rcases text_cases s with ⟨k, hk, rfl⟩ | ⟨k0, k1, k2⟩
    · rcases key with ⟨hu, h1, h2⟩ | ⟨xe, cr⟩
      · exact back_111 a b n k hk h hu h1 h2 w hN hS
      · exact back_110 a b n k hk h xe cr w hN hS
    · rcases key with ⟨hu, h1, h2⟩ | ⟨xe, cr⟩
      · exact back_101 a b n s k0 k1 k2 h hu h1 h2 w hN hS
      · exact back_100 a b n s k0 k1 k2 h xe cr w hN hS
  | false =>
    rcases text_cases s with ⟨k, hk, rfl⟩ | ⟨k0, k1, k2⟩
    · rcases key with ⟨hu, h1, h2⟩ | ⟨xe, cr⟩
      · exact back_011 a b n k hk h hu h1 h2 w hN hS
      · exact back_010 a b n k hk h xe cr w hN hS
    · rcases key with ⟨hu, h1, h2⟩ | ⟨xe, cr⟩
      · exact back_001 a b n s k0 k1 k2 h hu h1 h2 w hN hS
      · exact back_000 a b n s k0 k1 k2 h xe cr w hN hS
end Lv
end Go.Proofs.YtfhnfejghngoeaaDoor
