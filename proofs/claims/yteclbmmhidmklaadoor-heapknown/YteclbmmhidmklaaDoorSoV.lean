import Derived.Test.YteclbmmhidmklaaDoorSoR
/- A row that is sorted: the pivot. -/
namespace Go.Proofs.YteclbmmhidmklaaDoor
set_option linter.ambiguousOpen false
open Go.RowKit
namespace Hq
open Hh Ft
set_option linter.unusedSimpArgs false
set_option linter.unusedVariables false
attribute [local go_sem] Oper.semAt_some

set_option maxRecDepth 100000 in
set_option maxHeartbeats 4000000 in
theorem pivot_p {p g c n : Nat} {W : World} {D : List It} (h : Sw p g c n W D) (a b : Nat) (hb : b ≤ n) (hab : a + 12 < b) :
    Calls Tryd.prog 70 #[slc g n c, nun a, nun b, cmpV p] W fun e W' => ∃ (v : Nat) (o : Int), e = .returned (.tuple #[nun v, .int .i64 o]) ∧ 0 ≤ o ∧ o ≤ 2 ∧ a ≤ v ∧ v < b ∧ Sw p g c n W' D ∧ Below W.heap.size W W' := by
  have hn := h.big
  obtain ⟨l, hl⟩ : ∃ l, b - a = l := ⟨_, rfl⟩
  have hlI : (b : Int) - (a : Int) = (l : Int) := by omega
  obtain ⟨t, ht⟩ : ∃ t, l / 4 = t := ⟨_, rfl⟩
  have htI : Int.tdiv (l : Int) 4 = (t : Int) := by
    rw [Int.tdiv_eq_ediv_of_nonneg (by omega)]
    omega
  obtain ⟨i, hi⟩ : ∃ i, a + t = i := ⟨_, rfl⟩
  obtain ⟨j, hj⟩ : ∃ j, a + t * 2 = j := ⟨_, rfl⟩
  obtain ⟨k, hk⟩ : ∃ k, a + t * 3 = k := ⟨_, rfl⟩
  have hiI : (a : Int) + (t : Int) = (i : Int) := by omega
  have hjI : (a : Int) + (t : Int) * 2 = (j : Int) := by omega
  have hkI : (a : Int) + (t : Int) * 3 = (k : Int) := by omega
  have htb : t ≤ 65536 := by omega
  have hab' : a ≤ 65536 := by omega
  have hl8 : (l : Int) ≥ 8 := by omega
  have hl8' : (8 : Int) ≤ (l : Int) := by omega
  have hgl := cell_lt h.ord
  have hgg : g < W.heap.size := by
    obtain ⟨g', c', e, _, _, hh⟩ := own_slc h.row (by omega)
    simp only [Value.slice.injEq, Option.some.injEq, Addr.mk.injEq, and_true, true_and] at e
    omega
  obtain ⟨W0, hW0⟩ : ∃ W0, W.alloc (.cells #[.int .i64 0] 3) = W0 := ⟨_, rfl⟩
  have hB0 : Below W.heap.size W W0 := by rw [← hW0]; exact (Below.refl _ _).alloc (Nat.le_refl _) _
  have s0 := h.below hB0
  have q0 : W0.cell? ⟨W.heap.size, 0, none⟩ = some (nun 0) := by rw [← hW0]; simp
  have f0 : W0.frozen? ⟨W.heap.size, 0, none⟩ = false := by rw [← hW0]; simp
  obtain ⟨q, hq⟩ : ∃ q, W.heap.size = q := ⟨_, rfl⟩
  rw [hq] at q0 f0
  have hqg : q ≠ g := by omega
  have hqp : q ≠ p := by
    have : p < W.heap.size := hgl
    omega
  have HQN : Hid (q ≠ g ∧ q ≠ p) := ⟨hqg, hqp⟩
  have HQB : Hid (W.heap.size = q) := hq
  have HBW := Hid.mk' hB0
  have HBS : Hid (W.heap.size ≤ W0.heap.size) := hB0.size
  by_cases h50 : 50 ≤ l
  · have h50I : (l : Int) ≥ 50 := by omega
    have h50I' : (50 : Int) ≤ (l : Int) := by omega
    have HN : Hid (0 < i ∧ i + 1 < n ∧ 0 < j ∧ j + 1 < n ∧ 0 < k ∧ k + 1 < n ∧ a ≤ i - 1 ∧ i + 1 < b ∧ a ≤ j - 1 ∧ j + 1 < b ∧ a ≤ k - 1 ∧ k + 1 < b) := by
      refine ⟨?_, ?_, ?_, ?_, ?_, ?_, ?_, ?_, ?_, ?_, ?_, ?_⟩ <;> omega
    have c1 := Hid.mk' (medianAdj_p s0 i q HN.out.1 HN.out.2.1 0 q0 f0 hqg hqp (by omega))
    clear h hl ht hi hj hk hgl hgg hqg hqp s0 q0 f0 hB0
    go_enter Tryd.func70, Tryd.ntmps70
    go_wp2_with fail
    refine c1.out.mono ?_
    rintro e w1 ⟨u1, z1, rfl, l1, r1, hz1, hC1⟩
    have HU1 : Hid (i - 1 ≤ u1 ∧ u1 ≤ i + 1 ∧ z1 ≤ 3) := ⟨l1, r1, by omega⟩
    have HC1 := Hid.mk' hC1
    have c2 := Hid.mk' (medianAdj_p hC1.1 j q HN.out.2.2.1 HN.out.2.2.2.1 z1 hC1.2.2.1 hC1.2.2.2 HQN.out.1 HQN.out.2 (by omega))
    clear l1 r1 hz1 hC1 c1
    go_wp2_with fail
    refine c2.out.mono ?_
    rintro e w2 ⟨u2, z2, rfl, l2, r2, hz2, hC2⟩
    have HU2 : Hid (j - 1 ≤ u2 ∧ u2 ≤ j + 1 ∧ z2 ≤ 6) := ⟨l2, r2, by have := HU1.out; omega⟩
    have HC2 := Hid.mk' (HC1.out.trans hC2)
    have c3 := Hid.mk' (medianAdj_p hC2.1 k q HN.out.2.2.2.2.1 HN.out.2.2.2.2.2.1 z2 hC2.2.2.1 hC2.2.2.2 HQN.out.1 HQN.out.2 (by have := HU2.out; omega))
    clear l2 r2 hz2 hC2 c2
    go_wp2_with fail
    refine c3.out.mono ?_
    rintro e w3 ⟨u3, z3, rfl, l3, r3, hz3, hC3⟩
    have HU3 : Hid (k - 1 ≤ u3 ∧ u3 ≤ k + 1 ∧ z3 ≤ 9) := ⟨l3, r3, by have := HU2.out; omega⟩
    have HC3 := Hid.mk' (HC2.out.trans hC3)
    have c4 := Hid.mk' (median_p hC3.1 u1 u2 u3 q (by have := HU1.out; have := HN.out; omega) (by have := HU2.out; have := HN.out; omega) (by have := HU3.out; have := HN.out; omega) z3 hC3.2.2.1 hC3.2.2.2 HQN.out.1 HQN.out.2 (by have := HU3.out; omega))
    have HIN : Hid (a ≤ u1 ∧ u1 < b ∧ a ≤ u2 ∧ u2 < b ∧ a ≤ u3 ∧ u3 < b ∧ z3 ≤ 9) := by
      have := HU1.out
      have := HU2.out
      have := HU3.out
      have := HN.out
      refine ⟨?_, ?_, ?_, ?_, ?_, ?_, ?_⟩ <;> omega
    clear l3 r3 hz3 hC3 c3
    go_wp2_with fail
    refine (c4.out.mono ?_)
    rintro e w4 ⟨u4, z4, rfl, ho4, hz4, hC4⟩
    have HO4 : Hid (a ≤ u4 ∧ u4 < b) := by
      have := HIN.out
      show _ ∧ _
      omega
    have HE4 : Hid (Sw p g c n w4 D ∧ Below W.heap.size W w4) := ⟨hC4.1, (HBW.out.trans (Keep.below (HC3.out.trans hC4).2.1 (fun k hk e => by have := HQB.out; omega) HBS.out))⟩
    have q4 := hC4.2.2.1
    clear ho4 hz4 hC4 c4
    by_cases h0 : z4 = 0
    · have hb0 : ((z4 : Int) == 0) = true := by
        rw [h0]
        rfl
      go_wp2
      go_ret2
      exact ⟨u4, 1, rfl, by omega, by omega, HO4.out.1, HO4.out.2, HE4.out⟩
    · have hb0 : ((z4 : Int) == 0) = false := by
        simp only [beq_eq_false_iff_ne]
        omega
      by_cases h12 : z4 = 12
      · have hb1 : ((z4 : Int) == 12) = true := by
          rw [h12]
          rfl
        go_wp2
        go_ret2
        exact ⟨u4, 2, rfl, by omega, by omega, HO4.out.1, HO4.out.2, HE4.out⟩
      · have hb1 : ((z4 : Int) == 12) = false := by
          simp only [beq_eq_false_iff_ne]
          omega
        go_wp2
        go_ret2
        exact ⟨u4, 0, rfl, by omega, by omega, HO4.out.1, HO4.out.2, HE4.out⟩
  · have h50I : ¬ (l : Int) ≥ 50 := by omega
    have h50I' : ¬ (50 : Int) ≤ (l : Int) := by omega
    have HIN : Hid (a ≤ i ∧ i < b ∧ a ≤ j ∧ j < b ∧ a ≤ k ∧ k < b) := by
      refine ⟨?_, ?_, ?_, ?_, ?_, ?_⟩ <;> omega
    have c4 := Hid.mk' (median_p s0 i j k q (by have := HIN.out; omega) (by have := HIN.out; omega) (by have := HIN.out; omega) 0 q0 f0 hqg hqp (by omega))
    clear h hl ht hi hj hk hgl hgg hqg hqp s0 q0 f0 hB0
    go_enter Tryd.func70, Tryd.ntmps70
    go_wp2_with fail
    refine (c4.out.mono ?_)
    rintro e w4 ⟨u4, z4, rfl, ho4, hz4, hC4⟩
    have HO4 : Hid (a ≤ u4 ∧ u4 < b) := by
      have := HIN.out
      show _ ∧ _
      omega
    have HE4 : Hid (Sw p g c n w4 D ∧ Below W.heap.size W w4) := ⟨hC4.1, (HBW.out.trans (Keep.below hC4.2.1 (fun k hk e => by have := HQB.out; omega) HBS.out))⟩
    have q4 := hC4.2.2.1
    clear ho4 hz4 hC4 c4
    by_cases h0 : z4 = 0
    · have hb0 : ((z4 : Int) == 0) = true := by
        rw [h0]
        rfl
      go_wp2
      go_ret2
      exact ⟨u4, 1, rfl, by omega, by omega, HO4.out.1, HO4.out.2, HE4.out⟩
    · have hb0 : ((z4 : Int) == 0) = false := by
        simp only [beq_eq_false_iff_ne]
        omega
      by_cases h12 : z4 = 12
      · have hb1 : ((z4 : Int) == 12) = true := by
          rw [h12]
          rfl
        go_wp2
        go_ret2
        exact ⟨u4, 2, rfl, by omega, by omega, HO4.out.1, HO4.out.2, HE4.out⟩
      · have hb1 : ((z4 : Int) == 12) = false := by
          simp only [beq_eq_false_iff_ne]
          omega
        go_wp2
        go_ret2
        exact ⟨u4, 0, rfl, by omega, by omega, HO4.out.1, HO4.out.2, HE4.out⟩
end Hq
end Go.Proofs.YteclbmmhidmklaaDoor
