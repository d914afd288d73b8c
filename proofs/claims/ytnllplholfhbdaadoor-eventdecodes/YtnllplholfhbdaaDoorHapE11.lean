import Derived.Test.YtnllplholfhbdaaDoorEvS
import Derived.Test.YtnllplholfhbdaaDoorWildE
import Derived.Test.YtnllplholfhbdaaDoorCut
import Derived.Test.YtnllplholfhbdaaDoorPacM
import Derived.Deep.RegionHeld3
/- The program's happenings: what an event is behind the interface, and whether it may be. -/
namespace Go.Proofs.YtnllplholfhbdaaDoor
set_option linter.ambiguousOpen false
open Go.RowKit
namespace Ev
namespace Pe
open Pk Sm Ft
set_option linter.unusedSimpArgs false
set_option linter.unusedVariables false

theorem within_c (n lo hi : Int) (w : World) : Calls Tryd.prog 97 #[nu n, nu lo, nu hi] w fun e w' => e = .returned (.bool (inI n lo hi)) ∧ w' = w := by
  by_cases h1 : lo ≤ n
  · by_cases h2 : n ≤ hi
    · have he : inI n lo hi = true := (inI_iff n lo hi).2 ⟨h1, h2⟩
      rw [he]
      go_enter Tryd.func97, Tryd.ntmps97
      go_wp2
      go_ret
      exact ⟨rfl, rfl⟩
    · have he : inI n lo hi = false := by rw [Bool.eq_false_iff, ne_eq, inI_iff]; omega
      rw [he]
      go_enter Tryd.func97, Tryd.ntmps97
      go_wp2
      go_ret
      exact ⟨rfl, rfl⟩
  · have he : inI n lo hi = false := by rw [Bool.eq_false_iff, ne_eq, inI_iff]; omega
    rw [he]
    go_enter Tryd.func97, Tryd.ntmps97
    go_wp2
    go_ret
    exact ⟨rfl, rfl⟩

theorem slot_c (n : Int) (w : World) : Calls Tryd.prog 96 #[nu n] w fun e w' => e = .returned (.bool (inI n 0 31)) ∧ w' = w := by
  have c := Hid.mk' (within_c n 0 31 w)
  obtain ⟨b, hb⟩ : ∃ b, inI n 0 31 = b := ⟨_, rfl⟩
  rw [hb] at c ⊢
  clear hb
  go_enter Tryd.func96, Tryd.ntmps96
  go_wp2_with fail
  refine c.out.mono ?_
  rintro e w' ⟨rfl, rfl⟩
  go_wp2
  go_ret
  exact ⟨rfl, rfl⟩

theorem name_c (l : List UInt8) (w : World) (h : l.length ≤ 65536) : Calls Tryd.prog 98 #[.string (tx l)] w fun e w' => e = .returned (.bool (Nm.nameB l)) ∧ Below w.heap.size w w' := Nm.name_any (tx l) w (by show l.length ≤ maxLen; unfold maxLen; omega)

theorem rev_may (n : Int) (w : World) : Calls Tryd.prog 104 #[.agg #[nu n]] w fun e w' => e = .returned (.bool (inI n 1 1048576)) ∧ Below w.heap.size w w' := by
  have c := Hid.mk' (fun wx => within_c n 1 1048576 wx)
  obtain ⟨b, hb⟩ : ∃ b, inI n 1 1048576 = b := ⟨_, rfl⟩
  rw [hb] at c ⊢
  clear hb
  go_enter Tryd.func104, Tryd.ntmps104
  go_wp2_with fail
  refine (c.out _).mono ?_
  rintro e w' ⟨rfl, rfl⟩
  go_wp2
  go_ret
  exact ⟨rfl, (Below.refl _ _).alloc (Nat.le_refl _) _⟩

theorem tick_may (n : Int) (w : World) : Calls Tryd.prog 106 #[.agg #[nu n]] w fun e w' => e = .returned (.bool (inI n 1 1073741824)) ∧ Below w.heap.size w w' := by
  have c := Hid.mk' (fun wx => within_c n 1 1073741824 wx)
  obtain ⟨b, hb⟩ : ∃ b, inI n 1 1073741824 = b := ⟨_, rfl⟩
  rw [hb] at c ⊢
  clear hb
  go_enter Tryd.func106, Tryd.ntmps106
  go_wp2_with fail
  refine (c.out _).mono ?_
  rintro e w' ⟨rfl, rfl⟩
  go_wp2
  go_ret
  exact ⟨rfl, (Below.refl _ _).alloc (Nat.le_refl _) _⟩

theorem none_may (w : World) : Calls Tryd.prog 108 #[.agg #[]] w fun e w' => e = .returned (.bool false) ∧ Below w.heap.size w w' := by
  go_enter Tryd.func108, Tryd.ntmps108
  go_wp2
  go_ret
  exact ⟨rfl, (Below.refl _ _).alloc (Nat.le_refl _) _⟩

set_option maxRecDepth 100000 in
set_option maxHeartbeats 8000000 in
theorem hang_c (s : Sn) (w : World) (hb : 1 ≤ s.birth ∧ s.birth ≤ 1048576) (hB : 0 ≤ s.born ∧ s.born ≤ 1099511627776) (hD : s.born + 1 ≤ s.deadline ∧ s.deadline ≤ 1099511627776) (hl : s.label.length ≤ 65536) : Calls Tryd.prog 99 #[.agg s.arr] w fun e w' => e = .returned (.bool (mayK s)) ∧ Below w.heap.size w w' := by
  obtain ⟨slot, birth, us, ub, kind, user, label, scopes, level, born, deadline, depth⟩ := s
  simp only at hb hB hD hl
  have c1 := Hid.mk' (fun wx => slot_c us wx)
  have c2 := Hid.mk' (fun wx => within_c ub 1 (birth - 1) wx)
  have c3 := Hid.mk' (fun wx => name_c label wx hl)
  have c4 := Hid.mk' (fun wx => within_c depth 1 6 wx)
  have heq := fun wx => link_eq us ub wx
  obtain ⟨b0, hb0⟩ : ∃ b, (us == 0 && ub == 0) = b := ⟨_, rfl⟩
  obtain ⟨b1, hb1⟩ : ∃ b, inI us 0 31 = b := ⟨_, rfl⟩
  obtain ⟨b2, hb2⟩ : ∃ b, inI ub 1 (birth - 1) = b := ⟨_, rfl⟩
  obtain ⟨b3, hb3⟩ : ∃ b, Nm.nameB label = b := ⟨_, rfl⟩
  obtain ⟨b4, hb4⟩ : ∃ b, inI depth 1 6 = b := ⟨_, rfl⟩
  obtain ⟨b5, hb5⟩ : ∃ b, label.isEmpty = b := ⟨_, rfl⟩
  have hM : mayK ⟨slot, birth, us, ub, kind, user, label, scopes, level, born, deadline, depth⟩ = (if kind = 0 then b0 && b5 && (depth == 0) else if kind = 1 then b1 && b2 && b3 && b4 else if kind = 2 then b1 && b2 && b3 && b4 && decide (deadline ≤ born + 300) else false) := by
    unfold mayK mayC
    simp only [hb0, hb1, hb2, hb3, hb4, hb5]
  obtain ⟨r, hr⟩ : ∃ r, mayK ⟨slot, birth, us, ub, kind, user, label, scopes, level, born, deadline, depth⟩ = r := ⟨_, rfl⟩
  rw [hr]
  rw [hM] at hr
  have HR := Hid.mk' hr
  rw [hb1] at c1
  rw [hb2] at c2
  rw [hb3] at c3
  rw [hb4] at c4
  simp only [hb0] at heq
  have hlb : (tx label).toList.isEmpty = b5 := by
    rw [ByteArray.toList_eq]
    exact hb5
  unfold Sn.arr
  simp only
  obtain ⟨fl, hfl⟩ : ∃ f, tx label = f := ⟨_, rfl⟩
  obtain ⟨fu, hfu⟩ : ∃ f, tx user = f := ⟨_, rfl⟩
  rw [hfl] at c3 hlb ⊢
  rw [hfu]
  have hf5 : b5 = true → fl = ⟨#[]⟩ := fun h => by
    rw [← hfl]
    rw [h] at hb5
    rw [List.isEmpty_iff.1 hb5]
  have HF5 := Hid.mk' hf5
  clear hM hr hb0 hb1 hb2 hb3 hb4 hb5 hfl hfu hl hf5
  have hH : (w.alloc (.cells #[nu slot, nu birth, nu us, nu ub, nu kind, .string fu, .string fl, .int .u64 scopes, nu level, nu born, nu deadline, nu depth] 91)).heap[w.heap.size]? = some (.cells #[nu slot, nu birth, nu us, nu ub, nu kind, .string fu, .string fl, .int .u64 scopes, nu level, nu born, nu deadline, nu depth] 91) := heap_alloc_new _ _
  have hBl : Below w.heap.size w (w.alloc (.cells #[nu slot, nu birth, nu us, nu ub, nu kind, .string fu, .string fl, .int .u64 scopes, nu level, nu born, nu deadline, nu depth] 91)) := (Below.refl _ _).alloc (Nat.le_refl _) _
  have HB := Hid.mk' hBl
  have HH := Hid.mk' hH
  clear hBl hH
  go_enter Tryd.func99, Tryd.ntmps99
  have h2 := HH.out
  have q0 := cell_at (j := 0) h2 rfl
  have q1 := cell_at (j := 1) h2 rfl
  have q2 := cell_at (j := 2) h2 rfl
  have q3 := cell_at (j := 3) h2 rfl
  have q4 := cell_at (j := 4) h2 rfl
  have q5 := cell_at (j := 5) h2 rfl
  have q6 := cell_at (j := 6) h2 rfl
  have q7 := cell_at (j := 7) h2 rfl
  have q8 := cell_at (j := 8) h2 rfl
  have q9 := cell_at (j := 9) h2 rfl
  have q10 := cell_at (j := 10) h2 rfl
  have q11 := cell_at (j := 11) h2 rfl
  clear h2
  go_wp2_with fail
  refine (c1.out _).mono ?_
  rintro e x1 ⟨rfl, rfl⟩
  cases b1 with
  | false =>
    go_upto_region 2 with fail
    clear q0 q1 q2 q3 q4 q5 q6 q7 q8 q9 q10 q11 c2 c3 c4
    have m0 := cell_at (j := 0) HH.out rfl
    have m1 := cell_at (j := 1) HH.out rfl
    have m2 := cell_at (j := 2) HH.out rfl
    have m3 := cell_at (j := 3) HH.out rfl
    have m4 := cell_at (j := 4) HH.out rfl
    have m5 := cell_at (j := 5) HH.out rfl
    have m6 := cell_at (j := 6) HH.out rfl
    have m7 := cell_at (j := 7) HH.out rfl
    have m8 := cell_at (j := 8) HH.out rfl
    have m9 := cell_at (j := 9) HH.out rfl
    have m10 := cell_at (j := 10) HH.out rfl
    have m11 := cell_at (j := 11) HH.out rfl
    by_cases k0 : kind = 0
    · subst k0
      cases b0 with
      | false =>
        go_wp2
        go_ret
        refine ⟨?_, HB.out⟩
        rw [← HR.out]
        simp []
      | true =>
        cases b5 with
        | false =>
          go_wp2
          go_ret
          refine ⟨?_, HB.out⟩
          rw [← HR.out]
          simp []
        | true =>
          obtain rfl := HF5.out rfl
          by_cases d0 : depth = 0
          · subst d0
            go_wp2
            go_ret
            refine ⟨?_, HB.out⟩
            rw [← HR.out]
            simp []
          · skip
            go_wp2
            go_ret
            refine ⟨?_, HB.out⟩
            rw [← HR.out]
            simp [d0]
    · by_cases k1 : kind = 1
      · subst k1
        go_wp2
        go_ret
        refine ⟨?_, HB.out⟩
        rw [← HR.out]
        simp []
      · by_cases k2 : kind = 2
        · subst k2
          go_wp2
          go_ret
          refine ⟨?_, HB.out⟩
          rw [← HR.out]
          simp []
        · skip
          go_wp2
          go_ret
          refine ⟨?_, HB.out⟩
          rw [← HR.out]
          simp [k0, k1, k2]
  | true =>
    go_wp2_with fail
    refine (c2.out _).mono ?_
    rintro e x1 ⟨rfl, rfl⟩
    cases b2 with
    | false =>
      go_upto_region 2 with fail
      clear q0 q1 q2 q3 q4 q5 q6 q7 q8 q9 q10 q11 c3 c4
      have m0 := cell_at (j := 0) HH.out rfl
      have m1 := cell_at (j := 1) HH.out rfl
      have m2 := cell_at (j := 2) HH.out rfl
      have m3 := cell_at (j := 3) HH.out rfl
      have m4 := cell_at (j := 4) HH.out rfl
      have m5 := cell_at (j := 5) HH.out rfl
      have m6 := cell_at (j := 6) HH.out rfl
      have m7 := cell_at (j := 7) HH.out rfl
      have m8 := cell_at (j := 8) HH.out rfl
      have m9 := cell_at (j := 9) HH.out rfl
      have m10 := cell_at (j := 10) HH.out rfl
      have m11 := cell_at (j := 11) HH.out rfl
      by_cases k0 : kind = 0
      · subst k0
        cases b0 with
        | false =>
          go_wp2
          go_ret
          refine ⟨?_, HB.out⟩
          rw [← HR.out]
          simp []
        | true =>
          cases b5 with
          | false =>
            go_wp2
            go_ret
            refine ⟨?_, HB.out⟩
            rw [← HR.out]
            simp []
          | true =>
            obtain rfl := HF5.out rfl
            by_cases d0 : depth = 0
            · subst d0
              go_wp2
              go_ret
              refine ⟨?_, HB.out⟩
              rw [← HR.out]
              simp []
            · skip
              go_wp2
              go_ret
              refine ⟨?_, HB.out⟩
              rw [← HR.out]
              simp [d0]
      · by_cases k1 : kind = 1
        · subst k1
          go_wp2
          go_ret
          refine ⟨?_, HB.out⟩
          rw [← HR.out]
          simp []
        · by_cases k2 : kind = 2
          · subst k2
            go_wp2
            go_ret
            refine ⟨?_, HB.out⟩
            rw [← HR.out]
            simp []
          · skip
            go_wp2
            go_ret
            refine ⟨?_, HB.out⟩
            rw [← HR.out]
            simp [k0, k1, k2]
    | true =>
      go_wp2_with fail
      refine (c3.out _).mono ?_
      rintro e x1 ⟨rfl, hb⟩
      have HH1 := Hid.mk' ((hb.block _ (Array.getElem?_eq_some_iff.1 HH.out).1).trans HH.out)
      have HB1 := Hid.mk' (HB.out.trans (hb.mono HB.out.size))
      clear hb q0 q1 q2 q3 q4 q5 q6 q7 q8 q9 q10 q11
      have h2 := HH1.out
      have q0 := cell_at (j := 0) h2 rfl
      have q1 := cell_at (j := 1) h2 rfl
      have q2 := cell_at (j := 2) h2 rfl
      have q3 := cell_at (j := 3) h2 rfl
      have q4 := cell_at (j := 4) h2 rfl
      have q5 := cell_at (j := 5) h2 rfl
      have q6 := cell_at (j := 6) h2 rfl
      have q7 := cell_at (j := 7) h2 rfl
      have q8 := cell_at (j := 8) h2 rfl
      have q9 := cell_at (j := 9) h2 rfl
      have q10 := cell_at (j := 10) h2 rfl
      have q11 := cell_at (j := 11) h2 rfl
      clear h2
      cases b3 with
      | false =>
        go_upto_region 2 with fail
        clear q0 q1 q2 q3 q4 q5 q6 q7 q8 q9 q10 q11 c4
        have m0 := cell_at (j := 0) HH1.out rfl
        have m1 := cell_at (j := 1) HH1.out rfl
        have m2 := cell_at (j := 2) HH1.out rfl
        have m3 := cell_at (j := 3) HH1.out rfl
        have m4 := cell_at (j := 4) HH1.out rfl
        have m5 := cell_at (j := 5) HH1.out rfl
        have m6 := cell_at (j := 6) HH1.out rfl
        have m7 := cell_at (j := 7) HH1.out rfl
        have m8 := cell_at (j := 8) HH1.out rfl
        have m9 := cell_at (j := 9) HH1.out rfl
        have m10 := cell_at (j := 10) HH1.out rfl
        have m11 := cell_at (j := 11) HH1.out rfl
        by_cases k0 : kind = 0
        · subst k0
          cases b0 with
          | false =>
            go_wp2
            go_ret
            refine ⟨?_, HB1.out⟩
            rw [← HR.out]
            simp []
          | true =>
            cases b5 with
            | false =>
              go_wp2
              go_ret
              refine ⟨?_, HB1.out⟩
              rw [← HR.out]
              simp []
            | true =>
              obtain rfl := HF5.out rfl
              by_cases d0 : depth = 0
              · subst d0
                go_wp2
                go_ret
                refine ⟨?_, HB1.out⟩
                rw [← HR.out]
                simp []
              · skip
                go_wp2
                go_ret
                refine ⟨?_, HB1.out⟩
                rw [← HR.out]
                simp [d0]
        · by_cases k1 : kind = 1
          · subst k1
            go_wp2
            go_ret
            refine ⟨?_, HB1.out⟩
            rw [← HR.out]
            simp []
          · by_cases k2 : kind = 2
            · subst k2
              go_wp2
              go_ret
              refine ⟨?_, HB1.out⟩
              rw [← HR.out]
              simp []
            · skip
              go_wp2
              go_ret
              refine ⟨?_, HB1.out⟩
              rw [← HR.out]
              simp [k0, k1, k2]
      | true =>
        go_wp2_with fail
        refine (c4.out _).mono ?_
        rintro e x2 ⟨rfl, rfl⟩
        cases b4 with
        | false =>
          go_upto_region 2 with fail
          clear q0 q1 q2 q3 q4 q5 q6 q7 q8 q9 q10 q11
          have m0 := cell_at (j := 0) HH1.out rfl
          have m1 := cell_at (j := 1) HH1.out rfl
          have m2 := cell_at (j := 2) HH1.out rfl
          have m3 := cell_at (j := 3) HH1.out rfl
          have m4 := cell_at (j := 4) HH1.out rfl
          have m5 := cell_at (j := 5) HH1.out rfl
          have m6 := cell_at (j := 6) HH1.out rfl
          have m7 := cell_at (j := 7) HH1.out rfl
          have m8 := cell_at (j := 8) HH1.out rfl
          have m9 := cell_at (j := 9) HH1.out rfl
          have m10 := cell_at (j := 10) HH1.out rfl
          have m11 := cell_at (j := 11) HH1.out rfl
          by_cases k0 : kind = 0
          · subst k0
            cases b0 with
            | false =>
              go_wp2
              go_ret
              refine ⟨?_, HB1.out⟩
              rw [← HR.out]
              simp []
            | true =>
              cases b5 with
              | false =>
                go_wp2
                go_ret
                refine ⟨?_, HB1.out⟩
                rw [← HR.out]
                simp []
              | true =>
                obtain rfl := HF5.out rfl
                by_cases d0 : depth = 0
                · subst d0
                  go_wp2
                  go_ret
                  refine ⟨?_, HB1.out⟩
                  rw [← HR.out]
                  simp []
                · skip
                  go_wp2
                  go_ret
                  refine ⟨?_, HB1.out⟩
                  rw [← HR.out]
                  simp [d0]
          · by_cases k1 : kind = 1
            · subst k1
              go_wp2
              go_ret
              refine ⟨?_, HB1.out⟩
              rw [← HR.out]
              simp []
            · by_cases k2 : kind = 2
              · subst k2
                go_wp2
                go_ret
                refine ⟨?_, HB1.out⟩
                rw [← HR.out]
                simp []
              · skip
                go_wp2
                go_ret
                refine ⟨?_, HB1.out⟩
                rw [← HR.out]
                simp [k0, k1, k2]
        | true =>
          go_upto_region 2 with fail
          clear q0 q1 q2 q3 q4 q5 q6 q7 q8 q9 q10 q11
          have m0 := cell_at (j := 0) HH1.out rfl
          have m1 := cell_at (j := 1) HH1.out rfl
          have m2 := cell_at (j := 2) HH1.out rfl
          have m3 := cell_at (j := 3) HH1.out rfl
          have m4 := cell_at (j := 4) HH1.out rfl
          have m5 := cell_at (j := 5) HH1.out rfl
          have m6 := cell_at (j := 6) HH1.out rfl
          have m7 := cell_at (j := 7) HH1.out rfl
          have m8 := cell_at (j := 8) HH1.out rfl
          have m9 := cell_at (j := 9) HH1.out rfl
          have m10 := cell_at (j := 10) HH1.out rfl
          have m11 := cell_at (j := 11) HH1.out rfl
          by_cases k0 : kind = 0
          · subst k0
            cases b0 with
            | false =>
              go_wp2
              go_ret
              refine ⟨?_, HB1.out⟩
              rw [← HR.out]
              simp []
            | true =>
              cases b5 with
              | false =>
                go_wp2
                go_ret
                refine ⟨?_, HB1.out⟩
                rw [← HR.out]
                simp []
              | true =>
                obtain rfl := HF5.out rfl
                by_cases d0 : depth = 0
                · subst d0
                  go_wp2
                  go_ret
                  refine ⟨?_, HB1.out⟩
                  rw [← HR.out]
                  simp []
                · skip
                  go_wp2
                  go_ret
                  refine ⟨?_, HB1.out⟩
                  rw [← HR.out]
                  simp [d0]
          · by_cases k1 : kind = 1
            · subst k1
              go_wp2
              go_ret
              refine ⟨?_, HB1.out⟩
              rw [← HR.out]
              simp []
            · by_cases k2 : kind = 2
              · subst k2
                by_cases hd : deadline ≤ born + 300
                · have hd1 : deadline - born ≤ 300 := by omega
                  go_wp2
                  go_ret
                  refine ⟨?_, HB1.out⟩
                  rw [← HR.out]
                  simp [hd]
                · have hd1 : ¬ deadline - born ≤ 300 := by omega
                  go_wp2
                  go_ret
                  refine ⟨?_, HB1.out⟩
                  rw [← HR.out]
                  simp [hd]
              · skip
                go_wp2
                go_ret
                refine ⟨?_, HB1.out⟩
                rw [← HR.out]
                simp [k0, k1, k2]

set_option maxRecDepth 100000 in
set_option maxHeartbeats 8000000 in
theorem birth_may (s : Sn) (w : World) (hu : s.user.length ≤ 65536) (hl : s.label.length ≤ 65536) : Calls Tryd.prog 94 #[.agg s.arr] w fun e w' => e = .returned (.bool (mayS s)) ∧ Below w.heap.size w w' := by
  have cH : Hid (inI s.birth 1 1048576 = true → inI s.born 0 1099511627776 = true → inI s.deadline (s.born + 1) 1099511627776 = true → ∀ wx, Calls Tryd.prog 99 #[.agg s.arr] wx fun e w' => e = .returned (.bool (mayK s)) ∧ Below wx.heap.size wx w') := fun h1 h2 h3 wx => hang_c s wx ((inI_iff _ _ _).1 h1) ((inI_iff _ _ _).1 h2) ((inI_iff _ _ _).1 h3) hl
  have hM : mayS s = (inI s.slot 0 31 && inI s.birth 1 1048576 && Nm.nameB s.user && inI s.level 0 2 && inI s.born 0 1099511627776 && inI s.deadline (s.born + 1) 1099511627776 && mayK s) := rfl
  rw [hM]
  obtain ⟨b7, hb7⟩ : ∃ b, mayK s = b := ⟨_, rfl⟩
  rw [hb7] at cH ⊢
  clear hM hb7
  obtain ⟨slot, birth, us, ub, kind, user, label, scopes, level, born, deadline, depth⟩ := s
  simp only at cH hu ⊢
  have c1 := Hid.mk' (fun wx => slot_c slot wx)
  have c2 := Hid.mk' (fun wx => within_c birth 1 1048576 wx)
  have c3 := Hid.mk' (fun wx => name_c user wx hu)
  have c4 := Hid.mk' (fun wx => within_c level 0 2 wx)
  have c5 := Hid.mk' (fun wx => within_c born 0 1099511627776 wx)
  have c6 := Hid.mk' (fun wx => within_c deadline (born + 1) 1099511627776 wx)
  have hbn := (inI_iff born 0 1099511627776).1
  obtain ⟨b1, hb1⟩ : ∃ b, inI slot 0 31 = b := ⟨_, rfl⟩
  obtain ⟨b2, hb2⟩ : ∃ b, inI birth 1 1048576 = b := ⟨_, rfl⟩
  obtain ⟨b3, hb3⟩ : ∃ b, Nm.nameB user = b := ⟨_, rfl⟩
  obtain ⟨b4, hb4⟩ : ∃ b, inI level 0 2 = b := ⟨_, rfl⟩
  obtain ⟨b5, hb5⟩ : ∃ b, inI born 0 1099511627776 = b := ⟨_, rfl⟩
  obtain ⟨b6, hb6⟩ : ∃ b, inI deadline (born + 1) 1099511627776 = b := ⟨_, rfl⟩
  rw [hb1] at c1
  rw [hb2] at c2
  rw [hb3] at c3
  rw [hb4] at c4
  rw [hb5] at c5 hbn
  rw [hb6] at c6
  rw [hb2, hb5, hb6] at cH
  rw [hb1, hb2, hb3, hb4, hb5, hb6]
  unfold Sn.arr at cH ⊢
  simp only at cH ⊢
  obtain ⟨fl, hfl⟩ : ∃ f, tx label = f := ⟨_, rfl⟩
  obtain ⟨fu, hfu⟩ : ∃ f, tx user = f := ⟨_, rfl⟩
  rw [hfl] at cH ⊢
  rw [hfu] at cH c3 ⊢
  have HBN := Hid.mk' hbn
  clear hb1 hb2 hb3 hb4 hb5 hb6 hfl hfu hl hu hbn
  have hH : (w.alloc (.cells #[nu slot, nu birth, nu us, nu ub, nu kind, .string fu, .string fl, .int .u64 scopes, nu level, nu born, nu deadline, nu depth] 91)).heap[w.heap.size]? = some (.cells #[nu slot, nu birth, nu us, nu ub, nu kind, .string fu, .string fl, .int .u64 scopes, nu level, nu born, nu deadline, nu depth] 91) := heap_alloc_new _ _
  have hBl : Below w.heap.size w (w.alloc (.cells #[nu slot, nu birth, nu us, nu ub, nu kind, .string fu, .string fl, .int .u64 scopes, nu level, nu born, nu deadline, nu depth] 91)) := (Below.refl _ _).alloc (Nat.le_refl _) _
  have HB := Hid.mk' hBl
  have HH := Hid.mk' hH
  clear hBl hH
  have h2 := HH.out
  have q0 := cell_at (j := 0) h2 rfl
  have q1 := cell_at (j := 1) h2 rfl
  have q2 := cell_at (j := 2) h2 rfl
  have q3 := cell_at (j := 3) h2 rfl
  have q4 := cell_at (j := 4) h2 rfl
  have q5 := cell_at (j := 5) h2 rfl
  have q6 := cell_at (j := 6) h2 rfl
  have q7 := cell_at (j := 7) h2 rfl
  have q8 := cell_at (j := 8) h2 rfl
  have q9 := cell_at (j := 9) h2 rfl
  have q10 := cell_at (j := 10) h2 rfl
  have q11 := cell_at (j := 11) h2 rfl
  clear h2
  go_enter Tryd.func94, Tryd.ntmps94
  go_wp2_with fail
  refine (c1.out _).mono ?_
  rintro e x1 ⟨rfl, rfl⟩
  clear c1
  cases b1 with
  | false =>
    go_wp2
    go_ret
    exact ⟨rfl, HB.out⟩
  | true =>
    go_wp2_with fail
    refine (c2.out _).mono ?_
    rintro e x2 ⟨rfl, rfl⟩
    clear c2
    cases b2 with
    | false =>
      go_wp2
      go_ret
      exact ⟨rfl, HB.out⟩
    | true =>
      go_wp2_with fail
      refine (c3.out _).mono ?_
      rintro e x3 ⟨rfl, hb⟩
      have HH1 := Hid.mk' ((hb.block _ (Array.getElem?_eq_some_iff.1 HH.out).1).trans HH.out)
      have HB1 := Hid.mk' (HB.out.trans (hb.mono HB.out.size))
      clear hb q0 q1 q2 q3 q4 q5 q6 q7 q8 q9 q10 q11
      have h2 := HH1.out
      have q0 := cell_at (j := 0) h2 rfl
      have q1 := cell_at (j := 1) h2 rfl
      have q2 := cell_at (j := 2) h2 rfl
      have q3 := cell_at (j := 3) h2 rfl
      have q4 := cell_at (j := 4) h2 rfl
      have q5 := cell_at (j := 5) h2 rfl
      have q6 := cell_at (j := 6) h2 rfl
      have q7 := cell_at (j := 7) h2 rfl
      have q8 := cell_at (j := 8) h2 rfl
      have q9 := cell_at (j := 9) h2 rfl
      have q10 := cell_at (j := 10) h2 rfl
      have q11 := cell_at (j := 11) h2 rfl
      clear h2
      clear c3
      cases b3 with
      | false =>
        go_wp2
        go_ret
        exact ⟨rfl, HB1.out⟩
      | true =>
        go_wp2_with fail
        refine (c4.out _).mono ?_
        rintro e x4 ⟨rfl, rfl⟩
        clear c4
        cases b4 with
        | false =>
          go_wp2
          go_ret
          exact ⟨rfl, HB1.out⟩
        | true =>
          go_wp2_with fail
          refine (c5.out _).mono ?_
          rintro e x5 ⟨rfl, rfl⟩
          clear c5
          cases b5 with
          | false =>
            go_wp2
            go_ret
            exact ⟨rfl, HB1.out⟩
          | true =>
            have hbn := HBN.out rfl
            obtain ⟨hbn1, hbn2⟩ := hbn
            go_wp2_with fail
            refine (c6.out _).mono ?_
            rintro e x6 ⟨rfl, rfl⟩
            clear c6
            cases b6 with
            | false =>
              go_wp2
              go_ret
              exact ⟨rfl, HB1.out⟩
            | true =>
              go_wp2_with fail
              refine (cH.out (by trivial) (by trivial) (by trivial) _).mono ?_
              rintro e x7 ⟨rfl, hb⟩
              have HB2 := Hid.mk' (HB1.out.trans (hb.mono HB1.out.size))
              clear hb q0 q1 q2 q3 q4 q5 q6 q7 q8 q9 q10 q11
              go_wp2
              go_ret
              exact ⟨rfl, HB2.out⟩
end Pe
end Ev
end Go.Proofs.YtnllplholfhbdaaDoor
