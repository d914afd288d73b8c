/- The program's order of entries: cmp.Compare, cmp.Or, compare, isAhead. -/
import Derived.Test.YthjdpfmnbmnbhaaHqS
import Derived.Deep.RegionHeld3
import Derived.BigQuiet
import Derived.Deep.CutBlock
namespace Go.Proofs.Ythjdpfmnbmnbhaa
set_option linter.ambiguousOpen false
open Go.RowKit
namespace Hq
open Hh Ft
set_option linter.unusedSimpArgs false
set_option linter.unusedVariables false
attribute [local go_sem] Oper.semAt_some

theorem cell_lt {w : World} {a : Addr} {v : Value} (h : w.cell? a = some v) : a.block < w.heap.size := by
  unfold World.cell? at h
  rcases Nat.lt_or_ge a.block w.heap.size with hl | hl
  · exact hl
  · simp [Array.getElem?_eq_none hl] at h

def cmpI (a b : Int) : Int := if a < b then -1 else if b < a then 1 else 0

def cmpE (a b : It) : Int := if cmpI a.k b.k ≠ 0 then cmpI a.k b.k else cmpI a.i b.i

theorem cmpI_lt (a b : Int) : cmpI a b < 0 ↔ a < b := by
  unfold cmpI
  repeat' split
  all_goals omega

theorem cmpI_ne (a b : Int) : cmpI a b ≠ 0 ↔ a ≠ b := by
  unfold cmpI
  repeat' split
  all_goals omega

theorem cmpE_lt (a b : It) : cmpE a b < 0 ↔ ahd a b = true := by
  rw [ahd_iff]
  unfold cmpE
  have h1 := cmpI_ne a.k b.k
  by_cases h : a.k = b.k
  · rw [if_neg (by rw [h1]; exact fun z => z h), cmpI_lt]
    omega
  · rw [if_pos (h1.2 h), cmpI_lt]
    omega

theorem cmpE_dec (a b : It) : decide (cmpE a b < 0) = ahd a b := by
  rw [Bool.eq_iff_iff, decide_eq_true_iff]
  exact cmpE_lt a b

theorem isnan_p (x : Int) (w : World) : Calls Try.prog 34 #[nu x] w fun e w' => e = .returned (.bool false) ∧ w' = w := by
  go_enter Try.func34, Try.ntmps34
  go_wp2
  go_ret
  simp

set_option maxRecDepth 100000 in
theorem compareI_p (a b : Int) (w : World) : Calls Try.prog 24 #[nu a, nu b] w fun e w' => e = .returned (nu (cmpI a b)) ∧ w' = w := by
  have c1 := isnan_p a w
  have c2 := isnan_p b w
  unfold cmpI
  by_cases h1 : a < b
  · have d1 : decide (a < b) = true := decide_eq_true h1
    rw [if_pos h1]
    go_enter Try.func24, Try.ntmps24
    go_wp2_with fail
    refine c1.mono ?_
    rintro e w1 ⟨rfl, rfl⟩
    go_wp2_with fail
    refine c2.mono ?_
    rintro e w2 ⟨rfl, rfl⟩
    go_wp2
    go_ret
    exact ⟨rfl, rfl⟩
  · have d1 : decide (a < b) = false := decide_eq_false h1
    rw [if_neg h1]
    by_cases h2 : b < a
    · have d2 : decide (b < a) = true := decide_eq_true h2
      rw [if_pos h2]
      go_enter Try.func24, Try.ntmps24
      go_wp2_with fail
      refine c1.mono ?_
      rintro e w1 ⟨rfl, rfl⟩
      go_wp2_with fail
      refine c2.mono ?_
      rintro e w2 ⟨rfl, rfl⟩
      go_wp2
      go_ret
      exact ⟨rfl, rfl⟩
    · have d2 : decide (b < a) = false := decide_eq_false h2
      rw [if_neg h2]
      go_enter Try.func24, Try.ntmps24
      go_wp2_with fail
      refine c1.mono ?_
      rintro e w1 ⟨rfl, rfl⟩
      go_wp2_with fail
      refine c2.mono ?_
      rintro e w2 ⟨rfl, rfl⟩
      go_wp2
      go_ret
      exact ⟨rfl, rfl⟩

set_option maxRecDepth 100000 in
theorem or_p (a b : Int) (g : Nat) (w : World) (h0 : w.cell? ⟨g, 0, none⟩ = some (nu a)) (h1 : w.cell? ⟨g, 1, none⟩ = some (nu b)) :
    Calls Try.prog 45 #[slc g 2 2] w fun e w' => e = .returned (nu (if a ≠ 0 then a else b)) ∧ w' = w := by
  obtain ⟨r, hr⟩ : ∃ r, (if a ≠ 0 then a else b) = r := ⟨_, rfl⟩
  rw [hr]
  have HR := Hid.mk' hr
  have H0 := Hid.mk' h0
  have H1 := Hid.mk' h1
  clear hr h0 h1
  go_enter Try.func45, Try.ntmps45
  go_wp2
  go_loopw [5, 8] (fun x kv wr => ∃ k : Nat, k ≤ 2 ∧ kv = nun k ∧ Hid (wr = w ∧ (0 < k → a = 0) ∧ (1 < k → b = 0))) (fun _ kv _ => 2 - (intOf kv).toNat)
  case atStart => exact ⟨0, by omega, rfl, rfl, by omega, by omega⟩
  case round =>
    obtain ⟨k, hk, rfl, HL⟩ := hrel
    have hwr := HL.out.1
    subst hwr
    rcases Nat.lt_or_ge k 2 with hlt | hge
    · have hkI : (k : Int) < 2 := by omega
      have hcell : ∃ c, wr.cell? ⟨g, k, none⟩ = some (nu c) ∧ Hid ((k = 0 → c = a) ∧ (k = 1 → c = b)) := by
        rcases Nat.lt_or_ge k 1 with h | h
        · obtain rfl : k = 0 := by omega
          exact ⟨a, H0.out, fun _ => rfl, by omega⟩
        · obtain rfl : k = 1 := by omega
          exact ⟨b, H1.out, by omega, fun _ => rfl⟩
      obtain ⟨c, hc, HC⟩ := hcell
      by_cases hz : c = 0
      · subst hz
        have HL2 : Hid ((0 < k + 1 → a = 0) ∧ (1 < k + 1 → b = 0)) := by
          refine ⟨fun _ => ?_, fun h => ?_⟩
          · rcases Nat.lt_or_ge k 1 with h | h
            · exact (HC.out.1 (by omega)).symm
            · exact HL.out.2.1 (by omega)
          · exact (HC.out.2 (by omega)).symm
        go_wp2
        go_roundw
        case rel => exact ⟨k + 1, by omega, by go_num, by simp, HL2.out⟩
        case measure => simp [intOf]; omega
      · have hb : (c == 0) = false := by simpa using hz
        have HRC : Hid (c = r) := by
          show _ = _
          rw [← HR.out]
          rcases Nat.lt_or_ge k 1 with h | h
          · have := HC.out.1 (by omega)
            rw [if_pos (by rw [← this]; exact hz), this]
          · have h1 := HC.out.2 (by omega)
            have h2 := HL.out.2.1 (by omega)
            rw [if_neg (by rw [h2]; simp), h1]
        clear hz
        go_wp2
        go_ret
        exact ⟨by rw [HRC.out]; rfl, rfl⟩
    · obtain rfl : k = 2 := by omega
      have HRC : Hid ((0 : Int) = r) := by
        show _ = _
        rw [← HR.out, if_neg (by rw [HL.out.2.1 (by omega)]; simp)]
        exact (HL.out.2.2 (by omega)).symm
      go_wp2
      go_ret
      exact ⟨by rw [← HRC.out]; rfl, rfl⟩

set_option maxRecDepth 100000 in
set_option maxHeartbeats 2000000 in
theorem compare_p (p : Nat) (a b : It) (w : World) (h0 : w.cell? ⟨p, 0, none⟩ = some ordV) :
    Calls Try.prog 44 #[ptr p, .agg #[nu a.i, nu a.k], .agg #[nu b.i, nu b.k]] w fun e w' => e = .returned (nu (cmpE a b)) ∧ Below w.heap.size w w' := by
  obtain ⟨ai, ak⟩ := a
  obtain ⟨bi, bk⟩ := b
  unfold cmpE
  dsimp only
  obtain ⟨c1, hc1⟩ : ∃ c, cmpI ak bk = c := ⟨_, rfl⟩
  obtain ⟨c2, hc2⟩ : ∃ c, cmpI ai bi = c := ⟨_, rfl⟩
  have e1 : ∀ wx, Calls Try.prog 24 #[nu ak, nu bk] wx fun e w' => e = .returned (nu c1) ∧ w' = wx := fun wx => by rw [← hc1]; exact compareI_p ak bk wx
  have e2 : ∀ wx, Calls Try.prog 24 #[nu ai, nu bi] wx fun e w' => e = .returned (nu c2) ∧ w' = wx := fun wx => by rw [← hc2]; exact compareI_p ai bi wx
  rw [hc1, hc2]
  obtain ⟨r, hr⟩ : ∃ r, (if c1 ≠ 0 then c1 else c2) = r := ⟨_, rfl⟩
  rw [hr]
  have HRR := Hid.mk' hr
  clear hr
  have plt : p < w.heap.size := cell_lt h0
  have E1 := Hid.mk' e1
  have E2 := Hid.mk' e2
  clear hc1 hc2 e1 e2
  go_enter Try.func44, Try.ntmps44
  go_upto_region 1 with fail
  obtain ⟨w2, hw2⟩ : ∃ w2, (w.alloc (.cells #[nu ai, nu ak] 70)).alloc (.cells #[nu bi, nu bk] 70) = w2 := ⟨_, rfl⟩
  obtain ⟨n, hn⟩ : ∃ n, w.heap.size = n := ⟨_, rfl⟩
  have hB : Below w.heap.size w w2 := by rw [← hw2]; exact ((Below.refl _ _).alloc (Nat.le_refl _) _).alloc (by simp) _
  have q0 : w2.cell? ⟨p, 0, none⟩ = some ordV := (hB.cell (p := ⟨p, 0, none⟩) plt).trans h0
  have q1 : w2.cell? ⟨n, 0, none⟩ = some (nu ai) ∧ w2.cell? ⟨n, 1, none⟩ = some (nu ak) ∧ w2.cell? ⟨n + 1, 0, none⟩ = some (nu bi) ∧ w2.cell? ⟨n + 1, 1, none⟩ = some (nu bk) := by
    rw [← hw2, ← hn]
    simp
  have hs2 : w2.heap.size = n + 2 := by rw [← hw2, ← hn]; simp
  have HB := Hid.mk' hB
  rw [hw2, hn]
  clear hw2 hB h0
  have hS : w2.drew.cell? ⟨p, 0, none⟩ = some ordV ∧ w2.drew.cell? ⟨n, 0, none⟩ = some (nu ai) ∧ w2.drew.cell? ⟨n, 1, none⟩ = some (nu ak) ∧ w2.drew.cell? ⟨n + 1, 0, none⟩ = some (nu bi) ∧ w2.drew.cell? ⟨n + 1, 1, none⟩ = some (nu bk) := ⟨q0, q1⟩
  have HS := Hid.mk' hS
  have hSA : ∀ o, (w2.alloc o).drew.cell? ⟨p, 0, none⟩ = some ordV ∧ (w2.alloc o).drew.cell? ⟨n, 0, none⟩ = some (nu ai) ∧ (w2.alloc o).drew.cell? ⟨n, 1, none⟩ = some (nu ak) ∧ (w2.alloc o).drew.cell? ⟨n + 1, 0, none⟩ = some (nu bi) ∧ (w2.alloc o).drew.cell? ⟨n + 1, 1, none⟩ = some (nu bk) := fun o => by
    have hb : Below w2.heap.size w2 (w2.alloc o).drew := ((Below.refl _ _).alloc (Nat.le_refl _) o).drew
    exact ⟨(hb.cell (p := ⟨p, 0, none⟩) (cell_lt q0)).trans q0, (hb.cell (p := ⟨n, 0, none⟩) (cell_lt q1.1)).trans q1.1, (hb.cell (p := ⟨n, 1, none⟩) (cell_lt q1.2.1)).trans q1.2.1, (hb.cell (p := ⟨n + 1, 0, none⟩) (cell_lt q1.2.2.1)).trans q1.2.2.1, (hb.cell (p := ⟨n + 1, 1, none⟩) (cell_lt q1.2.2.2)).trans q1.2.2.2⟩
  have HSA := Hid.mk' hSA
  clear hSA
  obtain ⟨q1, q2, q3, q4⟩ := q1
  have eO : Calls Try.prog 45 #[slc w2.heap.size 2 2] (w2.alloc (.cells #[nu c1, nu c2] 3)).drew fun e w' => e = .returned (nu r) ∧ w' = (w2.alloc (.cells #[nu c1, nu c2] 3)).drew := by
    have := or_p c1 c2 w2.heap.size (w2.alloc (.cells #[nu c1, nu c2] 3)).drew (by simp) (by simp)
    rwa [HRR.out] at this
  rw [show slc w2.heap.size 2 2 = slc (n + 2) 2 2 by rw [hs2]] at eO
  have EO := Hid.mk' eO
  clear hS eO
  go_region_held3 (fun w' => w'.cell? ⟨p, 0, none⟩ = some ordV ∧ w'.cell? ⟨n, 0, none⟩ = some (nu ai) ∧ w'.cell? ⟨n, 1, none⟩ = some (nu ak) ∧ w'.cell? ⟨n + 1, 0, none⟩ = some (nu bi) ∧ w'.cell? ⟨n + 1, 1, none⟩ = some (nu bk)) (first | assumption | exact HS.out | exact HSA.out _ | fail) (first | (go_at_call 24; first | (with_reducible refine (E1.out _).mono ?_; rintro e w5 ⟨rfl, rfl⟩) | (with_reducible refine (E2.out _).mono ?_; rintro e w5 ⟨rfl, rfl⟩)) | (go_at_call 45; with_reducible refine EO.out.mono ?_; rintro e w5 ⟨rfl, rfl⟩) | fail)
  go_wp2
  go_ret
  refine ⟨rfl, ?_⟩
  exact (HB.out.alloc HB.out.size _).drew

set_option maxRecDepth 100000 in
set_option maxHeartbeats 2000000 in
theorem isAhead_p {w : World} {p rb rc ab ac n m : Nat} {D : List It} {A : List Int} (h : Lay w p rb rc ab ac n m D A) (a b : Nat) (ha : a < n) (hb : b < n) :
    Calls Try.prog 43 #[ptr p, nun a, nun b] w fun e w' => e = .returned (.bool (ahd (atD D a) (atD D b))) ∧ Below w.heap.size w w' := by
  obtain ⟨q0, q1, _, _⟩ := h.cells
  obtain ⟨a0, a1, _, _⟩ := h.rowAt ha
  obtain ⟨b0, b1, _, _⟩ := h.rowAt hb
  have hcap := h.caps
  unfold maxLen at hcap
  have hrc : (rc : Int) ≤ 9223372036854775807 := by omega
  have haI : (a : Int) < (n : Int) := by omega
  have hbI : (b : Int) < (n : Int) := by omega
  have ha0 : (0 : Int) ≤ (a : Int) := by omega
  have hb0 : (0 : Int) ≤ (b : Int) := by omega
  obtain ⟨x, hx⟩ : ∃ x, atD D a = x := ⟨_, rfl⟩
  obtain ⟨y, hy⟩ : ∃ y, atD D b = y := ⟨_, rfl⟩
  rw [hx] at a0 a1
  rw [hy] at b0 b1
  rw [hx, hy]
  have E1 := Hid.mk' (compare_p p x y w.drew q0)
  obtain ⟨xi, xk⟩ := x
  obtain ⟨yi, yk⟩ := y
  dsimp only at a0 a1 b0 b1 E1
  obtain ⟨r, hr⟩ : ∃ r, cmpE ⟨xi, xk⟩ ⟨yi, yk⟩ = r := ⟨_, rfl⟩
  rw [hr] at E1
  obtain ⟨s, hs⟩ : ∃ s, ahd ⟨xi, xk⟩ ⟨yi, yk⟩ = s := ⟨_, rfl⟩
  have HS : Hid (decide (r < 0) = s) := by
    show _ = _
    rw [← hr, ← hs]
    exact cmpE_dec _ _
  rw [hs]
  have HSD : Hid (w.drew.cell? ⟨p, 1, none⟩ = some (slc rb n rc) ∧ w.drew.cell? ⟨rb, a * 2, none⟩ = some (nu xi) ∧ w.drew.cell? ⟨rb, a * 2 + 1, none⟩ = some (nu xk) ∧ w.drew.cell? ⟨rb, b * 2, none⟩ = some (nu yi) ∧ w.drew.cell? ⟨rb, b * 2 + 1, none⟩ = some (nu yk)) := ⟨q1, a0, a1, b0, b1⟩
  clear h hx hy hr hs hcap q0
  go_enter Try.func43, Try.ntmps43
  go_upto_region 1 with fail
  go_region_held3 (fun w' => w'.cell? ⟨p, 1, none⟩ = some (slc rb n rc) ∧ w'.cell? ⟨rb, a * 2, none⟩ = some (nu xi) ∧ w'.cell? ⟨rb, a * 2 + 1, none⟩ = some (nu xk) ∧ w'.cell? ⟨rb, b * 2, none⟩ = some (nu yi) ∧ w'.cell? ⟨rb, b * 2 + 1, none⟩ = some (nu yk)) (first | assumption | exact HSD.out | exact hs5 | fail) (first | (go_at_call 44; with_reducible refine E1.out.mono ?_; rintro e w5 ⟨rfl, HB5⟩; have hs5 : w5.cell? ⟨p, 1, none⟩ = some (slc rb n rc) ∧ w5.cell? ⟨rb, a * 2, none⟩ = some (nu xi) ∧ w5.cell? ⟨rb, a * 2 + 1, none⟩ = some (nu xk) ∧ w5.cell? ⟨rb, b * 2, none⟩ = some (nu yi) ∧ w5.cell? ⟨rb, b * 2 + 1, none⟩ = some (nu yk) := ⟨(HB5.cell (p := ⟨p, 1, none⟩) (cell_lt HSD.out.1)).trans HSD.out.1, (HB5.cell (p := ⟨rb, a * 2, none⟩) (cell_lt HSD.out.2.1)).trans HSD.out.2.1, (HB5.cell (p := ⟨rb, a * 2 + 1, none⟩) (cell_lt HSD.out.2.2.1)).trans HSD.out.2.2.1, (HB5.cell (p := ⟨rb, b * 2, none⟩) (cell_lt HSD.out.2.2.2.1)).trans HSD.out.2.2.2.1, (HB5.cell (p := ⟨rb, b * 2 + 1, none⟩) (cell_lt HSD.out.2.2.2.2)).trans HSD.out.2.2.2.2⟩) | fail)
  go_wp2
  go_ret
  refine ⟨?_, (Below.refl _ _).drew.trans HB5⟩
  show Ending.returned (Value.bool (decide (r < 0))) = _
  rw [HS.out]
end Hq
end Go.Proofs.Ythjdpfmnbmnbhaa
