/- Tokens and their forms are one to one: plain facts. -/
import Derived.Test.YtkkpcngdpnoidaaRefQ8
namespace Go.Proofs.Ytkkpcngdpnoidaa
set_option linter.ambiguousOpen false
open Go.RowKit
namespace Tk
open Sm
set_option linter.unusedSimpArgs false
set_option linter.unusedVariables false

theorem ixN_of_lt (d : Nat) (h : d < 32) : ixN (lt d) = d := by unfold ixN; rw [ix_lt d h]; rfl

theorem lt_of_ixN (c : UInt8) (h : (ix c).isSome = true) : lt (ixN c) = c := by
  obtain ⟨d, hd⟩ := Option.isSome_iff_exists.1 h
  unfold ixN
  rw [hd]
  exact (ixTo_some c 32 d hd).2

theorem told_form (s b t : Nat) (hs : s < 256) (hb : b < 16777216) (ht : t < 18446744073709551616) : told (form s b t) = num s b t := by
  unfold told form
  rw [List.drop_succ_cons, List.drop_zero, List.map_map]
  have h1 : (dg (num s b t) 20).map (ixN ∘ lt) = dg (num s b t) 20 := by
    have : ∀ D : List Nat, (∀ d ∈ D, d < 32) → D.map (ixN ∘ lt) = D := fun D h => by
      induction D with
      | nil => rfl
      | cons d D ih =>
        rw [List.map_cons, ih (fun x hx => h x (List.mem_cons_of_mem _ hx))]
        show ixN (lt d) :: D = d :: D
        rw [ixN_of_lt d (h d (by simp))]
    exact this _ (dg_lt _ _)
  rw [h1, nd_dg, Nat.mod_eq_of_lt (num_parts s b t hs hb ht).1]

theorem all_form (s b t : Nat) : (((form s b t).drop 1).all fun c => (ix c).isSome) = true := by
  unfold form
  rw [List.drop_succ_cons, List.drop_zero, List.all_eq_true]
  intro c hc
  obtain ⟨d, hd, rfl⟩ := List.mem_map.1 hc
  rw [ix_lt d (dg_lt _ _ d hd)]
  rfl

theorem may_iff (s b : Int) : mayB s b = true ↔ 0 ≤ s ∧ s < 32 ∧ 1 ≤ b ∧ b ≤ 1048576 := by
  unfold mayB
  exact decide_eq_true_iff

/-- What was written is read. -/
theorem prs_form (s b t : Nat) (hs : s < 32) (hb1 : 1 ≤ b) (hb : b ≤ 1048576) (ht : t < 18446744073709551616) : prs (form s b t) = ⟨0, s, b, t⟩ := by
  have hl := form_len s b t
  obtain ⟨p1, p2, p3, p4, p5⟩ := num_parts s b t (by omega) (by omega) ht
  have hm : mayB ((num s b t / 2 ^ 92 : Nat) : Int) ((num s b t / 2 ^ 68 % 16777216 : Nat) : Int) = true := by
    rw [p2, p3, may_iff]
    omega
  have h116 : byI (form s b t) 0 = 116 := rfl
  unfold prs
  rw [if_neg (by omega), if_neg (by omega), if_neg (by simp [h116]), all_form, if_neg (by decide), told_form s b t (by omega) (by omega) ht, p5, if_neg (by decide), hm, if_neg (by decide), p2, p3, p4]

/-- What was read is written. -/
theorem form_prs (l : List UInt8) (h : (prs l).no = 0) : form (prs l).s (prs l).b (prs l).t = l ∧ (prs l).s < 32 ∧ 1 ≤ (prs l).b ∧ (prs l).b ≤ 1048576 ∧ (prs l).t < 18446744073709551616 := by
  unfold prs at *
  by_cases h1 : l.length < 21
  · rw [if_pos h1] at h; simp at h
  rw [if_neg h1] at h ⊢
  by_cases h2 : 21 < l.length
  · rw [if_pos h2] at h; simp at h
  rw [if_neg h2] at h ⊢
  by_cases h3 : byI l 0 ≠ 116
  · rw [if_pos h3] at h; simp at h
  rw [if_neg h3] at h ⊢
  cases h4 : ((l.drop 1).all fun c => (ix c).isSome) with
  | false => rw [h4, if_pos rfl] at h; simp at h
  | true =>
    rw [h4, if_neg (by decide)] at h
    rw [if_neg (by decide)]
    by_cases h5 : told l % 16 ≠ 0
    · rw [if_pos h5] at h; simp at h
    rw [if_neg h5] at h ⊢
    cases h6 : mayB ((told l / 2 ^ 92 : Nat) : Int) ((told l / 2 ^ 68 % 16777216 : Nat) : Int) with
    | false => rw [h6, if_pos rfl] at h; simp at h
    | true =>
      rw [if_neg (by decide)]
      have hD : ∀ d ∈ (l.drop 1).map ixN, d < 32 := fun d hd => by
        obtain ⟨c, _, rfl⟩ := List.mem_map.1 hd
        exact ixN_lt c
      have hlen : ((l.drop 1).map ixN).length = 20 := by rw [List.length_map, List.length_drop]; omega
      have hN : told l < 32 ^ 20 := by
        have := nb_lt (bitsL (l.drop 1))
        rw [nb_bitsL, bitsL_len, List.length_drop, show l.length - 1 = 20 by omega] at this
        unfold told
        exact Nat.lt_of_lt_of_le this (by decide)
      obtain ⟨nb1, nb2⟩ := num_back (told l) hN (by omega)
      have hm := (may_iff _ _).1 h6
      refine ⟨?_, ?_, ?_, ?_, ?_⟩
      · show form (told l / 2 ^ 92) (told l / 2 ^ 68 % 16777216) (told l / 16 % 18446744073709551616) = l
        unfold form
        rw [nb1]
        have hd := dg_nd ((l.drop 1).map ixN) hD
        rw [hlen] at hd
        have e : dg (told l) 20 = (l.drop 1).map ixN := hd
        rw [e, List.map_map]
        have e2 : (l.drop 1).map (lt ∘ ixN) = l.drop 1 := by
          have : ∀ r : List UInt8, (∀ c ∈ r, (ix c).isSome = true) → r.map (lt ∘ ixN) = r := fun r hr => by
            induction r with
            | nil => rfl
            | cons c r ih =>
              rw [List.map_cons, ih (fun x hx => hr x (List.mem_cons_of_mem _ hx))]
              show lt (ixN c) :: r = c :: r
              rw [lt_of_ixN c (hr c (by simp))]
          exact this _ (List.all_eq_true.1 h4)
        rw [e2]
        cases l with
        | nil => simp at h1
        | cons c r =>
          have : c = 116 := by
            have h3' : byI (c :: r) 0 = 116 := by simpa using h3
            exact h3'
          rw [this]; rfl
      · show told l / 2 ^ 92 < 32
        omega
      · show 1 ≤ told l / 2 ^ 68 % 16777216
        omega
      · show told l / 2 ^ 68 % 16777216 ≤ 1048576
        omega
      · show told l / 16 % 18446744073709551616 < 18446744073709551616
        exact Nat.mod_lt _ (by decide)

theorem form_inj (s b t s' b' t' : Nat) (hs : s < 32) (hb1 : 1 ≤ b) (hb : b ≤ 1048576) (ht : t < 18446744073709551616) (hs' : s' < 32) (hb1' : 1 ≤ b') (hb' : b' ≤ 1048576) (ht' : t' < 18446744073709551616) (h : form s b t = form s' b' t') : s = s' ∧ b = b' ∧ t = t' := by
  have h1 := prs_form s b t hs hb1 hb ht
  rw [h, prs_form s' b' t' hs' hb1' hb' ht'] at h1
  simp only [Rd8.mk.injEq, true_and] at h1
  exact ⟨h1.1.symm, h1.2.1.symm, h1.2.2.symm⟩

/-- Which numbers tell why a text is none. -/
theorem prs_no (l : List UInt8) : (prs l).no ≤ 4 ∧ ((prs l).no ≠ 0 → (prs l).s = 0 ∧ (prs l).b = 0 ∧ (prs l).t = 0) := by
  unfold prs
  repeat' split
  all_goals simp
end Tk
end Go.Proofs.Ytkkpcngdpnoidaa
