/- Plain facts: names are dotted names of one part; two dotted names with a dot between. No program is named here. -/
import Derived.Test.YtlfoipddhcdmmabOrder
namespace Go.Proofs.Ytlfoipddhcdmmab
namespace Nm

theorem pieces_two (a b : List UInt8) : pieces (a ++ 46 :: b) = pieces a ++ pieces b := by
  induction a with
  | nil => rw [List.nil_append, pieces_dot]; rfl
  | cons c a ih =>
    by_cases h : c = 46
    · subst h; rw [List.cons_append, pieces_dot, pieces_dot, ih]; rfl
    · rw [List.cons_append, pieces_nodot h, pieces_nodot h, ih]
      cases hp : pieces a with
      | nil => exact absurd hp (pieces_ne a)
      | cons q qs => simp

theorem letter_nodot (c : UInt8) (h : letterB c = true) : c ≠ 46 := by rintro rfl; revert h; decide
theorem more_nodot (c : UInt8) (h : moreB c = true) : c ≠ 46 := by rintro rfl; revert h; decide

theorem pieces_nodots (l : List UInt8) (h : ∀ c ∈ l, c ≠ 46) : pieces l = [l] := by
  induction l with
  | nil => rfl
  | cons c l ih =>
    rw [pieces_nodot (h c (by simp)), ih (fun d hd => h d (by simp [hd]))]
    rfl

theorem name_pieces {l : List UInt8} (h : nameB l = true) : pieces l = [l] := by
  apply pieces_nodots
  intro c hc
  unfold nameB at h
  simp only [Bool.and_eq_true] at h
  cases l with
  | nil => simp at hc
  | cons d l =>
    have h2 := h.2
    simp only [wordB, Bool.and_eq_true, List.all_eq_true, innerB, Bool.or_eq_true] at h2
    rcases List.mem_cons.1 hc with rfl | hc
    · exact letter_nodot _ h2.1
    · rcases h2.2 c hc with h3 | h3
      · exact letter_nodot _ h3
      · exact more_nodot _ h3

theorem name_dotted {l : List UInt8} (h : nameB l = true) : dottedB l = true := by
  unfold dottedB dotN; rw [name_pieces h]; simp [h]

theorem name_parts {l : List UInt8} (h : nameB l = true) : partsL l = [l] := by
  unfold partsL; rw [name_dotted h]; exact name_pieces h

theorem parts_name (l : List UInt8) : ∀ p ∈ partsL l, nameB p = true := by
  unfold partsL
  split
  · rename_i h
    simp only [dottedB, dotN, Bool.and_eq_true, List.all_eq_true] at h
    exact h.2
  · simp

theorem join_parts {l : List UInt8} (h : dottedB l = true) : joinL (partsL l) = l := by
  unfold partsL; rw [if_pos h]; exact join_pieces l

theorem dotted_two (a b : List UInt8) : dottedB (a ++ 46 :: b) = (decide (0 < (partsL a).length) && decide (0 < (partsL b).length) && decide ((partsL a).length + (partsL b).length ≤ 4)) := by
  have e : dottedB (a ++ 46 :: b) = (decide ((pieces a).length + (pieces b).length ≤ 4) && ((pieces a).all nameB && (pieces b).all nameB)) := by
    unfold dottedB dotN; rw [pieces_two]; simp
  by_cases ha : dottedB a = true
  · by_cases hb : dottedB b = true
    · have h1 := parts_pos ha
      have h2 := parts_pos hb
      have ha' := ha
      have hb' := hb
      simp only [dottedB, dotN, Bool.and_eq_true] at ha' hb'
      rw [e, ha'.2, hb'.2]
      unfold partsL at *
      rw [if_pos ha] at *
      rw [if_pos hb] at *
      simp; omega
    · have hb0 : dottedB b = false := by simpa using hb
      have e2 : (partsL b).length = 0 := by unfold partsL; rw [hb0]; rfl
      have hr : (decide (0 < (partsL a).length) && decide (0 < (partsL b).length) && decide ((partsL a).length + (partsL b).length ≤ 4)) = false := by simp [e2]
      rw [hr, e]
      cases h3 : (pieces b).all nameB with
      | false => simp
      | true =>
        have h4 : ¬ (pieces b).length ≤ 4 := by
          intro h; apply hb; unfold dottedB dotN; rw [h3]; simp [h]
        have : ¬ ((pieces a).length + (pieces b).length ≤ 4) := by omega
        simp [this]
  · have ha0 : dottedB a = false := by simpa using ha
    have e2 : (partsL a).length = 0 := by unfold partsL; rw [ha0]; rfl
    have hr : (decide (0 < (partsL a).length) && decide (0 < (partsL b).length) && decide ((partsL a).length + (partsL b).length ≤ 4)) = false := by simp [e2]
    rw [hr, e]
    cases h3 : (pieces a).all nameB with
    | false => simp
    | true =>
      have h4 : ¬ (pieces a).length ≤ 4 := by
        intro h; apply ha; unfold dottedB dotN; rw [h3]; simp [h]
      have : ¬ ((pieces a).length + (pieces b).length ≤ 4) := by omega
      simp [this]

theorem may_under {a b : List UInt8} (h : dottedB (a ++ 46 :: b) = true) : underB (a ++ 46 :: b) a = true ∧ underB a (a ++ 46 :: b) = false := by
  have h0 := h
  rw [dotted_two] at h0
  simp only [Bool.and_eq_true, decide_eq_true_eq] at h0
  have ea : dottedB a = true := by rw [parts_dotted]; simp; omega
  have eb : dottedB b = true := by rw [parts_dotted]; simp; omega
  have e1 : partsL (a ++ 46 :: b) = partsL a ++ partsL b := by
    unfold partsL; rw [if_pos h, if_pos ea, if_pos eb]; exact pieces_two a b
  constructor
  · rw [under_iff, e1]
    exact ⟨h0.1.1, List.prefix_append _ _⟩
  · rw [Bool.eq_false_iff]
    intro hu
    rw [under_iff, e1] at hu
    have := hu.2.length_le
    rw [List.length_append] at this
    omega

theorem join_step (ps : List (List UInt8)) (k : Nat) (hk : k < ps.length) (h0 : 0 < k) : joinL (ps.take (k + 1)) = joinL (ps.take k) ++ [46] ++ ps[k] := by
  induction ps generalizing k with
  | nil => simp at hk
  | cons p ps ih =>
    cases k with
    | zero => omega
    | succ k =>
      have hk' : k < ps.length := by simpa using hk
      cases ps with
      | nil => simp at hk'
      | cons q qs =>
        rcases Nat.eq_zero_or_pos k with rfl | hpos
        · simp [joinL]
        · have := ih k hk' hpos
          obtain ⟨m, rfl⟩ : ∃ m, k = m + 1 := ⟨k - 1, by omega⟩
          simp only [List.take_succ_cons, joinL, List.getElem_cons_succ] at this ⊢
          rw [this]; simp

theorem join_first (ps : List (List UInt8)) (hk : 0 < ps.length) : joinL (ps.take 1) = ps[0] := by
  cases ps with
  | nil => simp at hk
  | cons p ps => simp [joinL]

end Nm
end Go.Proofs.Ytlfoipddhcdmmab
