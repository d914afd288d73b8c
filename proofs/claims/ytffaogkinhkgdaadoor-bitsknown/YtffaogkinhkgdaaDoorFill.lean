/- Plain facts: a set's numbers make it again; its rows have just these. No program is named here. -/
import Derived.Test.YtffaogkinhkgdaaDoorAllOf
namespace Go.Proofs.YtffaogkinhkgdaaDoor
namespace Bt

theorem of_nums : ∀ (r acc k : Nat), r < 18446744073709551616 → (∀ j, r.testBit j = true → acc.testBit j = false) → ofG acc k (cast (numsL r 64)) = (acc ||| r, 0, 0) := by
  intro r
  induction r using Nat.strongRecOn with
  | _ r ih =>
    intro acc k hr hd
    by_cases h0 : r = 0
    · subst h0; simp [numsL_zero, cast, ofG]
    · obtain ⟨e1, e2, e3⟩ := nums_low r h0 hr
      obtain ⟨c, ec, hc, h1, h2, h3⟩ := low_bits r h0 hr
      rw [e1, ec]
      have ha : acc.testBit c = false := hd c h2
      have hc0 : (0 : Int) ≤ (c : Int) ∧ (c : Int) < 64 := by omega
      show ofG acc k ((c : Int) :: cast (numsL (r &&& (r - 1)) 64)) = _
      rw [ofG, if_pos hc0, Int.toNat_natCast, ha]
      simp only [Bool.false_eq_true, if_false]
      rw [ih _ e3 _ _ (by omega) (fun j hj => ?_)]
      · congr 1
        refine Nat.eq_of_testBit_eq fun j => ?_
        rw [Nat.testBit_or, or_bit, h3 j, Nat.testBit_or]
        by_cases q : c = j
        · subst q; simp [h2]
        · simp [q]
      · rw [h3 j] at hj
        rw [or_bit]
        simp at hj
        simp [hd j hj.1, hj.2]

/-- The numbers from a on, ahead of b. -/
def seg (a b : Nat) : List Int := (List.range (b - a)).map (fun i : Nat => ((a + i : Nat) : Int))
theorem seg_nil (a : Nat) : seg a a = [] := by simp [seg]
theorem seg_snoc (a b : Nat) (h : a ≤ b) : seg a (b + 1) = seg a b ++ [(b : Int)] := by
  unfold seg
  rw [show b + 1 - a = (b - a) + 1 by omega, List.range_succ, List.map_append]
  simp only [List.map_cons, List.map_nil]
  rw [show a + (b - a) = b by omega]
theorem seg_len (a b : Nat) : (seg a b).length = b - a := by simp [seg]
/-- All numbers of rows. -/
def fill : List (Nat × Nat) → List Int
  | [] => []
  | r :: l => seg r.1 r.2 ++ fill l
theorem fill_append (a b : List (Nat × Nat)) : fill (a ++ b) = fill a ++ fill b := by
  induction a with
  | nil => rfl
  | cons r l ih => simp [fill, ih]
theorem fill_rows (s : Nat) : ∀ n, cast (numsL s n) = fill (rowsTo s n) ++ (if s.testBit n then seg (start s n) n else [])
  | 0 => by simp [numsL, cast, rowsTo, fill, start, seg_nil]
  | n + 1 => by
    have hst := start_le s n
    rw [numsL_succ, cast_append, fill_rows s n, rowsTo, fill_append, start]
    cases ha : s.testBit n <;> cases hb : s.testBit (n + 1) <;> simp [fill, seg_snoc _ _ hst, seg_nil, cast]
theorem fill_all (s : Nat) (hs : s < 18446744073709551616) : numsTo s 64 = fill (rowsTo s 64) := by
  have := fill_rows s 64
  rw [bit_high hs (Nat.le_refl _)] at this
  rw [numsTo_eq]
  simpa using this
theorem next_row {s : Nat} : ∀ (n : Nat) {pre : List (Nat × Nat)} {r : Nat × Nat}, pre ++ [r] <+: rowsTo s n → ∃ x, x < n ∧ r = (start s x, x + 1) ∧ pre = rowsTo s x ∧ s.testBit x = true ∧ s.testBit (x + 1) = false
  | 0, pre, r, h => by
    have := h.length_le
    simp [rowsTo] at this
  | n + 1, pre, r, h => by
    by_cases hc : (s.testBit n && !s.testBit (n + 1)) = true
    · rw [rowsTo, hc] at h
      simp only [if_true] at h
      rcases Nat.lt_or_ge pre.length (rowsTo s n).length with hl | hl
      · have h' : pre ++ [r] <+: rowsTo s n := by
          refine List.prefix_of_prefix_length_le h ⟨_, rfl⟩ (by simp; omega)
        obtain ⟨x, hx, q⟩ := next_row n h'
        exact ⟨x, by omega, q⟩
      · have hlen := h.length_le
        have e : pre ++ [r] = rowsTo s n ++ [(start s n, n + 1)] := h.eq_of_length (by simp at hlen ⊢; omega)
        obtain ⟨e1, e2⟩ := List.append_inj' e rfl
        simp only [List.cons.injEq, and_true] at e2
        simp at hc
        exact ⟨n, by omega, e2, e1, hc.1, hc.2⟩
    · have : rowsTo s (n + 1) = rowsTo s n := by
        rw [rowsTo]; simp only [hc]; simp
      rw [this] at h
      obtain ⟨x, hx, q⟩ := next_row n h
      exact ⟨x, by omega, q⟩
theorem start_in (s : Nat) : ∀ x, s.testBit x = true → ∀ j, start s x ≤ j → j ≤ x → s.testBit j = true
  | 0, h, j, _, h2 => by obtain rfl : j = 0 := by omega
                         exact h
  | x + 1, h, j, h1, h2 => by
    rcases Nat.lt_or_ge j (x + 1) with q | q
    · rw [start] at h1
      cases hx : s.testBit x with
      | false => rw [hx] at h1; simp at h1; omega
      | true => rw [hx] at h1; exact start_in s x hx j (by simpa using h1) (by omega)
    · obtain rfl : j = x + 1 := by omega
      exact h
theorem row_ends (s : Nat) : ∀ n, ∀ r ∈ rowsTo s n, r.2 ≤ n ∧ s.testBit r.2 = false
  | 0, r, h => by simp [rowsTo] at h
  | n + 1, r, h => by
    rw [rowsTo, List.mem_append] at h
    rcases h with h | h
    · have := row_ends s n r h
      exact ⟨by omega, this.2⟩
    · split at h
      · rename_i hc
        simp at h hc
        subst h
        exact ⟨Nat.le_refl _, hc.2⟩
      · simp at h
/-- Where the last row ends; -1: there is none. -/
def lastEnd (l : List (Nat × Nat)) : Int := match l.getLast? with
  | none => -1
  | some r => (r.2 : Int)
theorem lastEnd_snoc (l : List (Nat × Nat)) (r : Nat × Nat) : lastEnd (l ++ [r]) = (r.2 : Int) := by simp [lastEnd]
theorem lastEnd_lt {s x : Nat} (hx : s.testBit x = true) : lastEnd (rowsTo s x) < (start s x : Int) := by
  unfold lastEnd
  cases h : (rowsTo s x).getLast? with
  | none => simp; omega
  | some r =>
    obtain ⟨h1, h2⟩ := row_ends s x r (List.mem_of_getLast? h)
    have : r.2 < start s x := by
      rcases Nat.lt_or_ge r.2 (start s x) with q | q
      · exact q
      · have := start_in s x hx r.2 q h1
        rw [this] at h2; cases h2
    simp; omega
theorem lastEnd_ge (l : List (Nat × Nat)) : -1 ≤ lastEnd l := by
  unfold lastEnd
  split <;> omega
theorem fill_len (s n : Nat) : (fill (rowsTo s n)).length ≤ n := by
  have := congrArg List.length (fill_rows s n)
  have h2 := numsTo_le s n
  rw [numsTo_eq] at h2
  rw [List.length_append] at this
  simp only [cast] at this
  omega
end Bt
end Go.Proofs.YtffaogkinhkgdaaDoor
