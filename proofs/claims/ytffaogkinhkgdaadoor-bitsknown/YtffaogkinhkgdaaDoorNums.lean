/- Plain facts on the numbers of a set: the lowest is taken away; rows of numbers. No program is named here. -/
import Derived.Test.YtffaogkinhkgdaaDoorRefA
import Derived.Lib.TrailingZeros
namespace Go.Proofs.YtffaogkinhkgdaaDoor
namespace Bt

/-- The numbers of a set below n, rising. -/
def numsL (s n : Nat) : List Nat := (List.range n).filter (fun i => s.testBit i)

theorem numsTo_eq (s n : Nat) : numsTo s n = (numsL s n).map (fun i : Nat => (i : Int)) := rfl

theorem numsL_succ (s n : Nat) : numsL s (n + 1) = numsL s n ++ (if s.testBit n then [n] else []) := by
  unfold numsL
  rw [List.range_succ, List.filter_append]
  cases h : s.testBit n <;> simp [h]

theorem numsL_mem {s n i : Nat} : i ∈ numsL s n ↔ i < n ∧ s.testBit i = true := by simp [numsL]

theorem numsL_zero (n : Nat) : numsL 0 n = [] := by simp [numsL]

theorem numsL_len (s n : Nat) : (numsL s n).length = ones s n := by
  unfold numsL ones
  rw [List.countP_eq_length_filter]

/-- The lowest number of a set, and the set without it. -/
theorem low_bits (r : Nat) (h0 : r ≠ 0) (h : r < 18446744073709551616) : ∃ c, Lib.ctz 64 r = c ∧ c < 64 ∧ (∀ j, j < c → r.testBit j = false) ∧ r.testBit c = true ∧ ∀ j, (r &&& (r - 1)).testBit j = (r.testBit j && decide (c ≠ j)) := by
  obtain ⟨m, hm, hc⟩ := Lib.ctzFrom_spec 64 r (by omega) h
  refine ⟨_, rfl, ?_⟩
  have e : Lib.ctz 64 r = Lib.ctzFrom 64 r := by simp [Lib.ctz, h0]
  rw [e]
  generalize Lib.ctzFrom 64 r = c at *
  have hp := Nat.two_pow_pos c
  have b1 : ∀ j, r.testBit j = (decide (c ≤ j) && (2 * m + 1).testBit (j - c)) := fun j => by rw [hm, Nat.testBit_two_pow_mul]
  have e1 : r - 1 = 2 ^ c * (2 * m) + (2 ^ c - 1) := by rw [hm, Nat.mul_add]; omega
  have b2 : ∀ j, (r - 1).testBit j = if j < c then (2 ^ c - 1).testBit j else (2 * m).testBit (j - c) := fun j => by rw [e1, Nat.testBit_two_pow_mul_add _ (by omega)]
  refine ⟨hc, fun j hj => ?_, ?_, fun j => ?_⟩
  · rw [b1]; simp; omega
  · rw [b1]; simp
  · rw [Nat.testBit_and, b1 j, b2 j]
    rcases Nat.lt_trichotomy j c with h1 | h1 | h1
    · have : ¬ c ≤ j := by omega
      simp [this]
    · subst h1; simp
    · obtain ⟨d, rfl⟩ : ∃ d, j = c + (d + 1) := ⟨j - c - 1, by omega⟩
      have q1 : (2 * m + 1).testBit (d + 1) = m.testBit d := by rw [Nat.testBit_succ]; congr 1; omega
      have q2 : (2 * m).testBit (d + 1) = m.testBit d := by rw [Nat.testBit_succ]; congr 1; omega
      have q3 : ¬ c + (d + 1) < c := by omega
      have q4 : c + (d + 1) - c = d + 1 := by omega
      simp only [q3, if_false, q4, q1, q2]
      have q5 : c ≤ c + (d + 1) := by omega
      have q6 : c ≠ c + (d + 1) := by omega
      simp

theorem nums_low (r : Nat) (h0 : r ≠ 0) (h : r < 18446744073709551616) : numsL r 64 = Lib.ctz 64 r :: numsL (r &&& (r - 1)) 64 ∧ Lib.ctz 64 r < 64 ∧ (r &&& (r - 1)) < r := by
  obtain ⟨c, e, hc, h1, h2, h3⟩ := low_bits r h0 h
  rw [e]
  have key : ∀ n, numsL r n = (if c < n then [c] else []) ++ numsL (r &&& (r - 1)) n := by
    intro n
    induction n with
    | zero => simp [numsL]
    | succ n ih =>
      rw [numsL_succ, numsL_succ, ih, h3 n]
      rcases Nat.lt_trichotomy n c with q | q | q
      · have a1 : ¬ c < n := by omega
        have a2 : ¬ c < n + 1 := by omega
        simp [a1, a2, h1 n q]
      · subst q
        have e0 : numsL (r &&& (r - 1)) n = [] := by
          rw [List.eq_nil_iff_forall_not_mem]
          intro i hi
          obtain ⟨q1, q2⟩ := numsL_mem.1 hi
          rw [h3 i, h1 i q1] at q2; cases q2
        simp [h2, e0]
      · have a1 : c < n := q
        have a2 : c < n + 1 := by omega
        have a3 : c ≠ n := by omega
        simp [a1, a2, a3]
  refine ⟨by rw [key 64]; simp [hc], hc, ?_⟩
  have : r &&& (r - 1) ≤ r - 1 := Nat.and_le_right
  omega

/-- Where the row of numbers that i ends in begins. -/
def start (s : Nat) : Nat → Nat
  | 0 => 0
  | i + 1 => if s.testBit i then start s i else i + 1

/-- The rows of numbers that end at n or ahead of it. -/
def rowsTo (s : Nat) : Nat → List (Nat × Nat)
  | 0 => []
  | n + 1 => rowsTo s n ++ (if s.testBit n && !s.testBit (n + 1) then [(start s n, n + 1)] else [])

/-- The rows' ends, one behind the other. -/
def flat : List (Nat × Nat) → List Int
  | [] => []
  | r :: l => (r.1 : Int) :: (r.2 : Int) :: flat l

theorem flat_append (a b : List (Nat × Nat)) : flat (a ++ b) = flat a ++ flat b := by
  induction a with
  | nil => rfl
  | cons r l ih => simp [flat, ih]

theorem flat_len (a : List (Nat × Nat)) : (flat a).length = 2 * a.length := by
  induction a with
  | nil => rfl
  | cons r l ih => simp [flat, ih]; omega

/-- Where in-or-not turns, below n. -/
def edgesTo (s : Nat) : Nat → List Int
  | 0 => []
  | n + 1 => edgesTo s n ++ (if hasB s (n : Int) != hasB s ((n : Int) - 1) then [(n : Int)] else [])

theorem rows_edges (s : Nat) (hs : s < 18446744073709551616) : ∀ n, n ≤ 64 → edgesTo s (n + 1) = flat (rowsTo s n) ++ (if s.testBit n then [(start s n : Int)] else [])
  | 0, _ => by
    have h0 : hasB s ((0 : Nat) : Int) = s.testBit 0 := by simp [hasB]
    have h1 : hasB s (((0 : Nat) : Int) - 1) = false := by simp [hasB]
    rw [edgesTo, h0, h1, edgesTo, rowsTo]
    cases h : s.testBit 0 <;> simp [flat, start]
  | n + 1, hn => by
    have h1 : hasB s (((n + 1 : Nat) : Int) - 1) = s.testBit n := by
      rw [show ((n + 1 : Nat) : Int) - 1 = (n : Int) by omega]
      simp [hasB]; omega
    have h0 : hasB s ((n + 1 : Nat) : Int) = s.testBit (n + 1) := by
      by_cases h : n + 1 < 64
      · simp [hasB]; omega
      · rw [bit_high hs (by omega)]; simp [hasB]; omega
    rw [edgesTo, rows_edges s hs n (by omega), h0, h1, rowsTo, flat_append, start]
    cases ha : s.testBit n <;> cases hb : s.testBit (n + 1) <;> simp [flat]

theorem rows_all (s : Nat) (hs : s < 18446744073709551616) : edgesTo s 65 = flat (rowsTo s 64) := by
  rw [rows_edges s hs 64 (Nat.le_refl _), bit_high hs (Nat.le_refl _)]; simp

theorem rows_prefix (s : Nat) {m n : Nat} (h : m ≤ n) : rowsTo s m <+: rowsTo s n := by
  induction n with
  | zero => obtain rfl : m = 0 := by omega
            exact List.prefix_refl _
  | succ n ih =>
    rcases Nat.lt_or_ge m (n + 1) with h' | h'
    · exact (ih (by omega)).trans ⟨_, rfl⟩
    · obtain rfl : m = n + 1 := by omega
      exact List.prefix_refl _

theorem rows_gap (s : Nat) {m n : Nat} (h : m ≤ n) (hz : ∀ i, m ≤ i → i < n → s.testBit i = false) : rowsTo s n = rowsTo s m := by
  induction n with
  | zero => obtain rfl : m = 0 := by omega
            rfl
  | succ n ih =>
    rcases Nat.lt_or_ge m (n + 1) with h' | h'
    · rw [rowsTo, hz n (by omega) (by omega), ih (by omega) (fun i h1 h2 => hz i h1 (by omega))]; simp
    · obtain rfl : m = n + 1 := by omega
      rfl

theorem start_le (s : Nat) : ∀ i, start s i ≤ i
  | 0 => Nat.le_refl _
  | i + 1 => by
    have := start_le s i
    simp only [start]
    split <;> omega

/-- The next number of a set: all lesser ones have come. -/
theorem next_num {s x : Nat} {pre : List Nat} (h : pre ++ [x] <+: numsL s 64) : x < 64 ∧ s.testBit x = true ∧ pre = numsL s x := by
  have hx : x ∈ numsL s 64 := h.subset (by simp)
  obtain ⟨h1, h2⟩ := numsL_mem.1 hx
  refine ⟨h1, h2, ?_⟩
  -- numsL s 64 is numsL s x, then x, then what is greater
  have e : ∃ t, numsL s 64 = numsL s x ++ x :: t := by
    have r : List.range 64 = List.range x ++ (x :: (List.range (63 - x)).map (x + 1 + ·)) := by
      rw [show 64 = x + (1 + (63 - x)) by omega, List.range_add, List.range_add]
      simp [List.map_map, Function.comp_def, Nat.add_assoc]
    unfold numsL
    rw [r, List.filter_append, List.filter_cons, if_pos h2]
    exact ⟨_, rfl⟩
  obtain ⟨t, e⟩ := e
  have nd : (numsL s 64).Nodup := List.Pairwise.filter _ List.nodup_range
  obtain ⟨u, hu⟩ := h
  rw [e, List.append_assoc, List.singleton_append] at hu
  have hn : x ∉ pre := by
    intro hp
    have : (pre ++ x :: u).Nodup := by rw [hu, ← e]; exact nd
    rw [List.nodup_append] at this
    exact this.2.2 x hp x (by simp) rfl
  have hn2 : x ∉ numsL s x := fun hp => by have := (numsL_mem.1 hp).1; omega
  -- both are what stands ahead of the first x
  have key : ∀ (a b c d : List Nat), a ++ x :: c = b ++ x :: d → x ∉ a → x ∉ b → a = b := by
    intro a
    induction a with
    | nil => intro b c d he _ hb
             cases b with
             | nil => rfl
             | cons y b => simp at he; exact absurd he.1 (by intro h; subst h; simp at hb)
    | cons y a ih => intro b c d he ha hb
                     cases b with
                     | nil => simp at he; exact absurd he.1.symm (by intro h; subst h; simp at ha)
                     | cons z b =>
                       simp at he ha hb
                       rw [he.1, ih b c d he.2 ha.2 hb.2]
  exact key _ _ _ _ hu hn hn2
end Bt
end Go.Proofs.YtffaogkinhkgdaaDoor
