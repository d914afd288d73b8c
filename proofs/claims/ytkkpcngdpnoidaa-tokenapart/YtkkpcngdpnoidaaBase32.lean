/- Rows of bits and the numbers that they tell; a number's digits to the base 32. No program is named here. -/
namespace Go.Proofs.Ytkkpcngdpnoidaa
namespace Tk
set_option linter.unusedVariables false

theorem snoc_ind {α : Type} {P : List α → Prop} (h0 : P []) (h1 : ∀ l a, P l → P (l ++ [a])) (l : List α) : P l := by
  have : ∀ r : List α, P r.reverse := fun r => by
    induction r with
    | nil => exact h0
    | cons a r ih => rw [List.reverse_cons]; exact h1 _ _ ih
  have h := this l.reverse
  rwa [List.reverse_reverse] at h

/-- The number of a row of bits, the highest first. -/
def nb (l : List Bool) : Nat := l.foldl (fun a b => 2 * a + b.toNat) 0

theorem nb_from (l : List Bool) (a : Nat) : l.foldl (fun a b => 2 * a + b.toNat) a = a * 2 ^ l.length + nb l := by
  induction l generalizing a with
  | nil => simp [nb]
  | cons b l ih =>
    simp only [List.foldl_cons, List.length_cons, nb]
    rw [ih, ih (2 * 0 + b.toNat)]
    rw [Nat.pow_succ, Nat.mul_zero, Nat.zero_add, Nat.add_mul, Nat.add_assoc, Nat.mul_comm 2 a, Nat.mul_assoc, Nat.mul_comm 2 (2 ^ l.length)]

theorem nb_nil : nb [] = 0 := rfl

theorem nb_append (l m : List Bool) : nb (l ++ m) = nb l * 2 ^ m.length + nb m := by
  unfold nb
  rw [List.foldl_append, nb_from]
  rfl

theorem nb_snoc (l : List Bool) (b : Bool) : nb (l ++ [b]) = 2 * nb l + b.toNat := by
  rw [nb_append]
  simp [nb, Nat.mul_comm]

theorem nb_lt (l : List Bool) : nb l < 2 ^ l.length := by
  refine snoc_ind (P := fun l => nb l < 2 ^ l.length) (by simp [nb]) (fun l b ih => ?_) l
  rw [nb_snoc, List.length_append, List.length_singleton, Nat.pow_succ]
  have : b.toNat ≤ 1 := Bool.toNat_le b
  omega

/-- The lowest n bits of a number, the highest first. -/
def bl (v : Nat) : Nat → List Bool
  | 0 => []
  | n + 1 => v.testBit n :: bl v n

theorem bl_len (v n : Nat) : (bl v n).length = n := by
  induction n with
  | zero => rfl
  | succ n ih => simp [bl, ih]

theorem nb_bl (v n : Nat) : nb (bl v n) = v % 2 ^ n := by
  induction n with
  | zero => simp [bl, nb, Nat.mod_one]
  | succ n ih =>
    rw [bl, show v.testBit n :: bl v n = [v.testBit n] ++ bl v n from rfl, nb_append, ih, bl_len, Nat.mod_pow_succ, Nat.testBit_eq_decide_div_mod_eq]
    rcases Nat.mod_two_eq_zero_or_one (v / 2 ^ n) with h | h
    · rw [h]; simp [nb]
    · rw [h]; simp [nb]; omega

/-- n bits from a place on tell a part of the number. -/
theorem nb_part (l : List Bool) (at_ n : Nat) (h : at_ + n ≤ l.length) : nb ((l.drop at_).take n) = nb l / 2 ^ (l.length - at_ - n) % 2 ^ n := by
  have e : l = l.take at_ ++ ((l.drop at_).take n ++ l.drop (at_ + n)) := by
    rw [← List.drop_drop, List.take_append_drop, List.take_append_drop]
  have hl : ((l.drop at_).take n).length = n := by rw [List.length_take, List.length_drop]; omega
  have hd : (l.drop (at_ + n)).length = l.length - at_ - n := by rw [List.length_drop]; omega
  have e2 : nb l = nb (l.take at_) * 2 ^ (n + (l.length - at_ - n)) + (nb ((l.drop at_).take n) * 2 ^ (l.length - at_ - n) + nb (l.drop (at_ + n))) := by
    conv => lhs; rw [e]
    rw [nb_append, nb_append, List.length_append, hl, hd]
  have h1 := nb_lt ((l.drop at_).take n)
  have h2 := nb_lt (l.drop (at_ + n))
  rw [hl] at h1
  rw [hd] at h2
  rw [e2]
  generalize nb ((l.drop at_).take n) = x at *
  generalize nb (l.drop (at_ + n)) = y at *
  generalize nb (l.take at_) = z at *
  generalize l.length - at_ - n = m at *
  rw [Nat.pow_add, show z * (2 ^ n * 2 ^ m) + (x * 2 ^ m + y) = (z * 2 ^ n + x) * 2 ^ m + y by rw [Nat.add_mul, Nat.mul_assoc, Nat.add_assoc]]
  rw [Nat.mul_comm _ (2 ^ m), Nat.mul_add_div (Nat.two_pow_pos m), Nat.div_eq_of_lt h2, Nat.add_zero, Nat.mul_comm z, Nat.mul_add_mod, Nat.mod_eq_of_lt h1]

/-- The number of digits to the base 32, the highest first. -/
def nd (l : List Nat) : Nat := l.foldl (fun a d => 32 * a + d) 0

theorem nd_from (l : List Nat) (a : Nat) : l.foldl (fun a d => 32 * a + d) a = a * 32 ^ l.length + nd l := by
  induction l generalizing a with
  | nil => simp [nd]
  | cons b l ih =>
    simp only [List.foldl_cons, List.length_cons, nd]
    rw [ih, ih (32 * 0 + b), Nat.pow_succ, Nat.mul_zero, Nat.zero_add, Nat.add_mul, Nat.add_assoc, Nat.mul_comm 32 a, Nat.mul_assoc, Nat.mul_comm 32 (32 ^ l.length)]

theorem nd_snoc (l : List Nat) (d : Nat) : nd (l ++ [d]) = 32 * nd l + d := by
  unfold nd
  rw [List.foldl_append]
  rfl

/-- The n digits of a number, the highest first. -/
def dg (v : Nat) : Nat → List Nat
  | 0 => []
  | n + 1 => dg (v / 32) n ++ [v % 32]

theorem dg_len (v n : Nat) : (dg v n).length = n := by
  induction n generalizing v with
  | zero => rfl
  | succ n ih => simp [dg, ih]

theorem nd_dg (v n : Nat) : nd (dg v n) = v % 32 ^ n := by
  induction n generalizing v with
  | zero => simp [dg, nd, Nat.mod_one]
  | succ n ih =>
    rw [dg, nd_snoc, ih, Nat.pow_succ, Nat.mul_comm (32 ^ n), Nat.mod_mul]
    omega

theorem dg_nd (l : List Nat) : (∀ d ∈ l, d < 32) → dg (nd l) l.length = l := by
  refine snoc_ind (P := fun l => (∀ d ∈ l, d < 32) → dg (nd l) l.length = l) (fun _ => rfl) (fun l d ih h => ?_) l
  · have hd : d < 32 := h d (by simp)
    rw [List.length_append, List.length_singleton, dg, nd_snoc, show (32 * nd l + d) / 32 = nd l by omega, show (32 * nd l + d) % 32 = d by omega, ih (fun x hx => h x (by simp [hx]))]

theorem dg_at (v n i : Nat) (h : i < n) : (dg v n)[i]? = some (v / 32 ^ (n - 1 - i) % 32) := by
  induction n generalizing v with
  | zero => omega
  | succ n ih =>
    rw [dg]
    by_cases hi : i < n
    · rw [List.getElem?_append_left (by rw [dg_len]; exact hi), ih (v / 32) hi, Nat.div_div_eq_div_mul, show n + 1 - 1 - i = (n - 1 - i) + 1 by omega, Nat.pow_succ, Nat.mul_comm 32]
    · obtain rfl : i = n := by omega
      rw [List.getElem?_append_right (by rw [dg_len]; exact Nat.le_refl _), dg_len]
      simp

theorem dg_lt (v n : Nat) : ∀ d ∈ dg v n, d < 32 := by
  induction n generalizing v with
  | zero => intro d h; simp [dg] at h
  | succ n ih =>
    intro d h
    rw [dg, List.mem_append] at h
    rcases h with h | h
    · exact ih _ d h
    · simp at h; omega

/-- The number of a token: its 96 bits and four more. -/
def num (s b t : Nat) : Nat := (s * 2 ^ 24 + b) * 2 ^ 68 + t * 16

theorem num_parts (s b t : Nat) (hs : s < 256) (hb : b < 16777216) (ht : t < 18446744073709551616) : num s b t < 32 ^ 20 ∧ num s b t / 2 ^ 92 = s ∧ num s b t / 2 ^ 68 % 16777216 = b ∧ num s b t / 16 % 18446744073709551616 = t ∧ num s b t % 16 = 0 := by
  unfold num
  simp only [Nat.reducePow]
  refine ⟨by omega, by omega, by omega, by omega, by omega⟩

theorem num_back (n : Nat) (h : n < 32 ^ 20) (h16 : n % 16 = 0) : num (n / 2 ^ 92) (n / 2 ^ 68 % 16777216) (n / 16 % 18446744073709551616) = n ∧ n / 2 ^ 92 < 256 := by
  unfold num
  simp only [Nat.reducePow] at *
  omega

end Tk
end Go.Proofs.Ytkkpcngdpnoidaa
