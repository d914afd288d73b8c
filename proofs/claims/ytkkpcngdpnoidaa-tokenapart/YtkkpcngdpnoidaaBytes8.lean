/- Rows of bytes and the numbers that they tell; groups of five bytes are groups of eight digits. No program is named here. -/
import Derived.Test.YtkkpcngdpnoidaaBoth8
namespace Go.Proofs.Ytkkpcngdpnoidaa
set_option linter.ambiguousOpen false
namespace Tk
set_option linter.unusedVariables false

/-- The number of a row of bytes, the highest first. -/
def ny (l : List UInt8) : Nat := l.foldl (fun a c => 256 * a + c.toNat) 0

theorem ny_from (l : List UInt8) (a : Nat) : l.foldl (fun a c => 256 * a + c.toNat) a = a * 256 ^ l.length + ny l := by
  induction l generalizing a with
  | nil => simp [ny]
  | cons b l ih =>
    simp only [List.foldl_cons, List.length_cons, ny]
    rw [ih, ih (256 * 0 + b.toNat), Nat.pow_succ, Nat.mul_zero, Nat.zero_add, Nat.add_mul, Nat.add_assoc, Nat.mul_comm 256 a, Nat.mul_assoc, Nat.mul_comm 256 (256 ^ l.length)]

theorem ny_append (l m : List UInt8) : ny (l ++ m) = ny l * 256 ^ m.length + ny m := by
  unfold ny
  rw [List.foldl_append, ny_from]
  rfl

theorem ny_snoc (l : List UInt8) (c : UInt8) : ny (l ++ [c]) = 256 * ny l + c.toNat := by
  unfold ny
  rw [List.foldl_append]
  rfl

theorem ny_lt (l : List UInt8) : ny l < 256 ^ l.length := by
  refine snoc_ind (P := fun l => ny l < 256 ^ l.length) (by simp [ny]) (fun l b ih => ?_) l
  rw [ny_snoc, List.length_append, List.length_singleton, Nat.pow_succ]
  have : b.toNat < 256 := UInt8.toNat_lt b
  omega

theorem ny_zeros (n : Nat) (l : List UInt8) : ny (List.replicate n 0 ++ l) = ny l := by
  have h : ∀ n, ny (List.replicate n 0) = 0 := fun n => by
    induction n with
    | zero => rfl
    | succ n ih => rw [List.replicate_succ', ny_snoc, ih]; rfl
  rw [ny_append, h, Nat.zero_mul, Nat.zero_add]

/-- The n lowest bytes of a number, the highest first. -/
def yd (v : Nat) : Nat → List UInt8
  | 0 => []
  | n + 1 => yd (v / 256) n ++ [UInt8.ofNat (v % 256)]

theorem yd_len (v n : Nat) : (yd v n).length = n := by
  induction n generalizing v with
  | zero => rfl
  | succ n ih => simp [yd, ih]

theorem of_toNat (v : Nat) : (UInt8.ofNat (v % 256)).toNat = v % 256 := by
  rw [UInt8.toNat_ofNat']
  exact Nat.mod_eq_of_lt (Nat.mod_lt _ (by decide))

theorem ny_yd (v n : Nat) : ny (yd v n) = v % 256 ^ n := by
  induction n generalizing v with
  | zero => simp [yd, ny, Nat.mod_one]
  | succ n ih =>
    rw [yd, ny_snoc, ih, Nat.pow_succ, Nat.mul_comm (256 ^ n), Nat.mod_mul, of_toNat]
    omega

theorem yd_split (v n m : Nat) : yd v (n + m) = yd (v / 256 ^ m) n ++ yd v m := by
  induction m generalizing v with
  | zero => simp [yd]
  | succ m ih => rw [← Nat.add_assoc, yd, ih, yd, List.append_assoc, Nat.div_div_eq_div_mul, Nat.pow_succ, Nat.mul_comm 256]

theorem yd_mod (v n : Nat) : yd (v % 256 ^ n) n = yd v n := by
  induction n generalizing v with
  | zero => rfl
  | succ n ih =>
    rw [yd, yd, Nat.pow_succ, Nat.mul_comm, Nat.mod_mul_right_div_self, ih, Nat.mod_mul_right_mod]

theorem yd_at (v n i : Nat) (h : i < n) : (yd v n)[i]? = some (UInt8.ofNat (v / 256 ^ (n - 1 - i) % 256)) := by
  induction n generalizing v with
  | zero => omega
  | succ n ih =>
    rw [yd]
    by_cases hi : i < n
    · rw [List.getElem?_append_left (by rw [yd_len]; exact hi), ih (v / 256) hi, Nat.div_div_eq_div_mul, show n + 1 - 1 - i = (n - 1 - i) + 1 by omega, Nat.pow_succ, Nat.mul_comm 256]
    · obtain rfl : i = n := by omega
      rw [List.getElem?_append_right (by rw [yd_len]; exact Nat.le_refl _), yd_len]
      simp

theorem yd_zero (n : Nat) : yd 0 n = List.replicate n 0 := by
  induction n with
  | zero => rfl
  | succ n ih => rw [yd, Nat.zero_div, ih, List.replicate_succ']; rfl

theorem dg_split (v n m : Nat) : dg v (n + m) = dg (v / 32 ^ m) n ++ dg v m := by
  induction m generalizing v with
  | zero => simp [dg]
  | succ m ih => rw [← Nat.add_assoc, dg, ih, dg, List.append_assoc, Nat.div_div_eq_div_mul, Nat.pow_succ, Nat.mul_comm 32]

theorem dg_mod (v n : Nat) : dg (v % 32 ^ n) n = dg v n := by
  induction n generalizing v with
  | zero => rfl
  | succ n ih =>
    rw [dg, dg, Nat.pow_succ, Nat.mul_comm, Nat.mod_mul_right_div_self, ih, Nat.mod_mul_right_mod]

theorem nd_append (l m : List Nat) : nd (l ++ m) = nd l * 32 ^ m.length + nd m := by
  unfold nd
  rw [List.foldl_append, nd_from]
  rfl

theorem nd_lt (l : List Nat) (h : ∀ d ∈ l, d < 32) : nd l < 32 ^ l.length := by
  have := nd_dg (nd l) l.length
  rw [dg_nd l h] at this
  rw [this]
  exact Nat.mod_lt _ (Nat.pow_pos (by decide))

/-- The digits of fifteen bytes, group by group. -/
theorem dg_groups (v : Nat) : dg v 24 = dg (ny ((yd v 15).take 5)) 8 ++ dg (ny (((yd v 15).drop 5).take 5)) 8 ++ dg (ny (((yd v 15).drop 10).take 5)) 8 := by
  have e15 : yd v 15 = yd (v / 256 ^ 10) 5 ++ (yd (v / 256 ^ 5) 5 ++ yd v 5) := by
    rw [show (15 : Nat) = 5 + 10 from rfl, yd_split v 5 10, show (10 : Nat) = 5 + 5 from rfl, yd_split v 5 5]
  have t1 : (yd v 15).take 5 = yd (v / 256 ^ 10) 5 := by
    rw [e15, List.take_append_of_le_length (by rw [yd_len]; exact Nat.le_refl _), List.take_of_length_le (by rw [yd_len]; exact Nat.le_refl _)]
  have t2 : ((yd v 15).drop 5).take 5 = yd (v / 256 ^ 5) 5 := by
    rw [e15, List.drop_append_of_le_length (by rw [yd_len]; exact Nat.le_refl _), List.drop_of_length_le (by rw [yd_len]; exact Nat.le_refl _), List.nil_append, List.take_append_of_le_length (by rw [yd_len]; exact Nat.le_refl _), List.take_of_length_le (by rw [yd_len]; exact Nat.le_refl _)]
  have t3 : ((yd v 15).drop 10).take 5 = yd v 5 := by
    rw [e15, ← List.append_assoc, List.drop_append_of_le_length (by simp [yd_len]), List.drop_of_length_le (by simp [yd_len]), List.nil_append, List.take_of_length_le (by rw [yd_len]; exact Nat.le_refl _)]
  rw [t1, t2, t3, ny_yd, ny_yd, ny_yd, show (256 : Nat) ^ 5 = 32 ^ 8 from rfl, dg_mod, dg_mod, dg_mod, show (256 : Nat) ^ 10 = 32 ^ 16 from rfl]
  rw [show (24 : Nat) = 8 + 16 from rfl, dg_split v 8 16, show (16 : Nat) = 8 + 8 from rfl, dg_split v 8 8, List.append_assoc]

/-- The bytes of 24 digits, group by group. -/
theorem yd_groups (D : List Nat) (hD : ∀ d ∈ D, d < 32) (hl : D.length = 24) : yd (nd D) 15 = yd (nd (D.take 8)) 5 ++ yd (nd ((D.drop 8).take 8)) 5 ++ yd (nd ((D.drop 16).take 8)) 5 := by
  have l1 : (D.take 8).length = 8 := by rw [List.length_take]; omega
  have l2 : ((D.drop 8).take 8).length = 8 := by rw [List.length_take, List.length_drop]; omega
  have l3 : ((D.drop 16).take 8).length = 8 := by rw [List.length_take, List.length_drop]; omega
  have e : D = D.take 8 ++ ((D.drop 8).take 8 ++ (D.drop 16).take 8) := by
    have h3 : (D.drop 16).take 8 = D.drop 16 := List.take_of_length_le (by rw [List.length_drop]; omega)
    rw [h3, show D.drop 16 = (D.drop 8).drop 8 by rw [List.drop_drop], List.take_append_drop, List.take_append_drop]
  have n2 := nd_lt ((D.drop 8).take 8) (fun d h => hD d (List.mem_of_mem_drop (List.mem_of_mem_take h)))
  have n3 := nd_lt ((D.drop 16).take 8) (fun d h => hD d (List.mem_of_mem_drop (List.mem_of_mem_take h)))
  rw [l2] at n2
  rw [l3] at n3
  have en : nd D = (nd (D.take 8) * 32 ^ 8 + nd ((D.drop 8).take 8)) * 32 ^ 8 + nd ((D.drop 16).take 8) := by
    conv => lhs; rw [e]
    rw [nd_append, nd_append, List.length_append, l2, l3, Nat.pow_add, Nat.add_mul, Nat.mul_assoc, Nat.add_assoc]
  generalize nd (D.take 8) = x at *
  generalize nd ((D.drop 8).take 8) = y at *
  generalize nd ((D.drop 16).take 8) = z at *
  rw [show (15 : Nat) = 5 + 5 + 5 from rfl, yd_split _ (5 + 5) 5, yd_split _ 5 5, show (256 : Nat) ^ 5 = 32 ^ 8 from rfl, en]
  have d1 : ((x * 32 ^ 8 + y) * 32 ^ 8 + z) / 32 ^ 8 = x * 32 ^ 8 + y := by
    rw [Nat.mul_comm _ (32 ^ 8), Nat.mul_add_div (by decide), Nat.div_eq_of_lt n3, Nat.add_zero]
  have d2 : (x * 32 ^ 8 + y) / 32 ^ 8 = x := by
    rw [Nat.mul_comm _ (32 ^ 8), Nat.mul_add_div (by decide), Nat.div_eq_of_lt n2, Nat.add_zero]
  have m1 : yd (x * 32 ^ 8 + y) 5 = yd y 5 := by
    rw [← yd_mod, show (256 : Nat) ^ 5 = 32 ^ 8 from rfl, Nat.mul_add_mod_self_right, show (32 : Nat) ^ 8 = 256 ^ 5 from rfl, yd_mod]
  have m2 : yd ((x * 32 ^ 8 + y) * 32 ^ 8 + z) 5 = yd z 5 := by
    rw [← yd_mod, show (256 : Nat) ^ 5 = 32 ^ 8 from rfl, Nat.mul_add_mod_self_right, show (32 : Nat) ^ 8 = 256 ^ 5 from rfl, yd_mod]
  rw [d1, d2, m1, m2]

/-- The fifteen bytes of a token. -/
theorem yd_num (s b t : Nat) : yd (num s b t * 1048576) 15 = yd s 1 ++ yd b 3 ++ yd t 8 ++ yd 0 3 ∨ 256 ≤ s ∨ 16777216 ≤ b ∨ 18446744073709551616 ≤ t := by
  by_cases hs : 256 ≤ s
  · exact .inr (.inl hs)
  by_cases hb : 16777216 ≤ b
  · exact .inr (.inr (.inl hb))
  by_cases ht : 18446744073709551616 ≤ t
  · exact .inr (.inr (.inr ht))
  left
  have e : num s b t * 1048576 = ((s * 16777216 + b) * 18446744073709551616 + t) * 16777216 := by unfold num; simp only [Nat.reducePow]; omega
  rw [show (15 : Nat) = 1 + 3 + 8 + 3 from rfl, yd_split _ (1 + 3 + 8) 3, yd_split _ (1 + 3) 8, yd_split _ 1 3, e]
  clear e
  simp only [Nat.reducePow]
  have d1 : ((s * 16777216 + b) * 18446744073709551616 + t) * 16777216 / 16777216 = (s * 16777216 + b) * 18446744073709551616 + t := by omega
  have d2 : ((s * 16777216 + b) * 18446744073709551616 + t) / 18446744073709551616 = s * 16777216 + b := by
    rw [Nat.mul_comm, Nat.mul_add_div (by decide), Nat.div_eq_of_lt (by omega), Nat.add_zero]
  have d3 : (s * 16777216 + b) / 16777216 = s := by
    rw [Nat.mul_comm, Nat.mul_add_div (by decide), Nat.div_eq_of_lt (by omega), Nat.add_zero]
  rw [d1, d2, d3]
  have m1 : yd (s * 16777216 + b) 3 = yd b 3 := by
    rw [← yd_mod, show (256 : Nat) ^ 3 = 16777216 from rfl, show (s * 16777216 + b) % 16777216 = b by omega]
  have m2 : yd ((s * 16777216 + b) * 18446744073709551616 + t) 8 = yd t 8 := by
    rw [← yd_mod, show (256 : Nat) ^ 8 = 18446744073709551616 from rfl, show ((s * 16777216 + b) * 18446744073709551616 + t) % 18446744073709551616 = t by omega]
  have m3 : yd (((s * 16777216 + b) * 18446744073709551616 + t) * 16777216) 3 = yd 0 3 := by
    rw [← yd_mod, show (256 : Nat) ^ 3 = 16777216 from rfl, show ((s * 16777216 + b) * 18446744073709551616 + t) * 16777216 % 16777216 = 0 by omega]
  rw [m1, m2, m3]

/-- Parts of fifteen bytes. -/
theorem ny_part (v a n : Nat) (h : a + n ≤ 15) : ny (((yd v 15).drop a).take n) = v / 256 ^ (15 - a - n) % 256 ^ n := by
  obtain ⟨m, hm⟩ : ∃ m, 15 = (a + n) + m := ⟨15 - a - n, by omega⟩
  have e : yd v 15 = yd (v / 256 ^ m / 256 ^ n) a ++ (yd (v / 256 ^ m) n ++ yd v m) := by
    rw [hm, yd_split v (a + n) m, yd_split _ a n, List.append_assoc]
  rw [e, List.drop_append_of_le_length (by rw [yd_len]; exact Nat.le_refl _), List.drop_of_length_le (by rw [yd_len]; exact Nat.le_refl _), List.nil_append, List.take_append_of_le_length (by rw [yd_len]; exact Nat.le_refl _), List.take_of_length_le (by rw [yd_len]; exact Nat.le_refl _), ny_yd, show 15 - a - n = m by omega]

/-- What 20 digits and four noughts tell, in parts. -/
theorem told_parts (m : Nat) (h : m < 32 ^ 20) : m * 1048576 / 256 ^ 14 % 256 = m / 2 ^ 92 ∧ m * 1048576 / 256 ^ 11 % 16777216 = m / 2 ^ 68 % 16777216 ∧ m * 1048576 / 256 ^ 3 % 18446744073709551616 = m / 16 % 18446744073709551616 ∧ (m * 1048576 % 16777216 = 0 ↔ m % 16 = 0) := by
  simp only [Nat.reducePow] at *
  refine ⟨by omega, by omega, by omega, by omega⟩
end Tk
end Go.Proofs.Ytkkpcngdpnoidaa
