import Derived.WalkKit
/- Numbers in sevens, as lists of bytes, there and back. No program is named here. -/
namespace Go.Proofs.YtnllplholfhbdaaDoor
open Go.RowKit
namespace Pk
set_option linter.unusedVariables false

/-- A number in sevens. -/
def sev (v : Nat) : List UInt8 := if h : v < 128 then [UInt8.ofNat v] else UInt8.ofNat (v % 128 + 128) :: sev (v / 128)
termination_by v
decreasing_by omega

theorem sev_lt (v : Nat) (h : v < 128) : sev v = [UInt8.ofNat v] := by rw [sev, dif_pos h]

theorem sev_ge (v : Nat) (h : 128 ≤ v) : sev v = UInt8.ofNat (v % 128 + 128) :: sev (v / 128) := by rw [sev, dif_neg (by omega)]

/-- The number at the beginning: its value, how many bytes it has, the error's number. The byte i of it comes next, v is what the bytes ahead of it tell. -/
def numG : Nat → Nat → Nat → List UInt8 → Nat × Nat × Nat
  | 0, i, v, b => (0, 0, 4)
  | f + 1, i, v, [] => (0, 0, 2)
  | f + 1, i, v, x :: xs =>
    if (i = 9 ∧ 1 < x.toNat) ∨ (0 < i ∧ x.toNat = 0) then (0, 0, 4)
    else if x.toNat < 128 then (v + x.toNat * 128 ^ i, i + 1, 0)
    else numG f (i + 1) (v + (x.toNat - 128) * 128 ^ i) xs

def num (b : List UInt8) : Nat × Nat × Nat := numG 10 0 0 b

theorem ofNat_toNat (n : Nat) (h : n < 256) : (UInt8.ofNat n).toNat = n := by
  rw [UInt8.toNat_ofNat']
  omega

theorem pow7 (i : Nat) : 128 ^ (i + 1) = 128 ^ i * 128 := Nat.pow_succ ..

/-- What was put is taken again. -/
theorem numG_sev (f i v u : Nat) (r : List UInt8) (hf : f + i = 10) (hf0 : 0 < f) (hv : v < 128 ^ f) (hi : 0 < i → 0 < v) (h64 : f = 1 → v ≤ 1) (h9 : v * 128 ^ i < 18446744073709551616) : numG f i u (sev v ++ r) = (u + v * 128 ^ i, i + (sev v).length, 0) := by
  induction f generalizing i v u with
  | zero => omega
  | succ f ih =>
    by_cases h : v < 128
    · rw [sev_lt v h, List.singleton_append, numG, ofNat_toNat v (by omega), if_neg, if_pos h]
      · rfl
      · intro hc
        rcases hc with ⟨h1, h2⟩ | ⟨h1, h2⟩
        · have := h64 (by omega); omega
        · have := hi h1; omega
    · have hf1 : 0 < f := by
        rcases Nat.eq_zero_or_pos f with rfl | h0
        · have := h64 rfl; omega
        · exact h0
      rw [sev_ge v (by omega), List.cons_append, numG, ofNat_toNat _ (by omega), if_neg (by omega), if_neg (by omega), show v % 128 + 128 - 128 = v % 128 by omega]
      have hd : v / 128 * 128 ^ (i + 1) + v % 128 * 128 ^ i = v * 128 ^ i := by
        rw [pow7, ← Nat.mul_assoc, Nat.mul_right_comm, ← Nat.add_mul]
        congr 1
        omega
      have hq : v / 128 < 128 ^ f := by
        rw [Nat.div_lt_iff_lt_mul (by decide)]
        rw [pow7] at hv
        exact hv
      rw [ih (i + 1) (v / 128) _ (by omega) hf1 hq (fun _ => by omega) (fun e => ?_) (by omega)]
      · rw [List.length_cons]
        congr 1
        · omega
        · congr 1
          omega
      · -- the tenth byte
        have hi9 : i + 1 = 9 := by omega
        rw [hi9] at hd
        have hp : (128 : Nat) ^ 9 = 9223372036854775808 := by decide
        rw [hp] at hd
        omega

theorem num_sev (v : Nat) (r : List UInt8) (hv : v < 18446744073709551616) : num (sev v ++ r) = (v, (sev v).length, 0) := by
  unfold num
  rw [numG_sev 10 0 v 0 r rfl (by decide) (Nat.lt_of_lt_of_le hv (by decide)) (fun h => by omega) (fun h => by omega) (by omega)]
  simp

/-- What is taken, put again, is the very bytes. -/
theorem numG_back (f i u : Nat) (b : List UInt8) (v n : Nat) (h : numG f i u b = (v, n, 0)) (hf : f + i = 10) : ∃ q, v = u + q * 128 ^ i ∧ i < n ∧ n - i ≤ b.length ∧ sev q = b.take (n - i) ∧ (0 < i → 0 < q) ∧ q < 128 ^ f ∧ (i ≤ 9 → q * 128 ^ i < 18446744073709551616) := by
  induction f generalizing i u b with
  | zero => simp [numG] at h
  | succ f ih =>
    cases b with
    | nil => simp [numG] at h
    | cons x xs =>
      have hx : x.toNat < 256 := x.toNat_lt
      rw [numG] at h
      by_cases hc : (i = 9 ∧ 1 < x.toNat) ∨ (0 < i ∧ x.toNat = 0)
      · rw [if_pos hc] at h
        simp at h
      · rw [if_neg hc] at h
        have hc9 : i = 9 → x.toNat ≤ 1 := fun e => Nat.le_of_not_lt fun h2 => hc (.inl ⟨e, h2⟩)
        have hc0 : 0 < i → 0 < x.toNat := fun e => Nat.pos_of_ne_zero fun h2 => hc (.inr ⟨e, h2⟩)
        by_cases hl : x.toNat < 128
        · rw [if_pos hl] at h
          simp only [Prod.mk.injEq, and_true] at h
          obtain ⟨rfl, rfl⟩ := h
          refine ⟨x.toNat, rfl, by omega, by simp, ?_, hc0, ?_, fun hi => ?_⟩
          · rw [sev_lt _ hl, show i + 1 - i = 1 by omega]
            simp
          · rw [pow7]
            have : 0 < 128 ^ f := Nat.pow_pos (by decide)
            exact Nat.lt_of_lt_of_le hl (Nat.le_mul_of_pos_left _ this)
          · rcases Nat.lt_or_ge i 9 with h8 | h8
            · have hp : 128 ^ i ≤ 128 ^ 8 := Nat.pow_le_pow_right (by decide) (by omega)
              have : x.toNat * 128 ^ i ≤ 127 * 128 ^ 8 := Nat.mul_le_mul (by omega) hp
              have e8 : (127 * 128 ^ 8 : Nat) = 9151314442816847872 := by decide
              omega
            · obtain rfl : i = 9 := by omega
              have := hc9 rfl
              have e9 : (128 : Nat) ^ 9 = 9223372036854775808 := by decide
              rw [e9]
              omega
        · rw [if_neg hl] at h
          obtain ⟨q, hv, hn, hlen, hs, hq0, hqf, hq9⟩ := ih (i + 1) _ xs h (by omega)
          have hq := hq0 (by omega)
          have hi8 : i ≤ 8 := Nat.le_of_not_lt fun h2 => by
            have := hc9 (by
              have : 0 < f := by
                rcases Nat.eq_zero_or_pos f with rfl | h0
                · simp at hqf; omega
                · exact h0
              omega)
            omega
          refine ⟨q * 128 + (x.toNat - 128), ?_, by omega, by rw [List.length_cons]; omega, ?_, fun _ => by omega, ?_, fun _ => ?_⟩
          · rw [hv, pow7, Nat.add_mul, ← Nat.mul_assoc, Nat.mul_right_comm q 128]
            omega
          · rw [sev_ge _ (by omega), show (q * 128 + (x.toNat - 128)) % 128 + 128 = x.toNat by omega, show (q * 128 + (x.toNat - 128)) / 128 = q by omega, hs, UInt8.ofNat_toNat, show n - i = (n - (i + 1)) + 1 by omega, List.take_succ_cons]
          · rw [pow7]
            omega
          · have h9 := hq9 (by omega)
            have hw : (18446744073709551616 : Nat) = 2 * 128 ^ (8 - i) * 128 ^ (i + 1) := by
              rw [Nat.mul_assoc, ← Nat.pow_add, show 8 - i + (i + 1) = 9 by omega]
            have hp : 0 < 128 ^ (i + 1) := Nat.pow_pos (by decide)
            rw [hw] at h9 ⊢
            have h10 := Nat.lt_of_mul_lt_mul_right h9
            have h11 : (q * 128 + (x.toNat - 128)) * 128 ^ i < ((q + 1) * 128) * 128 ^ i := Nat.mul_lt_mul_of_pos_right (by omega) (Nat.pow_pos (by decide))
            have h12 : (q + 1) * 128 ^ (i + 1) ≤ 2 * 128 ^ (8 - i) * 128 ^ (i + 1) := Nat.mul_le_mul_right _ h10
            rw [pow7, ← Nat.mul_assoc, Nat.mul_right_comm] at h12
            exact Nat.lt_of_lt_of_le h11 (by rw [pow7]; exact h12)

theorem num_back (b : List UInt8) (v n : Nat) (h : num b = (v, n, 0)) : v < 18446744073709551616 ∧ 0 < n ∧ n ≤ b.length ∧ sev v = b.take n := by
  obtain ⟨q, hv, hn, hl, hs, _, _, h9⟩ := numG_back 10 0 0 b v n h rfl
  have h9 := h9 (by omega)
  simp at hv h9
  subst hv
  exact ⟨h9, hn, by simpa using hl, by simpa using hs⟩

theorem numG_no (f i u : Nat) (b : List UInt8) : (numG f i u b).2.2 = 0 ∨ ((numG f i u b).1 = 0 ∧ (numG f i u b).2.1 = 0 ∧ ((numG f i u b).2.2 = 2 ∨ (numG f i u b).2.2 = 4)) := by
  induction f generalizing i u b with
  | zero => exact .inr ⟨rfl, rfl, .inr rfl⟩
  | succ f ih =>
    cases b with
    | nil => exact .inr ⟨rfl, rfl, .inl rfl⟩
    | cons x xs =>
      rw [numG]
      split
      · exact .inr ⟨rfl, rfl, .inr rfl⟩
      · split
        · exact .inl rfl
        · exact ih _ _ _

theorem sev_len (f v : Nat) (h : v < 128 ^ (f + 1)) : (sev v).length ≤ f + 1 := by
  induction f generalizing v with
  | zero => rw [sev_lt v (by simpa using h)]; simp
  | succ f ih =>
    by_cases h1 : v < 128
    · rw [sev_lt v h1]; simp
    · rw [sev_ge v (by omega), List.length_cons]
      have := ih (v / 128) (by rw [Nat.div_lt_iff_lt_mul (by decide)]; rw [pow7] at h; exact h)
      omega

theorem sev_len10 (v : Nat) (h : v < 18446744073709551616) : (sev v).length ≤ 10 := sev_len 9 v (Nat.lt_of_lt_of_le h (by decide))

/-- The text at the beginning: its bytes, how many it has in all, the error's number. -/
def taken (b : List UInt8) (most : Nat) : List UInt8 × Nat × Nat :=
  if (num b).2.2 ≠ 0 then ([], 0, (num b).2.2)
  else if most < (num b).1 then ([], 0, 3)
  else if b.length - (num b).2.1 < (num b).1 then ([], 0, 2)
  else ((b.drop (num b).2.1).take (num b).1, (num b).2.1 + (num b).1, 0)

def txt (s : List UInt8) : List UInt8 := sev s.length ++ s

theorem taken_txt (s r : List UInt8) (most : Nat) (hs : s.length < 18446744073709551616) (hm : s.length ≤ most) : taken (txt s ++ r) most = (s, (txt s).length, 0) := by
  have h := num_sev s.length (s ++ r) hs
  unfold taken txt
  rw [List.append_assoc, h]
  simp only [ne_eq, not_true_eq_false, if_false]
  rw [if_neg (by omega), if_neg (by simp)]
  simp

theorem taken_back (b : List UInt8) (most : Nat) (s : List UInt8) (n : Nat) (h : taken b most = (s, n, 0)) : n ≤ b.length ∧ txt s = b.take n ∧ s.length ≤ most := by
  unfold taken at h
  obtain ⟨v, k, no, hn⟩ : ∃ v k no, num b = (v, k, no) := ⟨_, _, _, rfl⟩
  rw [hn] at h
  simp only [ne_eq] at h
  by_cases h0 : no = 0
  · subst h0
    obtain ⟨h1, h2, h3, h4⟩ := num_back b v k hn
    rw [if_neg (by omega)] at h
    by_cases h5 : most < v
    · rw [if_pos h5] at h; simp at h
    · rw [if_neg h5] at h
      by_cases h6 : b.length - k < v
      · rw [if_pos h6] at h; simp at h
      · rw [if_neg h6] at h
        simp only [Prod.mk.injEq, and_true] at h
        obtain ⟨rfl, rfl⟩ := h
        have hl : ((b.drop k).take v).length = v := by rw [List.length_take, List.length_drop]; omega
        refine ⟨by omega, ?_, by omega⟩
        unfold txt
        rw [hl, h4, List.take_add]
  · rw [if_pos h0] at h
    simp at h
    exact absurd h.2.2 h0

end Pk
end Go.Proofs.YtnllplholfhbdaaDoor
