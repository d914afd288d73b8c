import Derived.Laws.BitsAllLaws
/- The sum of 32 bits as plain numbers: one place down, a byte more, a row; a row as one number. No program is named here. -/
namespace Go.Proofs.YtnllplholfhbdaaDoor
namespace Sm

/-- A number one place down: if its lowest bit falls out, the polynomial is laid over. (Of any number, also of more than 32 bits.) -/
def dn (r : Nat) : Nat := r / 2 ^^^ (if r % 2 = 1 then 3988292384 else 0)

/-- n places down. -/
def dns : Nat → Nat → Nat
  | 0, r => r
  | n + 1, r => dns n (dn r)

/-- The register behind a byte more. -/
def nx (r : Nat) (b : UInt8) : Nat := dns 8 (r ^^^ b.toNat)

/-- The register behind a row. -/
def reg (r : Nat) (l : List UInt8) : Nat := l.foldl nx r

/-- The sum of a row. -/
def crc (l : List UInt8) : Nat := 4294967295 - reg 4294967295 l

/-- A row as one number, the lowest byte first. -/
def num : List UInt8 → Nat
  | [] => 0
  | b :: l => b.toNat + 256 * num l

theorem dns_succ (n r : Nat) : dns (n + 1) r = dn (dns n r) := by
  induction n generalizing r with
  | zero => rfl
  | succ n ih => rw [dns, ih (dn r)]; rfl

theorem dns_add (m n r : Nat) : dns (m + n) r = dns n (dns m r) := by
  induction m generalizing r with
  | zero => simp [dns]
  | succ m ih => rw [Nat.add_right_comm, dns, ih]; rfl

theorem dn_xor (a b : Nat) : dn (a ^^^ b) = dn a ^^^ dn b := by
  have h2 : (a ^^^ b) / 2 = a / 2 ^^^ b / 2 := by
    have := Nat.xor_div_two_pow (a := a) (b := b) (n := 1); simpa using this
  have hm : (a ^^^ b) % 2 = (a % 2 + b % 2) % 2 := by
    have := Nat.xor_mod_two_pow (a := a) (b := b) (n := 1)
    simp only [Nat.pow_one] at this
    rw [this]
    rcases Nat.mod_two_eq_zero_or_one a with ha | ha <;> rcases Nat.mod_two_eq_zero_or_one b with hb | hb <;> rw [ha, hb] <;> rfl
  unfold dn
  rw [h2, hm]
  rcases Nat.mod_two_eq_zero_or_one a with ha | ha <;> rcases Nat.mod_two_eq_zero_or_one b with hb | hb <;> rw [ha, hb]
  · simp
  · simp [Nat.xor_assoc]
  · simp only [Nat.add_zero, Nat.mod_succ, if_true, Nat.zero_ne_one, if_false, Nat.xor_zero]
    ac_rfl
  · have : a / 2 ^^^ 3988292384 ^^^ (b / 2 ^^^ 3988292384) = a / 2 ^^^ b / 2 ^^^ (3988292384 ^^^ 3988292384) := by ac_rfl
    simp [this]

theorem dns_xor (n a b : Nat) : dns n (a ^^^ b) = dns n a ^^^ dns n b := by
  induction n generalizing a b with
  | zero => rfl
  | succ n ih => simp only [dns, dn_xor, ih]

theorem dn_zero : dn 0 = 0 := by decide
theorem dns_zero : ∀ n, dns n 0 = 0
  | 0 => rfl
  | n + 1 => by rw [dns, dn_zero, dns_zero n]

theorem dn_two (x : Nat) : dn (2 * x) = x := by
  have h1 : 2 * x / 2 = x := by omega
  have h2 : 2 * x % 2 = 0 := by omega
  simp [dn, h1, h2]

theorem dns_pow : ∀ n x, dns n (2 ^ n * x) = x
  | 0, x => by simp [dns]
  | n + 1, x => by
    rw [dns, Nat.pow_succ, Nat.mul_comm (2 ^ n) 2, Nat.mul_assoc, dn_two, dns_pow n x]

theorem dn_lt {r : Nat} (h : r < 4294967296) : dn r < 4294967296 := by
  unfold dn
  have h32 : (4294967296 : Nat) = 2 ^ 32 := by decide
  rw [h32]
  refine Nat.xor_lt_two_pow (by rw [← h32]; omega) ?_
  split <;> decide

theorem dns_lt : ∀ (n : Nat) {r : Nat}, r < 4294967296 → dns n r < 4294967296
  | 0, _, h => h
  | n + 1, _, h => dns_lt n (dn_lt h)

theorem dn_eq_zero {r : Nat} (h : r < 4294967296) (h0 : dn r = 0) : r = 0 := by
  unfold dn at h0
  rcases Nat.mod_two_eq_zero_or_one r with hr | hr
  · rw [hr] at h0
    simp at h0
    omega
  · rw [hr, if_pos rfl] at h0
    have hb : (r / 2 ^^^ 3988292384).testBit 31 = false := by rw [h0]; simp
    rw [Nat.testBit_xor] at hb
    have h1 : (r / 2).testBit 31 = false := Nat.testBit_lt_two_pow (by rw [show (2 : Nat) ^ 31 = 2147483648 from rfl]; omega)
    rw [h1] at hb
    exact absurd hb (by decide)

theorem dns_eq_zero : ∀ (n : Nat) {r : Nat}, r < 4294967296 → dns n r = 0 → r = 0
  | 0, _, _, h => h
  | n + 1, _, h, h0 => dn_eq_zero h (dns_eq_zero n (dn_lt h) h0)

theorem byte_lt (b : UInt8) : b.toNat < 256 := b.toNat_lt

theorem low_xor (a x : Nat) (h : a < 256) : a ^^^ 256 * x = a + 256 * x := by
  have := Nat.two_pow_add_eq_or_of_lt (i := 8) (b := a) (by omega) x
  have h2 : a ^^^ 256 * x = a ||| 256 * x := by
    refine Nat.eq_of_testBit_eq fun i => ?_
    rw [Nat.testBit_xor, Nat.testBit_or]
    have h3 : (256 * x).testBit i = (decide (8 ≤ i) && x.testBit (i - 8)) := by
      have := Nat.testBit_two_pow_mul (i := 8) (a := x) (j := i); simpa using this
    by_cases hi : 8 ≤ i
    · have : a.testBit i = false := Nat.testBit_lt_two_pow (Nat.lt_of_lt_of_le h (by have := Nat.pow_le_pow_right (n := 2) (by decide) hi; simpa using this))
      simp [this]
    · simp [h3, hi]
  rw [h2, Nat.or_comm, show (256 : Nat) = 2 ^ 8 from rfl, ← this]
  omega

theorem num_cons (b : UInt8) (l : List UInt8) : num (b :: l) = b.toNat ^^^ 256 * num l := (low_xor _ _ (byte_lt b)).symm

/-- The register behind a row: the row, as a number, laid over it, and all its places down. -/
theorem reg_num : ∀ (l : List UInt8) (r : Nat), reg r l = dns (8 * l.length) (r ^^^ num l)
  | [], r => by simp [reg, num, dns]
  | b :: l, r => by
    have ih := reg_num l (nx r b)
    have e : dns 8 (256 * num l) = num l := dns_pow 8 (num l)
    show reg (nx r b) l = _
    rw [ih, num_cons, List.length_cons, Nat.mul_add, Nat.add_comm, Nat.mul_one, dns_add, ← Nat.xor_assoc, dns_xor 8, e]
    rfl

theorem reg_lt : ∀ (l : List UInt8) (r : Nat), r < 4294967296 → reg r l < 4294967296
  | [], _, h => h
  | b :: l, r, h => by
    refine reg_lt l (nx r b) (dns_lt 8 ?_)
    rw [show (4294967296 : Nat) = 2 ^ 32 from rfl]
    exact Nat.xor_lt_two_pow h (Nat.lt_of_lt_of_le (byte_lt b) (by decide))

theorem nx_lt (b : UInt8) (r : Nat) (h : r < 4294967296) : nx r b < 4294967296 := reg_lt [b] r h

theorem reg_append (a b : List UInt8) (r : Nat) : reg r (a ++ b) = reg (reg r a) b := List.foldl_append ..

theorem inv_xor (r : Nat) (h : r < 4294967296) : 4294967295 - r = r ^^^ 4294967295 := by
  refine Nat.eq_of_testBit_eq fun i => ?_
  have e : 4294967295 - r = 2 ^ 32 - (r + 1) := by rw [show (2 : Nat) ^ 32 = 4294967296 from rfl]; omega
  have f : (4294967295 : Nat) = 2 ^ 32 - 1 := by decide
  rw [e, Nat.testBit_two_pow_sub_succ h, f, Nat.testBit_xor, Nat.testBit_two_pow_sub_one]
  by_cases hi : i < 32
  · simp [hi]
  · have : r.testBit i = false := Nat.testBit_lt_two_pow (Nat.lt_of_lt_of_le h (by have := Nat.pow_le_pow_right (n := 2) (by decide) (show 32 ≤ i by omega); simpa using this))
    simp [hi, this]

theorem crc_lt (l : List UInt8) : crc l < 4294967296 := by unfold crc; omega

theorem crc_xor (l : List UInt8) : crc l = reg 4294967295 l ^^^ 4294967295 := inv_xor _ (reg_lt l _ (by decide))

theorem crc_inv (l : List UInt8) : 4294967295 - crc l = reg 4294967295 l := by
  have := reg_lt l 4294967295 (by decide)
  unfold crc
  omega

/-- Two rows of one length: their registers differ by what their difference leaves. -/
theorem reg_two (a b : List UInt8) (h : a.length = b.length) (r s : Nat) : reg r a ^^^ reg s b = dns (8 * a.length) (r ^^^ s ^^^ (num a ^^^ num b)) := by
  rw [reg_num, reg_num, ← h, ← dns_xor]
  congr 1
  ac_rfl

theorem crc_two (a b : List UInt8) (h : a.length = b.length) : crc a ^^^ crc b = dns (8 * a.length) (num a ^^^ num b) := by
  have e : crc a ^^^ crc b = reg 4294967295 a ^^^ reg 4294967295 b := by
    rw [crc_xor, crc_xor]
    have : reg 4294967295 a ^^^ 4294967295 ^^^ (reg 4294967295 b ^^^ 4294967295) = reg 4294967295 a ^^^ reg 4294967295 b ^^^ (4294967295 ^^^ 4294967295) := by ac_rfl
    rw [this, Nat.xor_self, Nat.xor_zero]
  rw [e, reg_two a b h, Nat.xor_self, Nat.zero_xor]

/-- Bits turned within 32 places are seen. -/
theorem crc_burst (a b : List UInt8) (h : a.length = b.length) (k m : Nat) (hk : k ≤ 8 * a.length) (hm : m < 4294967296) (hd : num a ^^^ num b = 2 ^ k * m) : crc a = crc b ↔ m = 0 := by
  have e := crc_two a b h
  rw [hd, show 8 * a.length = k + (8 * a.length - k) from by omega, dns_add, dns_pow] at e
  constructor
  · intro hc
    rw [hc, Nat.xor_self] at e
    exact dns_eq_zero _ hm e.symm
  · intro h0
    rw [h0, dns_zero] at e
    exact Nat.eq_of_testBit_eq fun i => by
      have := congrArg (fun x => Nat.testBit x i) e
      simpa [Nat.testBit_xor] using this

theorem num_zip3 : ∀ (a b c : List UInt8), a.length = b.length → b.length = c.length → num (List.zipWith (fun x y => x ^^^ y) (List.zipWith (fun x y => x ^^^ y) a b) c) = num a ^^^ num b ^^^ num c
  | [], [], [], _, _ => by simp [num]
  | x :: a, y :: b, z :: c, h1, h2 => by
    have ih := num_zip3 a b c (by simpa using h1) (by simpa using h2)
    simp only [List.zipWith_cons_cons, num_cons, ih, UInt8.toNat_xor]
    have d : ∀ p q : Nat, 256 * (p ^^^ q) = 256 * p ^^^ 256 * q := fun p q => by
      have := Nat.shiftLeft_xor_distrib (a := p) (b := q) (i := 8)
      simpa [Nat.shiftLeft_eq, Nat.mul_comm] using this
    rw [d, d]
    ac_rfl
  | [], _ :: _, _, h, _ => by simp at h
  | _ :: _, [], _, h, _ => by simp at h
  | [], [], _ :: _, _, h => by simp at h
  | _ :: _, _ :: _, [], _, h => by simp at h

theorem crc_three (a b c d : List UInt8) (h1 : a.length = b.length) (h2 : b.length = c.length) (h3 : c.length = d.length) (hd : num d = num a ^^^ num b ^^^ num c) : crc a ^^^ crc b ^^^ crc c = crc d := by
  have e1 := crc_two a b h1
  have e2 := crc_two c d h3
  rw [hd] at e2
  have e3 : num c ^^^ (num a ^^^ num b ^^^ num c) = num a ^^^ num b := by
    have : num c ^^^ (num a ^^^ num b ^^^ num c) = num a ^^^ num b ^^^ (num c ^^^ num c) := by ac_rfl
    rw [this, Nat.xor_self, Nat.xor_zero]
  rw [e3, ← h2, ← h1, ← e1] at e2
  have : crc a ^^^ crc b ^^^ crc c = (crc a ^^^ crc b) ^^^ crc c := rfl
  rw [← e2, Nat.xor_comm (crc c), Nat.xor_assoc, Nat.xor_self, Nat.xor_zero]

/-- A row with its own sum behind it. -/
theorem crc_own (l : List UInt8) (a b c d : UInt8) (h : num [a, b, c, d] = crc l) : crc (l ++ [a, b, c, d]) = 558161692 := by
  unfold crc
  rw [reg_append, reg_num [a, b, c, d], h, crc_xor, ← Nat.xor_assoc, Nat.xor_self, Nat.zero_xor]
  show 4294967295 - dns 32 4294967295 = 558161692
  decide +kernel

theorem num_set : ∀ (l : List UInt8) (j : Nat) (hj : j < l.length) (x : UInt8), num (l.set j (l[j] ^^^ x)) = num l ^^^ 2 ^ (8 * j) * x.toNat
  | b :: l, 0, _, x => by
    simp only [List.set_cons_zero, List.getElem_cons_zero, num_cons, UInt8.toNat_xor, Nat.mul_zero, Nat.pow_zero, Nat.one_mul]
    ac_rfl
  | b :: l, j + 1, hj, x => by
    have ih := num_set l j (by simpa using hj) x
    have d : ∀ p q : Nat, 256 * (p ^^^ q) = 256 * p ^^^ 256 * q := fun p q => by
      have := Nat.shiftLeft_xor_distrib (a := p) (b := q) (i := 8)
      simpa [Nat.shiftLeft_eq, Nat.mul_comm] using this
    simp only [List.set_cons_succ, List.getElem_cons_succ, num_cons, ih, d]
    rw [Nat.mul_add, Nat.mul_one, Nat.pow_add, show (2 : Nat) ^ 8 = 256 from rfl, Nat.mul_comm (2 ^ (8 * j)) 256, Nat.mul_assoc, Nat.xor_assoc]

theorem mask_succ (m i : Nat) : m % 2 ^ (i + 1) = m % 2 ^ i ^^^ 2 ^ i * (m / 2 ^ i % 2) := by
  refine Nat.eq_of_testBit_eq fun j => ?_
  rw [Nat.testBit_xor, Nat.testBit_mod_two_pow, Nat.testBit_mod_two_pow, Nat.testBit_two_pow_mul]
  have e : ∀ q, (m / 2 ^ i % 2).testBit q = (decide (q < 1) && m.testBit (i + q)) := fun q => by
    have := Nat.testBit_mod_two_pow (m / 2 ^ i) 1 q
    rw [Nat.pow_one] at this
    rw [this, Nat.testBit_div_two_pow, Nat.add_comm]
  rw [e]
  by_cases h1 : j < i
  · simp [h1, show j < i + 1 by omega, show ¬ i ≤ j by omega]
  · by_cases h2 : j = i
    · subst h2; simp
    · simp [show ¬ j < i + 1 by omega, show ¬ j < i by omega, show ¬ (j - i < 1) by omega]
end Sm
end Go.Proofs.YtnllplholfhbdaaDoor
