/- How many bits a number of 64 bits has: by parallel sums of its bytes. No program is named here. -/
import Derived.Laws.BitsAllLaws
namespace Go.Proofs.YtbgggekkkcefcabDoor
namespace Bt

def ofB : List Nat → Nat
  | [] => 0
  | b :: l => 256 * ofB l + b
def mask (c : Nat) : Nat → Nat
  | 0 => 0
  | k + 1 => 256 * mask c k + c

theorem and_step (a b c d : Nat) (hb : b < 256) (hd : d < 256) : (256 * a + b) &&& (256 * c + d) = 256 * (a &&& c) + (b &&& d) := by
  have hbd : b &&& d < 2 ^ 8 := Nat.and_lt_two_pow _ (by omega)
  refine Nat.eq_of_testBit_eq fun i => ?_
  rw [Nat.testBit_and, show (256 : Nat) = 2 ^ 8 from rfl, Nat.testBit_two_pow_mul_add _ (by omega), Nat.testBit_two_pow_mul_add _ (by omega), Nat.testBit_two_pow_mul_add _ hbd]
  by_cases h : i < 8
  · simp [h, Nat.testBit_and]
  · simp [h, Nat.testBit_and]

theorem by1 : ∀ p, p < 2 → ∀ b, b < 256 → (128 * p + b / 2) &&& 85 = b / 2 &&& 85 := by decide +kernel
theorem by2 : ∀ p, p < 4 → ∀ b, b < 256 → (64 * p + b / 4) &&& 51 = b / 4 &&& 51 := by decide +kernel

def g1 (b : Nat) : Nat := (b / 2 &&& 85) + (b &&& 85)
def g2 (b : Nat) : Nat := (b / 4 &&& 51) + (b &&& 51)
def g3 (b : Nat) : Nat := (b / 16 + b) &&& 15

theorem step1 : ∀ l : List Nat, (∀ b ∈ l, b < 256) → (ofB l / 2 &&& mask 85 l.length) + (ofB l &&& mask 85 l.length) = ofB (l.map g1)
  | [], _ => by simp [ofB, mask]
  | b :: l, h => by
    have hb : b < 256 := h b (by simp)
    have ih := step1 l (fun x hx => h x (by simp [hx]))
    simp only [ofB, mask, List.length_cons, List.map_cons]
    have e : (256 * ofB l + b) / 2 = 256 * (ofB l / 2) + (128 * (ofB l % 2) + b / 2) := by omega
    rw [e, and_step _ _ _ _ (by omega) (by omega), and_step _ _ _ _ hb (by omega), by1 _ (by omega) _ hb, ← ih, g1]
    omega
theorem step2 : ∀ l : List Nat, (∀ b ∈ l, b < 256) → (ofB l / 4 &&& mask 51 l.length) + (ofB l &&& mask 51 l.length) = ofB (l.map g2)
  | [], _ => by simp [ofB, mask]
  | b :: l, h => by
    have hb : b < 256 := h b (by simp)
    have ih := step2 l (fun x hx => h x (by simp [hx]))
    simp only [ofB, mask, List.length_cons, List.map_cons]
    have e : (256 * ofB l + b) / 4 = 256 * (ofB l / 4) + (64 * (ofB l % 4) + b / 4) := by omega
    rw [e, and_step _ _ _ _ (by omega) (by omega), and_step _ _ _ _ hb (by omega), by2 _ (by omega) _ hb, ← ih, g2]
    omega
theorem ofB_mod16 : ∀ l : List Nat, (∀ b ∈ l, b % 16 ≤ 4) → ofB l % 16 ≤ 4
  | [], _ => by simp [ofB]
  | b :: l, h => by
    have := h b (by simp)
    simp only [ofB]
    omega
theorem step3 : ∀ l : List Nat, (∀ b ∈ l, b % 16 ≤ 4 ∧ b ≤ 68) → (ofB l / 16 + ofB l) &&& mask 15 l.length = ofB (l.map g3)
  | [], _ => by simp [ofB, mask]
  | b :: l, h => by
    have hb := h b (by simp)
    have ih := step3 l (fun x hx => h x (by simp [hx]))
    have h16 := ofB_mod16 l (fun x hx => (h x (by simp [hx])).1)
    simp only [ofB, mask, List.length_cons, List.map_cons]
    have e : (256 * ofB l + b) / 16 + (256 * ofB l + b) = 256 * (ofB l / 16 + ofB l) + (16 * (ofB l % 16) + b / 16 + b) := by omega
    have m15 : ∀ x : Nat, x &&& 15 = x % 16 := fun x => Nat.and_two_pow_sub_one_eq_mod x 4
    rw [e, and_step _ _ _ _ (by omega) (by omega), ih, g3, m15, m15]
    omega

def pc8 (b : Nat) : Nat := (List.range 8).countP (fun i => b.testBit i)
theorem byte12 : ∀ b, b < 256 → g1 b < 256 ∧ g2 (g1 b) % 16 ≤ 4 ∧ g2 (g1 b) ≤ 68 ∧ g3 (g2 (g1 b)) = pc8 b ∧ pc8 b ≤ 8 := by decide +kernel

/-- The bytes of a number, the lowest first. -/
def bytes : Nat → Nat → List Nat
  | 0, _ => []
  | k + 1, x => x % 256 :: bytes k (x / 256)
theorem bytes_lt : ∀ k x, ∀ b ∈ bytes k x, b < 256
  | 0, _ => by simp [bytes]
  | k + 1, x => by
    intro b hb
    simp only [bytes, List.mem_cons] at hb
    rcases hb with rfl | hb
    · omega
    · exact bytes_lt k _ b hb
theorem bytes_len : ∀ k x, (bytes k x).length = k
  | 0, _ => rfl
  | k + 1, x => by simp [bytes, bytes_len k]
theorem ofB_bytes : ∀ k x, x < 256 ^ k → ofB (bytes k x) = x
  | 0, x => by intro h; simp at h; simp [bytes, ofB, h]
  | k + 1, x => by
    intro h
    simp only [bytes, ofB]
    rw [ofB_bytes k (x / 256) (by rw [Nat.pow_succ] at h; omega)]
    omega

/-- How many bits a number has below a bound. -/
def ones (x : Nat) (n : Nat) : Nat := (List.range n).countP (fun i => x.testBit i)
theorem ones_bytes : ∀ k x, ones x (8 * k) = ((bytes k x).map pc8).sum
  | 0, x => rfl
  | k + 1, x => by
    have e : List.range (8 * (k + 1)) = List.range 8 ++ (List.range (8 * k)).map (8 + ·) := by rw [show 8 * (k + 1) = 8 + 8 * k by omega, List.range_add]
    have ih := ones_bytes k (x / 256)
    simp only [ones, bytes, List.map_cons, List.sum_cons] at ih ⊢
    rw [e, List.countP_append, List.countP_map, ← ih]
    congr 1
    · unfold pc8
      refine List.countP_congr fun i hi => ?_
      have hi8 : i < 8 := by simpa using hi
      rw [show (256 : Nat) = 2 ^ 8 from rfl, Nat.testBit_mod_two_pow]
      simp [hi8]
    · refine List.countP_congr fun i _ => ?_
      simp only [Function.comp]
      rw [show (256 : Nat) = 2 ^ 8 from rfl, Nat.testBit_div_two_pow, Nat.add_comm]

theorem sums (x : Nat) (h : x < 18446744073709551616) : ∃ y, y = (((x / 2 &&& 6148914691236517205) + (x &&& 6148914691236517205)) : Nat) ∧ y < 18446744073709551616 ∧
    ∃ z, z = (y / 4 &&& 3689348814741910323) + (y &&& 3689348814741910323) ∧ z < 18446744073709551616 ∧ z / 16 + z < 18446744073709551616 ∧
    ∃ u, u = (z / 16 + z) &&& 1085102592571150095 ∧ u + u / 256 < 18446744073709551616 ∧
    ∃ v, v = u + u / 256 ∧ v + v / 65536 < 18446744073709551616 ∧
    ∃ t, t = v + v / 65536 ∧ t + t / 4294967296 < 9223372036854775808 ∧ (t + t / 4294967296) % 128 = ones x 64 := by
  have hl := bytes_lt 8 x
  have hn := bytes_len 8 x
  have hx := ofB_bytes 8 x (by simpa using h)
  have ho := ones_bytes 8 x
  generalize hB : bytes 8 x = l at hl hn hx ho
  match l, hn with
  | [b0, b1, b2, b3, b4, b5, b6, b7], _ =>
    have s1 := step1 _ hl
    have q : ∀ b ∈ [b0, b1, b2, b3, b4, b5, b6, b7], g1 b < 256 ∧ g2 (g1 b) % 16 ≤ 4 ∧ g2 (g1 b) ≤ 68 ∧ g3 (g2 (g1 b)) = pc8 b ∧ pc8 b ≤ 8 := fun b hb => byte12 b (hl b hb)
    have s2 := step2 ([b0, b1, b2, b3, b4, b5, b6, b7].map g1) (fun b hb => by obtain ⟨c, hc, rfl⟩ := List.mem_map.1 hb; exact (q c hc).1)
    have s3 := step3 (([b0, b1, b2, b3, b4, b5, b6, b7].map g1).map g2) (fun b hb => by
      obtain ⟨c, hc, rfl⟩ := List.mem_map.1 hb
      obtain ⟨d, hd, rfl⟩ := List.mem_map.1 hc
      exact ⟨(q d hd).2.1, (q d hd).2.2.1⟩)
    have e3 : (([b0, b1, b2, b3, b4, b5, b6, b7].map g1).map g2).map g3 = [b0, b1, b2, b3, b4, b5, b6, b7].map pc8 := by
      rw [List.map_map, List.map_map]
      exact List.map_congr_left fun b hb => (q b hb).2.2.2.1
    rw [e3] at s3
    rw [hx] at s1
    have m1 : mask 85 8 = 6148914691236517205 := by decide
    have m2 : mask 51 8 = 3689348814741910323 := by decide
    have m3 : mask 15 8 = 1085102592571150095 := by decide
    simp only [List.length_map, List.length_cons, List.length_nil, Nat.zero_add, Nat.reduceAdd, m1, m2, m3] at s1 s2 s3
    rw [← s1] at s2
    rw [← s2] at s3
    have z1 : ∀ b ∈ [b0, b1, b2, b3, b4, b5, b6, b7], g1 b < 256 := fun b hb => (q b hb).1
    have z2 : ∀ b ∈ [b0, b1, b2, b3, b4, b5, b6, b7], g2 (g1 b) ≤ 68 := fun b hb => (q b hb).2.2.1
    have z3 : ∀ b ∈ [b0, b1, b2, b3, b4, b5, b6, b7], pc8 b ≤ 8 := fun b hb => (q b hb).2.2.2.2
    clear q e3 hx hB hl m1 m2 m3
    simp only [List.mem_cons, List.not_mem_nil, or_false, forall_eq_or_imp, forall_eq] at z1 z2 z3
    simp only [List.map_cons, List.map_nil, List.sum_cons, List.sum_nil] at ho
    refine ⟨_, rfl, by rw [s1]; simp only [List.map_cons, List.map_nil, ofB]; omega, _, rfl, ?_, ?_, _, rfl, ?_, _, rfl, ?_, _, rfl, ?_⟩
    · rw [s2]; simp only [List.map_cons, List.map_nil, ofB]; omega
    · rw [s2]; simp only [List.map_cons, List.map_nil, ofB]; omega
    · rw [s3]; simp only [List.map_cons, List.map_nil, ofB]; omega
    · rw [s3]; simp only [List.map_cons, List.map_nil, ofB]; omega
    · rw [s3, ho]
      simp only [List.map_cons, List.map_nil, ofB]
      generalize pc8 b0 = c0 at *
      generalize pc8 b1 = c1 at *
      generalize pc8 b2 = c2 at *
      generalize pc8 b3 = c3 at *
      generalize pc8 b4 = c4 at *
      generalize pc8 b5 = c5 at *
      generalize pc8 b6 = c6 at *
      generalize pc8 b7 = c7 at *
      clear s1 s2 s3 ho z1 z2
      have e1 : 256 * (256 * (256 * (256 * (256 * (256 * (256 * (256 * 0 + c7) + c6) + c5) + c4) + c3) + c2) + c1) + c0 + (256 * (256 * (256 * (256 * (256 * (256 * (256 * (256 * 0 + c7) + c6) + c5) + c4) + c3) + c2) + c1) + c0) / 256 =
        256 * (256 * (256 * (256 * (256 * (256 * (256 * c7 + (c6 + c7)) + (c5 + c6)) + (c4 + c5)) + (c3 + c4)) + (c2 + c3)) + (c1 + c2)) + (c0 + c1) := by omega
      rw [e1]
      have e2 : 256 * (256 * (256 * (256 * (256 * (256 * (256 * c7 + (c6 + c7)) + (c5 + c6)) + (c4 + c5)) + (c3 + c4)) + (c2 + c3)) + (c1 + c2)) + (c0 + c1) +
        (256 * (256 * (256 * (256 * (256 * (256 * (256 * c7 + (c6 + c7)) + (c5 + c6)) + (c4 + c5)) + (c3 + c4)) + (c2 + c3)) + (c1 + c2)) + (c0 + c1)) / 65536 =
        256 * (256 * (256 * (256 * (256 * (256 * (256 * c7 + (c6 + c7)) + (c5 + c6 + c7)) + (c4 + c5 + c6 + c7)) + (c3 + c4 + c5 + c6)) + (c2 + c3 + c4 + c5)) + (c1 + c2 + c3 + c4)) + (c0 + c1 + c2 + c3) := by omega
      rw [e2]
      have e3 : 256 * (256 * (256 * (256 * (256 * (256 * (256 * c7 + (c6 + c7)) + (c5 + c6 + c7)) + (c4 + c5 + c6 + c7)) + (c3 + c4 + c5 + c6)) + (c2 + c3 + c4 + c5)) + (c1 + c2 + c3 + c4)) + (c0 + c1 + c2 + c3) +
        (256 * (256 * (256 * (256 * (256 * (256 * (256 * c7 + (c6 + c7)) + (c5 + c6 + c7)) + (c4 + c5 + c6 + c7)) + (c3 + c4 + c5 + c6)) + (c2 + c3 + c4 + c5)) + (c1 + c2 + c3 + c4)) + (c0 + c1 + c2 + c3)) / 4294967296 =
        256 * (256 * (256 * (256 * (256 * (256 * (256 * c7 + (c6 + c7)) + (c5 + c6 + c7)) + (c4 + c5 + c6 + c7)) + (c3 + c4 + c5 + c6 + c7)) + (c2 + c3 + c4 + c5 + (c6 + c7))) + (c1 + c2 + c3 + c4 + (c5 + c6 + c7))) + (c0 + (c1 + (c2 + (c3 + (c4 + (c5 + (c6 + (c7 + 0)))))))) := by omega
      rw [e3]
      refine ⟨by omega, ?_⟩
      obtain ⟨r0, r1, r2, r3, r4, r5, r6, r7⟩ := z3
      have hs : c0 + (c1 + (c2 + (c3 + (c4 + (c5 + (c6 + (c7 + 0))))))) < 128 := by omega
      generalize c0 + (c1 + (c2 + (c3 + (c4 + (c5 + (c6 + (c7 + 0))))))) = s at *
      omega

end Bt
end Go.Proofs.YtbgggekkkcefcabDoor
