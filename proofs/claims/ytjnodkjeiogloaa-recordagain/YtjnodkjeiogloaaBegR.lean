/- Small calls of the laws on records: a payload cut, and whether a block is a first one. -/
import Derived.Test.YtjnodkjeiogloaaBlkR
import Derived.Laws.BitsAllLaws
import Derived.BigQuiet
namespace Go.Proofs.Ytjnodkjeiogloaa
set_option linter.ambiguousOpen false
open Go.RowKit
namespace Rc
open Sm Pk
set_option linter.unusedSimpArgs false
set_option linter.unusedVariables false

set_option maxRecDepth 100000 in
theorem cut_any (a : Option Addr) (cap n : Nat) (p : List UInt8) (w : World) (hn : p.length = n) (hR : RdB w (.slice a n cap) p) (hz : Nz (.slice a n cap)) :
    Calls Try.prog 20 #[.slice a n cap] w fun e w' => (∃ m, e = .returned (.slice a m cap) ∧ (p.take 512).length = m ∧ RdB w' (.slice a m cap) (p.take 512) ∧ Nz (.slice a m cap)) ∧ w' = w := by
  obtain ⟨m, hm⟩ : ∃ m, min n 512 = m := ⟨_, rfl⟩
  have hml : (p.take 512).length = m := by
    rw [List.length_take, hn, Nat.min_comm]
    exact hm
  have hmin : ∀ wx, (Builtin.min_ #[3, 3] 3 #[.int .i64 (n : Int), .int .i64 512]).run Try.prog wx = .ok (.int .i64 (m : Int)) wx := fun wx => by
    rw [min_two, ← hm]
    congr 2
    split <;> omega
  have hmn : m ≤ n := by omega
  have hrd : RdB w (.slice a m cap) (p.take 512) := by
    have h1 := hR
    rw [← hn] at h1
    have h2 := h1.take m (by omega)
    have h3 : p.take m = p.take 512 := by
      rw [← hm]
      rcases Nat.le_total n 512 with h | h
      · rw [Nat.min_eq_left h, List.take_of_length_le (by omega), List.take_of_length_le (by omega)]
      · rw [Nat.min_eq_right h]
    rw [h3] at h2
    exact h2
  have hzm : Nz (.slice a m cap) := by
    rcases hz with h | ⟨ad, m', c', h⟩
    · obtain ⟨rfl, h0, rfl⟩ : a = none ∧ n = 0 ∧ cap = 0 := by simpa using h
      exact .inl (by rw [show m = 0 by omega])
    · obtain ⟨rfl, h0, rfl⟩ : a = some ad ∧ n = m' ∧ cap = c' := by simpa using h
      exact .inr ⟨_, _, _, rfl⟩
  obtain ⟨a', cap', e, hc1, hc2, _⟩ := hR
  obtain ⟨rfl, h0, rfl⟩ : a = a' ∧ n = p.length ∧ cap = cap' := by simpa using e
  have hsl := fun wx => slice_to a n cap m (by omega) wx
  have HX := Hid.mk' (And.intro hml (And.intro hrd hzm))
  clear hml hrd hzm hz e hm h0 hn
  go_enter Try.func20, Try.ntmps20
  go_wp2
  go_ret
  exact ⟨⟨m, rfl, HX.out.1, HX.out.2.1, HX.out.2.2⟩, rfl⟩

instance (ep : Nat) (b : List UInt8) : Decidable (begins ep b) := inferInstanceAs (Decidable (_ = _))

theorem begins_short (ep : Nat) (b : List UInt8) (h : b.length < 5) : ¬ begins ep b := by
  intro hb
  have := congrArg List.length hb
  rw [List.length_take, List.length_cons, lo_len] at this
  omega

theorem or_part (a b k : Nat) (h : a < 2 ^ k) : a ||| (b * 2 ^ k) = a + b * 2 ^ k := by
  rw [Nat.or_comm, Nat.mul_comm b, Nat.add_comm, Nat.two_pow_add_eq_or_of_lt h]

theorem begins_num (ep : Nat) (b0 b1 b2 b3 b4 : UInt8) (r : List UInt8) (hep : ep < 4294967296) : begins ep (b0 :: b1 :: b2 :: b3 :: b4 :: r) ↔ b0 = 104 ∧ b1.toNat + b2.toNat * 256 + b3.toNat * 65536 + b4.toNat * 16777216 = ep := by
  have h1 : lo ep 4 = [UInt8.ofNat (ep % 256), UInt8.ofNat (ep / 256 % 256), UInt8.ofNat (ep / 256 / 256 % 256), UInt8.ofNat (ep / 256 / 256 / 256 % 256)] := by simp [lo]
  have l1 := b1.toNat_lt
  have l2 := b2.toNat_lt
  have l3 := b3.toNat_lt
  have l4 := b4.toNat_lt
  unfold begins
  rw [h1]
  simp only [List.take_succ_cons, List.take_zero, List.cons.injEq, and_true]
  have e : ∀ (x : UInt8) (n : Nat), n < 256 → (x = UInt8.ofNat n ↔ x.toNat = n) := fun x n hn => by
    constructor
    · intro h
      rw [h]
      exact UInt8.toNat_ofNat_of_lt' hn
    · intro h
      rw [← h]
      simp
  rw [e b1 _ (by omega), e b2 _ (by omega), e b3 _ (by omega), e b4 _ (by omega)]
  constructor
  · rintro ⟨h0, h1, h2, h3, h4⟩
    exact ⟨h0, by omega⟩
  · rintro ⟨h0, h⟩
    exact ⟨h0, by omega, by omega, by omega, by omega⟩

theorem or_four (c1 c2 c3 c4 : Nat) (l1 : c1 < 256) (l2 : c2 < 256) (l3 : c3 < 256) (l4 : c4 < 256) :
    bits .or .u32 (bits .or .u32 (bits .or .u32 (c1 : Int) ((c2 : Int) * 256)) ((c3 : Int) * 65536)) ((c4 : Int) * 16777216) = ((c1 + c2 * 256 + c3 * 65536 + c4 * 16777216 : Nat) : Int) := by
  have e1 := u32_or_nat c1 (c2 * 256) (by omega) (by omega)
  rw [show c2 * 256 = c2 * 2 ^ 8 from rfl, or_part c1 c2 8 (by omega)] at e1
  have e2 := u32_or_nat (c1 + c2 * 2 ^ 8) (c3 * 65536) (by omega) (by omega)
  rw [show c3 * 65536 = c3 * 2 ^ 16 from rfl, or_part (c1 + c2 * 2 ^ 8) c3 16 (by omega)] at e2
  have e3 := u32_or_nat (c1 + c2 * 2 ^ 8 + c3 * 2 ^ 16) (c4 * 16777216) (by omega) (by omega)
  rw [show c4 * 16777216 = c4 * 2 ^ 24 from rfl, or_part (c1 + c2 * 2 ^ 8 + c3 * 2 ^ 16) c4 24 (by omega)] at e3
  have f1 : ((c2 : Int) * 256) = ((c2 * 2 ^ 8 : Nat) : Int) := by rw [show (2 : Nat) ^ 8 = 256 from rfl]; omega
  have f2 : ((c3 : Int) * 65536) = ((c3 * 2 ^ 16 : Nat) : Int) := by rw [show (2 : Nat) ^ 16 = 65536 from rfl]; omega
  have f3 : ((c4 : Int) * 16777216) = ((c4 * 2 ^ 24 : Nat) : Int) := by rw [show (2 : Nat) ^ 24 = 16777216 from rfl]; omega
  rw [f1, e1, f2, e2, f3, e3]

set_option maxRecDepth 100000 in
set_option maxHeartbeats 4000000 in
theorem begins_any (ep : Nat) (b : List UInt8) (w : World) (hep : ep < 4294967296) (hb : b.length ≤ 9223372036854775807) :
    Calls Try.prog 18 #[.string (tx b), .int .u32 (ep : Int)] w fun e w' => e = .returned (.bool (decide (begins ep b))) ∧ Below w.heap.size w w' := by
  have hs : (tx b).size = b.length := rfl
  by_cases h5 : b.length < 5
  · rw [decide_eq_false (begins_short ep b h5)]
    obtain ⟨f, hf⟩ : ∃ f, tx b = f := ⟨_, rfl⟩
    rw [hf] at hs ⊢
    have h5I : ¬ (5 : Int) ≤ (f.size : Int) := by omega
    have h5B : decide ((5 : Int) ≤ (f.size : Int)) = false := decide_eq_false h5I
    clear hf hs
    go_enter Try.func18, Try.ntmps18
    go_upto_region 1 with fail
    go_quiet (fail)
    go_wp2
    go_ret
    exact ⟨rfl, below_dn (Below.refl _ _) _⟩
  · rcases b with _ | ⟨b0, _ | ⟨b1, _ | ⟨b2, _ | ⟨b3, _ | ⟨b4, r⟩⟩⟩⟩⟩
    · simp at h5
    · simp at h5
    · simp at h5
    · simp at h5
    · simp at h5
    · have i0 : ∀ wx, (Instr.index 9 (.string (tx (b0 :: b1 :: b2 :: b3 :: b4 :: r))) (.int .i64 0)).run Try.prog wx = .ok (.int .u8 (b0.toNat : Int)) wx := fun wx => idx_at (b0 :: b1 :: b2 :: b3 :: b4 :: r) 0 (by simp) wx
      have i1 : ∀ wx, (Instr.index 9 (.string (tx (b0 :: b1 :: b2 :: b3 :: b4 :: r))) (.int .i64 1)).run Try.prog wx = .ok (.int .u8 (b1.toNat : Int)) wx := fun wx => idx_at (b0 :: b1 :: b2 :: b3 :: b4 :: r) 1 (by simp) wx
      have i2 : ∀ wx, (Instr.index 9 (.string (tx (b0 :: b1 :: b2 :: b3 :: b4 :: r))) (.int .i64 2)).run Try.prog wx = .ok (.int .u8 (b2.toNat : Int)) wx := fun wx => idx_at (b0 :: b1 :: b2 :: b3 :: b4 :: r) 2 (by simp) wx
      have i3 : ∀ wx, (Instr.index 9 (.string (tx (b0 :: b1 :: b2 :: b3 :: b4 :: r))) (.int .i64 3)).run Try.prog wx = .ok (.int .u8 (b3.toNat : Int)) wx := fun wx => idx_at (b0 :: b1 :: b2 :: b3 :: b4 :: r) 3 (by simp) wx
      have i4 : ∀ wx, (Instr.index 9 (.string (tx (b0 :: b1 :: b2 :: b3 :: b4 :: r))) (.int .i64 4)).run Try.prog wx = .ok (.int .u8 (b4.toNat : Int)) wx := fun wx => idx_at (b0 :: b1 :: b2 :: b3 :: b4 :: r) 4 (by simp) wx
      have hiff := begins_num ep b0 b1 b2 b3 b4 r hep
      have h0 : b0 = 104 ↔ b0.toNat = 104 := by
        constructor
        · rintro rfl; rfl
        · intro h
          exact UInt8.toNat_inj.1 h
      rw [h0] at hiff
      have or4 := or_four b1.toNat b2.toNat b3.toNat b4.toNat b1.toNat_lt b2.toNat_lt b3.toNat_lt b4.toNat_lt
      obtain ⟨d, hd⟩ : ∃ d, decide (begins ep (b0 :: b1 :: b2 :: b3 :: b4 :: r)) = d := ⟨_, rfl⟩
      rw [hd]
      have l0 := b0.toNat_lt
      have l1 := b1.toNat_lt
      have l2 := b2.toNat_lt
      have l3 := b3.toNat_lt
      have l4 := b4.toNat_lt
      generalize b0.toNat = c0 at *
      generalize b1.toNat = c1 at *
      generalize b2.toNat = c2 at *
      generalize b3.toNat = c3 at *
      generalize b4.toNat = c4 at *
      obtain ⟨f, hf⟩ : ∃ f, tx (b0 :: b1 :: b2 :: b3 :: b4 :: r) = f := ⟨_, rfl⟩
      simp only [hf] at hs i0 i1 i2 i3 i4 ⊢
      have h5I : (5 : Int) ≤ (f.size : Int) := by
        rw [hs]
        simp
        omega
      have HD := Hid.mk' hd
      have HF := Hid.mk' hiff
      clear hs hf hd hiff h0
      by_cases q0 : c0 = 104
      · subst q0
        by_cases q1 : c1 + c2 * 256 + c3 * 65536 + c4 * 16777216 = ep
        · have hd : d = true := by
            rw [← HD.out]
            exact decide_eq_true (HF.out.2 ⟨rfl, q1⟩)
          subst hd
          rw [q1] at or4
          have HQ := Hid.mk' q1
          clear q1
          go_enter Try.func18, Try.ntmps18
          go_upto_region 1 with fail
          go_quiet (fail)
          go_wp2
          go_ret
          exact ⟨rfl, below_dn (Below.refl _ _) _⟩
        · have hd : d = false := by
            rw [← HD.out]
            exact decide_eq_false (fun h => q1 (HF.out.1 h).2)
          subst hd
          obtain ⟨N, hN⟩ : ∃ N, c1 + c2 * 256 + c3 * 65536 + c4 * 16777216 = N := ⟨_, rfl⟩
          rw [hN] at or4 q1
          have q1B : ((N : Int) == (ep : Int)) = false := beq_eq_false_iff_ne.2 (by omega)
          clear q1 hN
          go_enter Try.func18, Try.ntmps18
          go_upto_region 1 with fail
          go_quiet (fail)
          go_wp2
          go_ret
          exact ⟨rfl, below_dn (Below.refl _ _) _⟩
      · have hd : d = false := by
          rw [← HD.out]
          exact decide_eq_false (fun h => q0 (HF.out.1 h).1)
        subst hd
        have q0B : ((c0 : Int) == 104) = false := beq_eq_false_iff_ne.2 (by omega)
        clear or4 q0
        go_enter Try.func18, Try.ntmps18
        go_upto_region 1 with fail
        go_quiet (fail)
        go_wp2
        go_ret
        exact ⟨rfl, below_dn (Below.refl _ _) _⟩
end Rc
end Go.Proofs.Ytjnodkjeiogloaa
