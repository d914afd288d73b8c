/- RefNm, RefTk, in one text. -/
import Derived.Test.YtnllplholfhbdaaDoorAppS
/- The document's number at the beginning of some bytes. -/
namespace Go.Proofs.YtnllplholfhbdaaDoor
set_option linter.ambiguousOpen false
open Go.RowKit
namespace Pk
open Sm
set_option linter.unusedSimpArgs false
set_option linter.unusedVariables false

theorem and127b (n : Nat) (h : n < 256) : bits .and .u8 (n : Int) 127 = ((n % 128 : Nat) : Int) := by
  have e := u8_and_nat n 127 h (by omega)
  rw [show (127 : Nat) = 2 ^ 7 - 1 from rfl, Nat.and_two_pow_sub_one_eq_mod] at e
  exact e

theorem pow27 (k : Nat) : (2 : Nat) ^ (7 * k) = 128 ^ k := by rw [Nat.pow_mul]

/-- Seven bits more. -/
theorem or_more (u y k : Nat) (hu : u < 128 ^ k) (hy : y < 128) (h64 : u + y * 128 ^ k < 18446744073709551616) : bits .or .u64 (u : Int) (IntKind.u64.wrap ((y : Int) * 2 ^ (7 * k))) = ((u + y * 128 ^ k : Nat) : Int) := by
  have h1 : y * 128 ^ k < 18446744073709551616 := by omega
  have e : (y : Int) * 2 ^ (7 * k) = ((y * 128 ^ k : Nat) : Int) := by
    rw [← pow27]
    push_cast
    rfl
  rw [e, IntKind.wrap_u64, Int.emod_eq_of_lt (by omega) (by omega), u64_or_nat u (y * 128 ^ k) (by omega) h1]
  congr 1
  rw [← pow27] at hu ⊢
  have := Nat.two_pow_add_eq_or_of_lt hu y
  rw [Nat.or_comm, Nat.mul_comm y, ← this]
  omega

theorem numG_nil (f i u : Nat) (h : 0 < f) : numG f i u [] = (0, 0, 2) := by
  cases f with
  | zero => omega
  | succ f => rfl

theorem numG_cons (f i u : Nat) (x : UInt8) (xs : List UInt8) (h : 0 < f) : numG f i u (x :: xs) = if (i = 9 ∧ 1 < x.toNat) ∨ (0 < i ∧ x.toNat = 0) then (0, 0, 4) else if x.toNat < 128 then (u + x.toNat * 128 ^ i, i + 1, 0) else numG (f - 1) (i + 1) (u + (x.toNat - 128) * 128 ^ i) xs := by
  cases f with
  | zero => omega
  | succ f => rfl

/-- What is told by seven bits a byte is below 2 ^ 64. -/
theorem seven_lt (u y k : Nat) (hu : u < 128 ^ k) (hy : y < 128) (hk : k ≤ 9) (h9 : k = 9 → y ≤ 1) : u + y * 128 ^ k < 128 ^ (k + 1) ∧ u + y * 128 ^ k < 18446744073709551616 := by
  have h1 : u + y * 128 ^ k < 128 ^ (k + 1) := by
    rw [pow7]
    have : y * 128 ^ k ≤ 127 * 128 ^ k := Nat.mul_le_mul_right _ (by omega)
    omega
  refine ⟨h1, ?_⟩
  rcases Nat.lt_or_ge k 9 with h | h
  · have : 128 ^ (k + 1) ≤ 128 ^ 9 := Nat.pow_le_pow_right (by decide) (by omega)
    have e : (128 : Nat) ^ 9 = 9223372036854775808 := by decide
    omega
  · obtain rfl : k = 9 := by omega
    have := h9 rfl
    have e : (128 : Nat) ^ 9 = 9223372036854775808 := by decide
    rw [e] at hu ⊢
    omega

set_option maxRecDepth 100000 in
set_option maxHeartbeats 2000000 in
theorem number_ref (v : Value) (b : List UInt8) (w : World) (hR : RdB w v b) :
    Calls Tryd.prog 51 #[v] w fun e w' => e = .returned (.tuple #[.int .u64 ((num b).1 : Int), nu ((num b).2.1 : Int), nu ((num b).2.2 : Int)]) ∧ w' = w := by
  obtain ⟨a, cap, rfl, hc, hm, hcell⟩ := hR
  have HC := Hid.mk' hcell
  unfold maxLen at hm
  clear hcell
  go_enter Tryd.func51, Tryd.ntmps51
  go_wp2
  go_loopw [5, 6] (fun uv iv wr => ∃ k u : Nat, k ≤ 10 ∧ k ≤ b.length ∧ iv = nu k ∧ uv = .int .u64 (u : Int) ∧ Hid (u < 128 ^ k) ∧ Hid (num b = numG (10 - k) k u (b.drop k)) ∧ Hid (wr = w)) (fun _ iv _ => 10 - (intOf iv).toNat)
  case atStart => exact ⟨0, 0, by omega, by omega, rfl, rfl, (by show 0 < 128 ^ 0; decide), rfl, rfl⟩
  case round =>
    obtain ⟨k, u, hk, hkl, rfl, rfl, hu, hN, hwr⟩ := hrel
    by_cases hk10 : (k : Int) < 10
    · by_cases hkb : (k : Int) < (b.length : Int)
      · have hkb' : k < b.length := by omega
        obtain ⟨g, o, rfl, hgl, hcj⟩ := HC.out (by omega)
        have hck : wr.cell? ⟨g, o + k, none⟩ = some (by1 b[k]) := by
          rw [hwr.out]
          exact hcj k hkb'
        have hx : b[k].toNat < 256 := b[k].toNat_lt
        have hN' : Hid (num b = if (k = 9 ∧ 1 < b[k].toNat) ∨ (0 < k ∧ b[k].toNat = 0) then (0, 0, 4) else if b[k].toNat < 128 then (u + b[k].toNat * 128 ^ k, k + 1, 0) else numG (10 - (k + 1)) (k + 1) (u + (b[k].toNat - 128) * 128 ^ k) (b.drop (k + 1))) := by
          show _ = _
          rw [hN.out, List.drop_eq_getElem_cons hkb', numG_cons _ _ _ _ _ (by omega), show 10 - k - 1 = 10 - (k + 1) by omega]
        unfold by1 at hck
        generalize b[k].toNat = x at *
        have ha := and127b x hx
        have hge : ¬ (b.length : Int) ≤ (k : Int) := by omega
        have hk0 : (0 : Int) ≤ (k : Int) := by omega
        clear hcj
        by_cases hC : (k = 9 ∧ 1 < x) ∨ (0 < k ∧ x = 0)
        · have hfin : Hid (num b = (0, 0, 4)) := by show _ = _; rw [hN'.out, if_pos hC]
          have hcomb : ((((k : Int) == 9) = true ∧ (1 : Int) < (x : Int))) ∨ ((((k : Int) == 9) = true ∧ ¬ (1 : Int) < (x : Int)) ∧ (0 : Int) < (k : Int) ∧ ((x : Int) == 0) = true) ∨ ((((k : Int) == 9) = false) ∧ (0 : Int) < (k : Int) ∧ ((x : Int) == 0) = true) := by
            simp only [beq_iff_eq, beq_eq_false_iff_ne]
            omega
          clear hC
          rcases hcomb with ⟨e1, e2⟩ | ⟨⟨e1, e2⟩, e3, e4⟩ | ⟨e1, e3, e4⟩ <;> (go_wp2; go_ret3; exact ⟨by rw [hfin.out]; rfl, hwr.out⟩)
        · obtain ⟨y, hy⟩ : ∃ y : Nat, x % 128 = y := ⟨_, rfl⟩
          rw [hy] at ha
          have hy128 : y < 128 := by omega
          have hcomb : (((k : Int) == 9) = true ∧ ¬ (1 : Int) < (x : Int) ∧ (0 : Int) < (k : Int) ∧ ((x : Int) == 0) = false) ∨ ((((k : Int) == 9) = false) ∧ (0 : Int) < (k : Int) ∧ ((x : Int) == 0) = false) ∨ (((k : Int) == 9) = false ∧ ¬ (0 : Int) < (k : Int)) := by
            simp only [beq_iff_eq, beq_eq_false_iff_ne]
            omega
          have hlt := seven_lt u y k hu.out hy128 (by omega) (fun h9 => by omega)
          have hor := Hid.mk' (or_more u y k hu.out hy128 hlt.2)
          have hu2 := Hid.mk' hlt.1
          clear hlt
          by_cases hl : x < 128
          · have hl' : (x : Int) < 128 := by omega
            have hxy : x = y := by omega
            have hfin : Hid (num b = (u + y * 128 ^ k, k + 1, 0)) := by show _ = _; rw [hN'.out, if_neg hC, if_pos hl, ← hxy]
            have HY := Hid.mk' hy
            clear hC hy hxy
            rcases hcomb with ⟨e1, e2, e3, e4⟩ | ⟨e1, e3, e4⟩ | ⟨e1, e3⟩ <;> (go_wp2; go_ret3; exact ⟨by rw [hfin.out]; show Ending.returned (.tuple #[.int .u64 (bits .or .u64 (u : Int) (IntKind.u64.wrap ((y : Int) * 2 ^ (7 * k)))), .int .i64 ((k : Int) + 1), .int .i64 0]) = _; rw [hor.out]; rfl, hwr.out⟩)
          · have hl' : ¬ (x : Int) < 128 := by omega
            have hxy : x - 128 = y := by omega
            have hN2 : Hid (num b = numG (10 - (k + 1)) (k + 1) (u + y * 128 ^ k) (b.drop (k + 1))) := by show _ = _; rw [hN'.out, if_neg hC, if_neg hl, hxy]
            have HY := Hid.mk' hy
            clear hC hy hxy
            rcases hcomb with ⟨e1, e2, e3, e4⟩ | ⟨e1, e3, e4⟩ | ⟨e1, e3⟩
            · omega
            · go_wp2
              go_roundw
              case rel => exact ⟨k + 1, u + y * 128 ^ k, by omega, by omega, by go_num, (by rw [hor.out]), hu2, hN2, hwr⟩
              case measure => simp [intOf]; omega
            · go_wp2
              go_roundw
              case rel => exact ⟨k + 1, u + y * 128 ^ k, by omega, by omega, by go_num, (by rw [hor.out]), hu2, hN2, hwr⟩
              case measure => simp [intOf]; omega
      · have hfin : Hid (num b = (0, 0, 2)) := by
          show _ = _
          rw [hN.out, List.drop_of_length_le (by omega), numG_nil _ _ _ (by omega)]
        have hge : (b.length : Int) ≤ (k : Int) := by omega
        go_wp2
        go_ret3
        exact ⟨by rw [hfin.out]; rfl, hwr.out⟩
    · obtain rfl : k = 10 := by omega
      have hfin : Hid (num b = (0, 0, 4)) := hN.out
      simp only [Int.cast_ofNat_Int]
      go_wp2
      go_ret3
      exact ⟨by rw [hfin.out]; rfl, hwr.out⟩
end Pk
end Go.Proofs.YtnllplholfhbdaaDoor
/- The document's text at the beginning of some bytes; rows of bytes: the same?, a copy. -/
namespace Go.Proofs.YtnllplholfhbdaaDoor
set_option linter.ambiguousOpen false
open Go.RowKit
namespace Pk
open Sm
set_option linter.unusedSimpArgs false
set_option linter.unusedVariables false

theorem slice_midP (a : Option Addr) (len cap i j : Nat) (h : i ≤ j) (hj : j ≤ cap) (w : World) : (Instr.slice 30 (.slice a len cap) (some (.int .i64 (i : Int))) (some (.int .i64 (j : Int))) none).run Tryd.prog w = .ok (.slice (further a cap i) (j - i) (cap - i)) w := by
  have h1 : (0 : Int) ≤ (i : Int) ∧ (i : Int) ≤ (j : Int) := by omega
  have h2 : (0 : Int) ≤ (j : Int) ∧ (j : Int) ≤ (cap : Int) := by omega
  have hu := Tryd.underlying30
  cases a with
  | none =>
    simp [Instr.slice, Instr.sliceBounds, Instr.sliceBound, asIntOf, run_underlying hu, further]
    rw [if_pos hj, if_pos h]
  | some ad =>
    simp [Instr.slice, Instr.sliceBounds, Instr.sliceBound, asIntOf, run_underlying hu, Addr.add, further]
    rw [if_pos hj, if_pos h]

/-- A row of bytes as a text. -/
theorem conv_rd {w : World} {v : Value} {l : List UInt8} (h : RdB w v l) : (convert 30 9 v).run Tryd.prog w = .ok (.string (tx l)) w := by
  obtain ⟨a, cap, rfl, h1, h2, h3⟩ := h
  cases a with
  | none =>
    cases l with
    | nil =>
      rw [run_convert_bytes_string w 30 9 5 none _ cap Tryd.underlying30 Tryd.underlying5 Tryd.underlying9]
      unfold Conv.bytesToString
      simp
      rfl
    | cons x l =>
      obtain ⟨g, o, e, _⟩ := h3 (by simp)
      cases e
  | some ad =>
    refine run_convert_bytes_back w 30 9 5 ad cap l Tryd.underlying30 Tryd.underlying5 Tryd.underlying9 (fun j hj => ?_)
    obtain ⟨g, o, e, _, hc⟩ := h3 (by omega)
    cases e
    rw [Addr.add_mid]
    exact hc j hj

theorem rd_mid {w : World} {a : Option Addr} {l : List UInt8} {cap : Nat} (h : RdB w (.slice a l.length cap) l) (i j : Nat) (hij : i ≤ j) (hj : j ≤ l.length) : RdB w (.slice (further a cap i) (j - i) (cap - i)) ((l.drop i).take (j - i)) := by
  have h1 := h.drop i (by omega)
  have e : (l.drop i).length = l.length - i := List.length_drop ..
  rw [← e] at h1
  exact h1.take (j - i) (by omega)

set_option maxHeartbeats 1000000 in
theorem taken_ref (v : Value) (b : List UInt8) (most : Int) (w : World) (hR : RdB w v b) (hm : -9223372036854775808 ≤ most ∧ most ≤ 9223372036854775807) :
    Calls Tryd.prog 60 #[v, nu most] w fun e w' => e = .returned (.tuple #[.string (tx (taken b most.toNat).1), nu ((taken b most.toNat).2.1 : Int), nu ((taken b most.toNat).2.2 : Int)]) ∧ w' = w := by
  have c1 := Hid.mk' (number_ref v b w hR)
  have HR := Hid.mk' hR
  obtain ⟨a, cap, rfl, hcl, hcm, _⟩ := hR
  unfold maxLen at hcm
  have hmx : ∀ wx, (Builtin.max_ #[3, 3] 3 #[nu most, nu 0]).run Tryd.prog wx = .ok (nu (most.toNat : Int)) wx := fun wx => by
    rw [run_max_int2, show (if (0 : Int) > most then (0 : Int) else most) = (most.toNat : Int) by split <;> omega]
  obtain ⟨m, hM⟩ : ∃ m : Nat, most.toNat = m := ⟨_, rfl⟩
  have hml : m ≤ 9223372036854775807 := by omega
  simp only [hM] at hmx ⊢
  clear hM
  obtain ⟨n, k, no, hn⟩ : ∃ n k no, num b = (n, k, no) := ⟨_, _, _, rfl⟩
  have hT : taken b m = if no ≠ 0 then ([], 0, no) else if m < n then ([], 0, 3) else if b.length - k < n then ([], 0, 2) else ((b.drop k).take n, k + n, 0) := by
    unfold taken
    rw [hn]
  rw [hn] at c1
  by_cases h0 : no = 0
  · subst h0
    obtain ⟨h1, h2, h3, h4⟩ := num_back b n k hn
    rw [if_neg (by omega)] at hT
    by_cases h5 : m < n
    · rw [if_pos h5] at hT
      have HT := Hid.mk' hT
      have z : (m : Int) < (n : Int) := by omega
      clear hT h4 hn
      go_enter Tryd.func60, Tryd.ntmps60
      go_wp2_with fail
      refine c1.out.mono ?_
      rintro e w' ⟨rfl, hw⟩
      subst w'
      go_wp2
      go_ret3
      exact ⟨by rw [HT.out]; rfl, rfl⟩
    · rw [if_neg h5] at hT
      have z : ¬ (m : Int) < (n : Int) := by omega
      obtain ⟨r, hr⟩ : ∃ r : Nat, b.length - k = r := ⟨_, rfl⟩
      have hrI : (b.length : Int) - (k : Int) = (r : Int) := by omega
      rw [hr] at hT
      by_cases h6 : r < n
      · rw [if_pos h6] at hT
        have HT := Hid.mk' hT
        have z2 : (r : Int) < (n : Int) := by omega
        clear hT h4 hn hr
        go_enter Tryd.func60, Tryd.ntmps60
        go_wp2_with fail
        refine c1.out.mono ?_
        rintro e w' ⟨rfl, hw⟩
        subst w'
        go_wp2
        go_ret3
        exact ⟨by rw [HT.out]; rfl, rfl⟩
      · rw [if_neg h6] at hT
        have HT := Hid.mk' hT
        have z2 : ¬ (r : Int) < (n : Int) := by omega
        obtain ⟨q, hq⟩ : ∃ q : Nat, k + n = q := ⟨_, rfl⟩
        have hqI : (k : Int) + (n : Int) = (q : Int) := by omega
        have hsl := fun wx => slice_midP a b.length cap k q (by omega) (by omega) wx
        have hcv : ∀ o l c, o = further a cap k → l = q - k → c = cap - k → (convert 30 9 (.slice o l c)).run Tryd.prog w = .ok (.string (tx ((b.drop k).take n))) w := fun o l c e1 e2 e3 => by
          subst e1 e2 e3
          have := conv_rd (rd_mid HR.out k q (by omega) (by omega))
          rw [show q - k = n by omega] at this ⊢
          exact this
        rw [hq] at HT
        have hcv' := hcv _ _ _ rfl rfl rfl
        clear hT h4 hn hr hcv
        go_enter Tryd.func60, Tryd.ntmps60
        go_wp2_with fail
        refine c1.out.mono ?_
        rintro e w' ⟨rfl, hw⟩
        subst w'
        go_wp2
        go_ret3
        exact ⟨by rw [HT.out]; rfl, rfl⟩
  · rw [if_pos h0] at hT
    have HT := Hid.mk' hT
    have z : ((no : Int) == 0) = false := by simp [h0]
    have hz : Hid (n = 0 ∧ k = 0) := by
      have := numG_no 10 0 0 b
      rw [show numG 10 0 0 b = (n, k, no) from hn] at this
      rcases this with h | ⟨h1, h2, _⟩
      · exact absurd h h0
      · exact ⟨h1, h2⟩
    clear hT hn
    go_enter Tryd.func60, Tryd.ntmps60
    go_wp2_with fail
    refine c1.out.mono ?_
    rintro e w' ⟨rfl, hw⟩
    subst w'
    go_wp2
    go_ret3
    exact ⟨by rw [HT.out]; rfl, rfl⟩
end Pk
end Go.Proofs.YtnllplholfhbdaaDoor
