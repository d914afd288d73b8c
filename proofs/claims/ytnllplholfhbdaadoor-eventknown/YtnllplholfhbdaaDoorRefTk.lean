/- The document's text at the beginning of some bytes; rows of bytes: the same?, a copy. -/
import Derived.Test.YtnllplholfhbdaaDoorRefNm
namespace Go.Proofs.YtnllplholfhbdaaDoor
set_option linter.ambiguousOpen false
open Go.RowKit
namespace Pk
open Sm
set_option linter.unusedSimpArgs false
set_option linter.unusedVariables false

theorem slice_midP (a : Option Addr) (len cap i j : Nat) (h : i ≤ j) (hj : j ≤ cap) (w : World) : (Instr.slice 30 (.slice a len cap) (some (.int .i64 (i : Int))) (some (.int .i64 (j : Int))) none).run Tryd.prog w = .ok (.slice (further a cap i) (j - i) (cap - i)) w := by
  have h1 : (0 : Int) ≤ (i : Int) ∧ (i : Int) ≤ (j : Int) := by omega
  have h2 : (0 : Int) ≤ (j : Int) ∧ (j : Int) ≤ (cap : Int) := by omega
  have hu := Tryd.underlying30
  cases a with
  | none =>
    simp [Instr.slice, Instr.sliceBounds, Instr.sliceBound, asIntOf, run_underlying hu, further]
    rw [if_pos hj, if_pos h]
  | some ad =>
    simp [Instr.slice, Instr.sliceBounds, Instr.sliceBound, asIntOf, run_underlying hu, Addr.add, further]
    rw [if_pos hj, if_pos h]

/-- A row of bytes as a text. -/
theorem conv_rd {w : World} {v : Value} {l : List UInt8} (h : RdB w v l) : (convert 30 9 v).run Tryd.prog w = .ok (.string (tx l)) w := by
  obtain ⟨a, cap, rfl, h1, h2, h3⟩ := h
  cases a with
  | none =>
    cases l with
    | nil =>
      rw [run_convert_bytes_string w 30 9 5 none _ cap Tryd.underlying30 Tryd.underlying5 Tryd.underlying9]
      unfold Conv.bytesToString
      simp
      rfl
    | cons x l =>
      obtain ⟨g, o, e, _⟩ := h3 (by simp)
      cases e
  | some ad =>
    refine run_convert_bytes_back w 30 9 5 ad cap l Tryd.underlying30 Tryd.underlying5 Tryd.underlying9 (fun j hj => ?_)
    obtain ⟨g, o, e, _, hc⟩ := h3 (by omega)
    cases e
    rw [Addr.add_mid]
    exact hc j hj

theorem rd_mid {w : World} {a : Option Addr} {l : List UInt8} {cap : Nat} (h : RdB w (.slice a l.length cap) l) (i j : Nat) (hij : i ≤ j) (hj : j ≤ l.length) : RdB w (.slice (further a cap i) (j - i) (cap - i)) ((l.drop i).take (j - i)) := by
  have h1 := h.drop i (by omega)
  have e : (l.drop i).length = l.length - i := List.length_drop ..
  rw [← e] at h1
  exact h1.take (j - i) (by omega)

set_option maxHeartbeats 1000000 in
theorem taken_ref (v : Value) (b : List UInt8) (most : Int) (w : World) (hR : RdB w v b) (hm : -9223372036854775808 ≤ most ∧ most ≤ 9223372036854775807) :
    Calls Tryd.prog 60 #[v, nu most] w fun e w' => e = .returned (.tuple #[.string (tx (taken b most.toNat).1), nu ((taken b most.toNat).2.1 : Int), nu ((taken b most.toNat).2.2 : Int)]) ∧ w' = w := by
  have c1 := Hid.mk' (number_ref v b w hR)
  have HR := Hid.mk' hR
  obtain ⟨a, cap, rfl, hcl, hcm, _⟩ := hR
  unfold maxLen at hcm
  have hmx : ∀ wx, (Builtin.max_ #[3, 3] 3 #[nu most, nu 0]).run Tryd.prog wx = .ok (nu (most.toNat : Int)) wx := fun wx => by
    rw [run_max_int2, show (if (0 : Int) > most then (0 : Int) else most) = (most.toNat : Int) by split <;> omega]
  obtain ⟨m, hM⟩ : ∃ m : Nat, most.toNat = m := ⟨_, rfl⟩
  have hml : m ≤ 9223372036854775807 := by omega
  simp only [hM] at hmx ⊢
  clear hM
  obtain ⟨n, k, no, hn⟩ : ∃ n k no, num b = (n, k, no) := ⟨_, _, _, rfl⟩
  have hT : taken b m = if no ≠ 0 then ([], 0, no) else if m < n then ([], 0, 3) else if b.length - k < n then ([], 0, 2) else ((b.drop k).take n, k + n, 0) := by
    unfold taken
    rw [hn]
  rw [hn] at c1
  by_cases h0 : no = 0
  · subst h0
    obtain ⟨h1, h2, h3, h4⟩ := num_back b n k hn
    rw [if_neg (by omega)] at hT
    by_cases h5 : m < n
    · rw [if_pos h5] at hT
      have HT := Hid.mk' hT
      have z : (m : Int) < (n : Int) := by omega
      clear hT h4 hn
      go_enter Tryd.func60, Tryd.ntmps60
      go_wp2_with fail
      refine c1.out.mono ?_
      rintro e w' ⟨rfl, hw⟩
      subst w'
      go_wp2
      go_ret3
      exact ⟨by rw [HT.out]; rfl, rfl⟩
    · rw [if_neg h5] at hT
      have z : ¬ (m : Int) < (n : Int) := by omega
      obtain ⟨r, hr⟩ : ∃ r : Nat, b.length - k = r := ⟨_, rfl⟩
      have hrI : (b.length : Int) - (k : Int) = (r : Int) := by omega
      rw [hr] at hT
      by_cases h6 : r < n
      · rw [if_pos h6] at hT
        have HT := Hid.mk' hT
        have z2 : (r : Int) < (n : Int) := by omega
        clear hT h4 hn hr
        go_enter Tryd.func60, Tryd.ntmps60
        go_wp2_with fail
        refine c1.out.mono ?_
        rintro e w' ⟨rfl, hw⟩
        subst w'
        go_wp2
        go_ret3
        exact ⟨by rw [HT.out]; rfl, rfl⟩
      · rw [if_neg h6] at hT
        have HT := Hid.mk' hT
        have z2 : ¬ (r : Int) < (n : Int) := by omega
        obtain ⟨q, hq⟩ : ∃ q : Nat, k + n = q := ⟨_, rfl⟩
        have hqI : (k : Int) + (n : Int) = (q : Int) := by omega
        have hsl := fun wx => slice_midP a b.length cap k q (by omega) (by omega) wx
        have hcv : ∀ o l c, o = further a cap k → l = q - k → c = cap - k → (convert 30 9 (.slice o l c)).run Tryd.prog w = .ok (.string (tx ((b.drop k).take n))) w := fun o l c e1 e2 e3 => by
          subst e1 e2 e3
          have := conv_rd (rd_mid HR.out k q (by omega) (by omega))
          rw [show q - k = n by omega] at this ⊢
          exact this
        rw [hq] at HT
        have hcv' := hcv _ _ _ rfl rfl rfl
        clear hT h4 hn hr hcv
        go_enter Tryd.func60, Tryd.ntmps60
        go_wp2_with fail
        refine c1.out.mono ?_
        rintro e w' ⟨rfl, hw⟩
        subst w'
        go_wp2
        go_ret3
        exact ⟨by rw [HT.out]; rfl, rfl⟩
  · rw [if_pos h0] at hT
    have HT := Hid.mk' hT
    have z : ((no : Int) == 0) = false := by simp [h0]
    have hz : Hid (n = 0 ∧ k = 0) := by
      have := numG_no 10 0 0 b
      rw [show numG 10 0 0 b = (n, k, no) from hn] at this
      rcases this with h | ⟨h1, h2, _⟩
      · exact absurd h h0
      · exact ⟨h1, h2⟩
    clear hT hn
    go_enter Tryd.func60, Tryd.ntmps60
    go_wp2_with fail
    refine c1.out.mono ?_
    rintro e w' ⟨rfl, hw⟩
    subst w'
    go_wp2
    go_ret3
    exact ⟨by rw [HT.out]; rfl, rfl⟩
end Pk
end Go.Proofs.YtnllplholfhbdaaDoor
