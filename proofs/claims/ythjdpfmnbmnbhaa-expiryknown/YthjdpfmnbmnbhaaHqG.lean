/- The program's heap: Set, Key, Least, Len. -/
import Derived.Test.YthjdpfmnbmnbhaaHqF
namespace Go.Proofs.Ythjdpfmnbmnbhaa
set_option linter.ambiguousOpen false
open Go.RowKit
namespace Hq
open Hh Ft
set_option linter.unusedSimpArgs false
set_option linter.unusedVariables false
attribute [local go_sem] Oper.semAt_some

theorem rep_keep {w w' : World} {p : Nat} {F G : Nat → Prop} {N : Int} {L : List It} (h : RepQ w p F N L) (hk : Keep G w w') (hn : ∀ k, F k → ¬ G k) : RepQ w' p F N L := by
  obtain ⟨rv, ab, ac, n, m, D, A, h1, h2, h3, h4, rfl⟩ := h
  exact ⟨rv, ab, ac, n, m, D, A, h1.keep hk hn, h2, h3, h4, rfl⟩

theorem rep_lt {w : World} {p : Nat} {F : Nat → Prop} {N : Int} {L : List It} (h : RepQ w p F N L) : ∀ k, F k → k < w.heap.size := by
  obtain ⟨rv, ab, ac, n, m, D, A, h1, h2, h3, h4, rfl⟩ := h
  exact h1.lt

theorem left_of {w w' : World} {p : Nat} {rv : Value} {ab ac m : Nat} {L : List It} (h : LeftY w w' p rv ab ac m L) : LeftH RepQ w w' p (footV p rv ab) (m : Int) L := by
  obtain ⟨rv', n', D', A', h1, h2, h3, h4, h5⟩ := h
  exact ⟨footV p rv' ab, ⟨rv', ab, ac, n', m, D', A', h1, rfl, h2, h3, rfl⟩, h4, h5⟩

set_option maxRecDepth 100000 in
theorem set_yes (w : World) (p : Nat) (F : Nat → Prop) (N : Int) (L : List It) (i key : Int) (h : RepQ w p F N L) (hk : Hk N L) (hl : L.length ≤ 65536) (hi : 0 ≤ i ∧ i < N) :
    Calls Try.prog 16 #[ptr p, nu i, nu key] w fun e w' => e = .returned (errE 0) ∧ LeftH RepQ w w' p F N (setH L i key) := by
  obtain ⟨rv, ab, ac, n, m, D, A, h1, rfl, h3, h4, rfl⟩ := h
  have c1 := Hid.mk' (knows_p h1 i)
  rw [decide_eq_true hi] at c1
  obtain ⟨k, rfl⟩ : ∃ k : Nat, i = (k : Int) := ⟨i.toNat, by omega⟩
  have hkm : k < m := by omega
  have c2 : Hid (Calls Try.prog 26 #[ptr p, nun k, nu key] w fun e w' => e = .returned (.tuple #[]) ∧ Hid (LeftH RepQ w w' p (footV p rv ab) (m : Int) (setH L k key))) := by
    rcases h1.rel.back k (by rw [h1.hm]; exact hkm) with ha | ⟨j, hj, ha, _⟩
    · refine (set_new h1 h3 hk h4 k key hkm ha rfl).mono ?_
      rintro e w' ⟨rfl, hx⟩
      exact ⟨rfl, left_of hx⟩
    · rw [h1.hn] at hj
      obtain ⟨rb, rc, rfl, hl1⟩ := h1.lay (by omega)
      refine (set_old hl1 h3 hk h4 k j key hkm hj ha rfl).mono ?_
      rintro e w' ⟨rfl, hx⟩
      exact ⟨rfl, left_of hx⟩
  clear h1 h3 h4 hk hl hi
  go_enter Try.func16, Try.ntmps16
  go_wp2_with fail
  refine c1.out.mono ?_
  rintro e w1 ⟨rfl, rfl⟩
  go_wp2_with fail
  refine c2.out.mono ?_
  rintro e w2 ⟨rfl, HE⟩
  go_wp2
  go_ret
  exact ⟨rfl, HE.out⟩

set_option maxRecDepth 100000 in
theorem set_no (w : World) (p : Nat) (F : Nat → Prop) (N : Int) (L : List It) (i key : Int) (h : RepQ w p F N L) (hi : ¬ (0 ≤ i ∧ i < N)) :
    Calls Try.prog 16 #[ptr p, nu i, nu key] w fun e w' => e = .returned (errE 1) ∧ LeftH RepQ w w' p F N L := by
  have HE : Hid (LeftH RepQ w w p F N L) := ⟨F, h, Keep.refl _ _, fun k e => .inl e⟩
  obtain ⟨rv, ab, ac, n, m, D, A, h1, rfl, h3, h4, rfl⟩ := h
  have c1 := Hid.mk' (knows_p h1 i)
  rw [decide_eq_false hi] at c1
  clear h1 h3 h4 hi
  go_enter Try.func16, Try.ntmps16
  go_wp2_with fail
  refine c1.out.mono ?_
  rintro e w1 ⟨rfl, rfl⟩
  go_wp2
  go_ret
  exact ⟨rfl, HE.out⟩

set_option maxRecDepth 100000 in
theorem lenq_p (w : World) (p : Nat) (F : Nat → Prop) (N : Int) (L : List It) (h : RepQ w p F N L) :
    Calls Try.prog 28 #[ptr p] w fun e w' => e = .returned (nun L.length) ∧ w' = w := by
  obtain ⟨rv, ab, ac, n, m, D, A, h1, rfl, h3, h4, rfl⟩ := h
  have hn : L.length = n := by rw [← h3.length_eq]; exact h1.hn
  obtain ⟨⟨a, c, rfl, _⟩, _⟩ := h1.shape
  obtain ⟨_, q1, _, _⟩ := h1.cells
  rw [hn]
  clear h1 h3 h4 hn
  go_enter Try.func28, Try.ntmps28
  go_wp2
  go_ret
  exact ⟨rfl, rfl⟩

set_option maxRecDepth 100000 in
set_option maxHeartbeats 2000000 in
theorem leastq_p (w : World) (p : Nat) (F : Nat → Prop) (N : Int) (L : List It) (h : RepQ w p F N L) (hk : Hk N L) :
    Calls Try.prog 20 #[ptr p] w fun e w' => e = .returned (.tuple #[nu (fstI L), nu (fstK L), .bool (!L.isEmpty)]) ∧ Below w.heap.size w w' := by
  have c1 := Hid.mk' (lenq_p w p F N L h)
  obtain ⟨rv, ab, ac, n, m, D, A, h1, rfl, h3, h4, rfl⟩ := h
  have hn : L.length = n := by rw [← h3.length_eq]; exact h1.hn
  have hnm := h1.few2
  have hmm := h1.few
  rw [hn] at c1
  by_cases h0 : 0 < n
  · obtain ⟨rb, rc, rfl, hl1⟩ := h1.lay h0
    obtain ⟨L', hL⟩ := first_of h3 hk h4 (by rw [h1.hn]; exact h0)
    obtain ⟨b0, b1, _, _⟩ := hl1.rowAt h0
    obtain ⟨_, q1, _, _⟩ := hl1.cells
    have hcap := hl1.caps
    unfold maxLen at hcap
    have hrc : (rc : Int) ≤ 9223372036854775807 := by omega
    have h0I : (0 : Int) < (n : Int) := by omega
    have hb : ((n : Int) == 0) = false := by
      simp only [beq_eq_false_iff_ne]
      omega
    rw [hL]
    unfold fstI fstK
    dsimp only
    obtain ⟨x, hx⟩ : ∃ x, atD D 0 = x := ⟨_, rfl⟩
    rw [hx] at b0 b1 ⊢
    obtain ⟨xi, xk⟩ := x
    simp only [Nat.zero_mul, Nat.zero_add] at b0 b1
    have hmid : w.rangeAt rb 0 [nu xi, nu xk] := fun j v hv => by
      rcases j with _ | _ | j
      · simp at hv
        subst hv
        simpa using b0
      · simp at hv
        subst hv
        exact b1
      · simp at hv
    have HMID := Hid.mk' hmid
    clear h1 h3 h4 hk hn hl1 hx hL hmid hcap hnm hmm
    go_enter Try.func20, Try.ntmps20
    go_wp2_with fail
    refine c1.out.mono ?_
    rintro e w1 ⟨rfl, rfl⟩
    clear c1
    go_upto_region 4 with fail
    go_quiet (fail)
    go_wp2
    go_ret3
    refine ⟨rfl, ?_⟩
    have : Below w1.heap.size w1 (w1.alloc (.cells #[nu xi, nu xk] 70)) := (Below.refl _ _).alloc (Nat.le_refl _) _
    exact ⟨this.os, this.tape, this.output, this.size, this.block⟩
  · obtain rfl : n = 0 := by omega
    have hL : L = [] := List.eq_nil_of_length_eq_zero hn
    rw [hL]
    clear h1 h3 h4 hk hn h0 hL
    go_enter Try.func20, Try.ntmps20
    go_wp2_with fail
    refine c1.out.mono ?_
    rintro e w1 ⟨rfl, rfl⟩
    clear c1
    go_wp2
    go_ret3
    exact ⟨rfl, Below.refl _ _⟩
end Hq
end Go.Proofs.Ythjdpfmnbmnbhaa
