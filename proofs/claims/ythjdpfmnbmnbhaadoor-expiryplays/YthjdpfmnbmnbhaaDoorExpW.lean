/- The document's expiry: Set refused, Forget, Due. -/
import Derived.Test.YthjdpfmnbmnbhaaDoorExpV
import Derived.Test.YthjdpfmnbmnbhaaDoorExpA
namespace Go.Proofs.YthjdpfmnbmnbhaaDoor
set_option linter.ambiguousOpen false
open Go.RowKit
namespace Ex
open Hh Ft
set_option linter.unusedSimpArgs false
set_option linter.unusedVariables false
attribute [local go_sem] Oper.semAt_some

set_option maxRecDepth 100000 in
set_option maxHeartbeats 4000000 in
theorem setE_no (w : World) (t : Nat) (s b t1 : Int) (hx : ¬ okE ⟨s, b, t1⟩) :
    Calls Tryd.prog 11 #[ptr t, .agg #[nu s, nu b], nu t1] w fun e w' => e = .returned (nu 1) ∧ Below w.heap.size w w' := by
  obtain ⟨bx, hbx⟩ : ∃ bx, w.heap.size = bx := ⟨_, rfl⟩
  obtain ⟨W0, hW0⟩ : ∃ W0, w.alloc (.cells #[nu s, nu b] 31) = W0 := ⟨_, rfl⟩
  have hB0 : Below w.heap.size w W0 := by rw [← hW0]; exact (Below.refl _ _).alloc (Nat.le_refl _) _
  have hX0 : W0.heap[bx]? = some (.cells #[nu s, nu b] 31) := by rw [← hW0, ← hbx]; exact heap_alloc_new _ _
  have l0 : W0.cell? ⟨bx, 0, none⟩ = some (nu s) := by rw [cell_of_row W0 bx 0 _ _ _ hX0]; rfl
  have l1 : W0.cell? ⟨bx, 1, none⟩ = some (nu b) := by rw [cell_of_row W0 bx 1 _ _ _ hX0]; rfl
  have HB0 := Hid.mk' hB0
  have HW0 := Hid.mk' hW0
  have HBX := Hid.mk' hbx
  unfold okE at hx
  dsimp only at hx
  clear hB0 hW0 hbx hX0
  by_cases h1 : s < 0
  · have d1 : decide (s < 0) = true := decide_eq_true h1
    clear hx h1
    go_enter Tryd.func11, Tryd.ntmps11
    go_upto_region 1 with fail
    rw [HW0.out, HBX.out]
    go_wp2
    go_ret
    exact ⟨rfl, HB0.out⟩
  have d1 : decide (s < 0) = false := decide_eq_false h1
  by_cases h2 : s ≥ 32
  · have d2 : decide (s ≥ 32) = true := decide_eq_true h2
    clear hx h1 h2
    go_enter Tryd.func11, Tryd.ntmps11
    go_upto_region 1 with fail
    rw [HW0.out, HBX.out]
    go_wp2
    go_ret
    exact ⟨rfl, HB0.out⟩
  have d2 : decide (s ≥ 32) = false := decide_eq_false h2
  by_cases h3 : b < 1
  · have d3 : decide (b < 1) = true := decide_eq_true h3
    clear hx h1 h2 h3
    go_enter Tryd.func11, Tryd.ntmps11
    go_upto_region 1 with fail
    rw [HW0.out, HBX.out]
    go_wp2
    go_ret
    exact ⟨rfl, HB0.out⟩
  have d3 : decide (b < 1) = false := decide_eq_false h3
  by_cases h4 : b > 1048576
  · have d4 : decide (b > 1048576) = true := decide_eq_true h4
    clear hx h1 h2 h3 h4
    go_enter Tryd.func11, Tryd.ntmps11
    go_upto_region 1 with fail
    rw [HW0.out, HBX.out]
    go_wp2
    go_ret
    exact ⟨rfl, HB0.out⟩
  have d4 : decide (b > 1048576) = false := decide_eq_false h4
  by_cases h5 : t1 < 0
  · have d5 : decide (t1 < 0) = true := decide_eq_true h5
    clear hx h1 h2 h3 h4 h5
    go_enter Tryd.func11, Tryd.ntmps11
    go_upto_region 1 with fail
    rw [HW0.out, HBX.out]
    go_wp2
    go_ret
    exact ⟨rfl, HB0.out⟩
  have d5 : decide (t1 < 0) = false := decide_eq_false h5
  have h6 : t1 > 1099511627776 := by omega
  have d6 : decide (t1 > 1099511627776) = true := decide_eq_true h6
  clear hx h1 h2 h3 h4 h5 h6
  go_enter Tryd.func11, Tryd.ntmps11
  go_upto_region 1 with fail
  rw [HW0.out, HBX.out]
  go_wp2
  go_ret
  exact ⟨rfl, HB0.out⟩

set_option maxRecDepth 100000 in
theorem forgetE_ref (base : Nat) (w : World) (t : Nat) (lv : Value) (L : List En) (i : Int) (h : RXp base w t lv L) (hl : L.length ≤ 1000) (hb : base ≤ w.heap.size) :
    Calls Tryd.prog 13 #[ptr t, nu i] w fun e w' => e = .returned (.bool (hasE L i)) ∧ ∃ lv', RXp base w' t lv' (dropE L i) ∧ Keep (fun k => k = t) w w' ∧ (∀ g, lv'.ownBlock = some g → w.heap.size ≤ g) := by
  have c1 := Hid.mk' (without_ref base w t lv L i h hl hb)
  clear h
  go_enter Tryd.func13, Tryd.ntmps13
  go_wp2_with fail
  refine c1.out.mono ?_
  rintro e w1 ⟨rfl, HE⟩
  have HE := Hid.mk' HE
  go_wp2
  go_ret
  exact ⟨rfl, HE.out⟩

/-- What Due answers. -/
def dueB (L : List En) (now : Int) : Bool := match L with
  | [] => false
  | x :: _ => decide (x.t ≤ now)

set_option maxRecDepth 100000 in
set_option maxHeartbeats 4000000 in
theorem dueE_yes (base : Nat) (w : World) (t : Nat) (lv : Value) (x : En) (L : List En) (now : Int) (h : RXp base w t lv (x :: L)) (hl : L.length ≤ 900) (hb : base ≤ w.heap.size) (hg : Ge (x :: L)) (hd : x.t ≤ now) :
    Calls Tryd.prog 26 #[ptr t, nu now] w fun e w' => e = .returned (.tuple #[.agg #[nu x.s, nu x.b], .bool true]) ∧ ∃ lv', RXp base w' t lv' L ∧ Keep (fun k => k = t) w w' ∧ (∀ g, lv'.ownBlock = some g → w.heap.size ≤ g) := by
  obtain ⟨rb, hrb⟩ : ∃ rb, w.heap.size = rb := ⟨_, rfl⟩
  obtain ⟨W0, hW0⟩ : ∃ W0, w.alloc (.cells #[nu 0, nu 0] 31) = W0 := ⟨_, rfl⟩
  have hB0 : Below w.heap.size w W0 := by rw [← hW0]; exact (Below.refl _ _).alloc (Nat.le_refl _) _
  have hR0 : W0.heap[rb]? = some (.cells #[nu 0, nu 0] 31) := by rw [← hW0, ← hrb]; exact heap_alloc_new _ _
  have hs0 : W0.heap.size = rb + 1 := by rw [← hW0, ← hrb]; simp
  have h0 := h.below hB0
  have htl := h.tlt
  obtain ⟨xs, xb, xt⟩ := x
  dsimp only at hd
  obtain ⟨W1, hW1⟩ : ∃ W1, W0.alloc (.cells #[nu xs, nu xb] 31) = W1 := ⟨_, rfl⟩
  have hB1 : Below W0.heap.size W0 W1 := by rw [← hW1]; exact (Below.refl _ _).alloc (Nat.le_refl _) _
  have hl1 : W1.heap[rb + 1]? = some (.cells #[nu xs, nu xb] 31) := by rw [← hW1, ← hs0]; exact heap_alloc_new _ _
  have hs1 : W1.heap.size = rb + 2 := by rw [← hW1]; simp; omega
  have c1 := without_ref base W1 t lv _ xs (h0.below hB1) (by simp; omega) (by omega)
  have hhd : dropE ((⟨xs, xb, xt⟩ : En) :: L) xs = L := hg.head
  simp only [hhd] at c1
  have c1 := Hid.mk' c1
  obtain ⟨g, c, rfl, hc1, hc2, x0, x1, x2⟩ := h0.at (k := 0) (x := ⟨xs, xb, xt⟩) rfl
  have q1 := h0.cells.1
  obtain ⟨n, hn⟩ : ∃ n, ((⟨xs, xb, xt⟩ : En) :: L).length = n + 1 := ⟨L.length, rfl⟩
  rw [hn] at hc1 q1
  unfold maxLen at hc2
  have hcI : (c : Int) ≤ 9223372036854775807 := by omega
  have hbz : (((n + 1 : Nat) : Int) == 0) = false := by
    simp only [beq_eq_false_iff_ne]
    omega
  have hp : (0 : Int) < ((n + 1 : Nat) : Int) := by omega
  have d1 : decide (xt > now) = false := decide_eq_false (by omega)
  simp only [Nat.zero_mul, Nat.zero_add] at x0 x1 x2
  have hmid : W0.rangeAt g 0 [nu xs, nu xb] := fun j v hv => by
    rcases j with _ | _ | j
    · simp at hv
      subst hv
      simpa using x0
    · simp at hv
      subst hv
      simpa using x1
    · simp at hv
  have HMID := Hid.mk' hmid
  have l0 : W1.cell? ⟨rb + 1, 0, none⟩ = some (nu xs) := by rw [cell_of_row W1 (rb + 1) 0 _ _ _ hl1]; rfl
  have HL1 := Hid.mk' hl1
  have HW0 := Hid.mk' hW0
  have HRB := Hid.mk' hrb
  have HW1 := Hid.mk' hW1
  have HS0 := Hid.mk' hs0
  have HB0 := Hid.mk' hB0
  have HB1 := Hid.mk' hB1
  have HR1 : Hid (W1.heap[rb]? = some (.cells #[nu 0, nu 0] 31)) := (hB1.block rb (by omega)).trans hR0
  clear h h0 hg hd hmid hn hW0 hW1 hB0 hB1 hR0 hl1 hl hrb hs0 hs1 hhd
  go_enter Tryd.func26, Tryd.ntmps26
  go_upto_region 1 with fail
  rw [HW0.out, HRB.out]
  go_upto_region 4 with (first | (refine wpList_load_mid rfl 31 _ rfl g 0 rfl [nu xs, nu xb] _ HMID.out Tryd.underlying31 rfl size_lk ?_) | fail)
  rw [HW1.out, HS0.out]
  clear q1 x0 x1 x2 HMID
  go_wp2_with fail
  refine c1.out.mono ?_
  rintro e w4 ⟨rfl, lv4, hr4, hk4, hg4⟩
  have hl4 : w4.heap[rb + 1]? = some (.cells #[nu xs, nu xb] 31) := hk4.at HL1.out (by have := HRB.out; omega)
  have hr0 : w4.heap[rb]? = some (.cells #[nu 0, nu 0] 31) := hk4.at HR1.out (by have := HRB.out; omega)
  have a0 : w4.cell? ⟨rb + 1, 0, none⟩ = some (nu xs) := by rw [cell_of_row w4 (rb + 1) 0 _ _ _ hl4]; rfl
  have a1 : w4.cell? ⟨rb + 1, 1, none⟩ = some (nu xb) := by rw [cell_of_row w4 (rb + 1) 1 _ _ _ hl4]; rfl
  have b0 : w4.cell? ⟨rb, 0, none⟩ = some (nu 0) := by rw [cell_of_row w4 rb 0 _ _ _ hr0]; rfl
  have b1 : w4.cell? ⟨rb, 1, none⟩ = some (nu 0) := by rw [cell_of_row w4 rb 1 _ _ _ hr0]; rfl
  have bf : ∀ i, w4.frozen? ⟨rb, i, none⟩ = false := fun i => by simp [World.frozen?, hr0]
  have HRS : Hid (((w4.setCell ⟨rb, 0, none⟩ (nu xs)).setCell ⟨rb, 1, none⟩ (nu xb)).heap[rb]? = some (.cells #[nu xs, nu xb] 31)) := set_two _ _ hr0
  have hks : Keep (fun j => j = rb) w4 ((w4.setCell ⟨rb, 0, none⟩ (nu xs)).setCell ⟨rb, 1, none⟩ (nu xb)) := ((Keep.refl (fun j => j = rb) w4).setCell (p := ⟨rb, 0, none⟩) (.inl rfl) _).setCell (p := ⟨rb, 1, none⟩) (.inl rfl) _
  have HFIN : Hid (RXp base ((w4.setCell ⟨rb, 0, none⟩ (nu xs)).setCell ⟨rb, 1, none⟩ (nu xb)) t lv4 L ∧ Keep (fun k => k = t) w ((w4.setCell ⟨rb, 0, none⟩ (nu xs)).setCell ⟨rb, 1, none⟩ (nu xb)) ∧ (∀ g, lv4.ownBlock = some g → w.heap.size ≤ g)) := by
    have hrbt : t ≠ rb := by have := HRB.out; omega
    refine ⟨⟨hks.at hr4.blk hrbt, hks.own hr4.row (fun g e e2 => ?_), hr4.lo, hr4.ne⟩, ?_, fun g e => ?_⟩
    · have := hg4 g e
      have := HB1.out.size
      have := HS0.out
      omega
    · have k1 : Keep (fun k => k = t) w w4 := ((Keep.of_below (F := fun k => k = t) HB0.out).trans (Keep.of_below (F := fun _ => False) HB1.out) (fun _ _ e => e.elim)).trans hk4 (fun _ _ h => h)
      exact (k1.setCell (p := ⟨rb, 0, none⟩) (.inr (Nat.le_of_eq HRB.out)) _).setCell (p := ⟨rb, 1, none⟩) (.inr (Nat.le_of_eq HRB.out)) _
    · have := hg4 g e
      have := HB1.out.size
      have := HS0.out
      have := HRB.out
      omega
  clear hks hr0 hl4 hr4 hk4 hg4
  go_wp2
  refine bodyPost_ret (results_lnk rfl _ _ rb xs xb rfl HRS.out) rfl ?_
  exact ⟨rfl, _, HFIN.out⟩

set_option maxRecDepth 100000 in
set_option maxHeartbeats 4000000 in
theorem dueE_no (base : Nat) (w : World) (t : Nat) (lv : Value) (L : List En) (now : Int) (h : RXp base w t lv L) (hd : ∀ x M, L = x :: M → now < x.t) :
    Calls Tryd.prog 26 #[ptr t, nu now] w fun e w' => e = .returned (.tuple #[.agg #[nu 0, nu 0], .bool false]) ∧ Below w.heap.size w w' := by
  obtain ⟨rb, hrb⟩ : ∃ rb, w.heap.size = rb := ⟨_, rfl⟩
  obtain ⟨W0, hW0⟩ : ∃ W0, w.alloc (.cells #[nu 0, nu 0] 31) = W0 := ⟨_, rfl⟩
  have hB0 : Below w.heap.size w W0 := by rw [← hW0]; exact (Below.refl _ _).alloc (Nat.le_refl _) _
  have hR0 : W0.heap[rb]? = some (.cells #[nu 0, nu 0] 31) := by rw [← hW0, ← hrb]; exact heap_alloc_new _ _
  have h0 := h.below hB0
  have q1 := h0.cells.1
  have b0 : W0.cell? ⟨rb, 0, none⟩ = some (nu 0) := by rw [cell_of_row W0 rb 0 _ _ _ hR0]; rfl
  have b1 : W0.cell? ⟨rb, 1, none⟩ = some (nu 0) := by rw [cell_of_row W0 rb 1 _ _ _ hR0]; rfl
  have bf : ∀ i, W0.frozen? ⟨rb, i, none⟩ = false := fun i => by simp [World.frozen?, hR0]
  have HRS : Hid (((W0.setCell ⟨rb, 0, none⟩ (nu 0)).setCell ⟨rb, 1, none⟩ (nu 0)).heap[rb]? = some (.cells #[nu 0, nu 0] 31)) := set_two _ _ hR0
  have HFIN : Hid (Below w.heap.size w ((W0.setCell ⟨rb, 0, none⟩ (nu 0)).setCell ⟨rb, 1, none⟩ (nu 0))) := by
    have k1 : Keep (fun _ => False) w W0 := Keep.of_below hB0
    exact ((k1.setCell (p := ⟨rb, 0, none⟩) (.inr (Nat.le_of_eq hrb)) _).setCell (p := ⟨rb, 1, none⟩) (.inr (Nat.le_of_eq hrb)) _).below (fun _ _ e => e) (Nat.le_refl _)
  have HW0 := Hid.mk' hW0
  have HRB := Hid.mk' hrb
  cases L with
  | nil =>
    obtain ⟨a, c, rfl, hc1, hc2⟩ := h0.shape
    simp only [List.length_nil] at q1
    clear h h0 hd hW0 hB0 hR0 hrb hc1
    go_enter Tryd.func26, Tryd.ntmps26
    go_upto_region 1 with fail
    rw [HW0.out, HRB.out]
    go_wp2
    refine bodyPost_ret (results_lnk rfl _ _ rb 0 0 rfl HRS.out) rfl ?_
    exact ⟨rfl, HFIN.out⟩
  | cons x L =>
    obtain ⟨g, c, rfl, hc1, hc2, x0, x1, x2⟩ := h0.at (k := 0) (x := x) rfl
    have hdx := hd x L rfl
    obtain ⟨xs, xb, xt⟩ := x
    dsimp only at hdx x0 x1 x2
    obtain ⟨n, hn⟩ : ∃ n, ((⟨xs, xb, xt⟩ : En) :: L).length = n + 1 := ⟨L.length, rfl⟩
    rw [hn] at hc1 q1
    unfold maxLen at hc2
    have hcI : (c : Int) ≤ 9223372036854775807 := by omega
    have hbz : (((n + 1 : Nat) : Int) == 0) = false := by
      simp only [beq_eq_false_iff_ne]
      omega
    have hp : (0 : Int) < ((n + 1 : Nat) : Int) := by omega
    have d1 : decide (xt > now) = true := decide_eq_true (by omega)
    simp only [Nat.zero_mul, Nat.zero_add] at x0 x1 x2
    clear h h0 hd hW0 hB0 hR0 hrb hn hdx
    go_enter Tryd.func26, Tryd.ntmps26
    go_upto_region 1 with fail
    rw [HW0.out, HRB.out]
    go_wp2
    refine bodyPost_ret (results_lnk rfl _ _ rb 0 0 rfl HRS.out) rfl ?_
    exact ⟨rfl, HFIN.out⟩
end Ex
end Go.Proofs.YthjdpfmnbmnbhaaDoor
