/- The program's expiry: what Due hands out; its calls meet what is asked of them. -/
import Derived.Test.YthjdpfmnbmnbhaaExpJ
namespace Go.Proofs.Ythjdpfmnbmnbhaa
set_option linter.ambiguousOpen false
open Go.RowKit Go.Maps
namespace Ex
open Hh Ft Hq
set_option linter.unusedSimpArgs false
set_option linter.unusedVariables false
attribute [local go_sem] Oper.semAt_some

/-- One round: the entry goes, its slot and birth are handed out. -/
theorem step_taken {w w1 : World} {p : Nat} {F : Nat → Prop} {x : En} {M : List En} {now : Int} (ht : x.t ≤ now) (h : LeftX RepX w w1 p F M) : ∃ G, StepX RepX p now (F, x :: M) w (some x) (G, M) w1 := by
  obtain ⟨G, g1, g2, g3⟩ := h
  exact ⟨G, rfl, ht, g1, g2, g3⟩

set_option maxRecDepth 1000000 in
set_option maxHeartbeats 8000000 in
theorem due_seq (p Be Bn : Nat) (now : Int) : Rf.SeqM Try.prog 17 #[.pointer (some ⟨Be, 0, none⟩), .pointer (some ⟨Bn, 0, none⟩)] (fun x : En => #[.agg #[nu x.s, nu x.b]]) (fun b => b = Be ∨ b = Bn) 5 (ReadyO p now Be Bn) (StepX RepX p now) (fun c => c.1) := by
  intro l I D Ix n c W hready hY hI hD hIx hround hend h0
  obtain ⟨hr, q0, q1⟩ := hready c n W h0
  obtain ⟨lo, hlo⟩ : ∃ lo, W.heap.size = lo := ⟨_, rfl⟩
  obtain ⟨W1, hW1⟩ : ∃ W1, W.alloc (.cells #[.func (.yield l) #[] #[]] 53) = W1 := ⟨_, rfl⟩
  have s1 : W1.heap.size = lo + 1 := by rw [← hW1, ← hlo]; simp
  have y1 : W1.heap[lo]? = some (.cells #[.func (.yield l) #[] #[]] 53) := by rw [← hW1, ← hlo]; exact heap_alloc_new _ _
  have b1 : Below W.heap.size W W1 := by rw [← hW1]; exact (Below.refl _ _).alloc (Nat.le_refl _) _
  obtain ⟨W3, hW3⟩ : ∃ W3, (W1.alloc (.cells #[ptr p] 24)).alloc (.cells #[nu now] 3) = W3 := ⟨_, rfl⟩
  have s3 : W3.heap.size = lo + 3 := by rw [← hW3]; simp; omega
  have b3 : Below W1.heap.size W1 W3 := by rw [← hW3]; exact ((Below.refl _ _).alloc (Nat.le_refl _) _).alloc (by simp) _
  have z0 : W3.heap[lo]? = some (.cells #[.func (.yield l) #[] #[]] 53) := (b3.block lo (by omega)).trans y1
  have z1 : W3.heap[lo + 1]? = some (.cells #[ptr p] 24) := by
    rw [← hW3, ← s1]
    exact (Below.heap_alloc _ _ _ (by simp)).trans (heap_alloc_new _ _)
  have z2 : W3.heap[lo + 2]? = some (.cells #[nu now] 3) := by
    have e : lo + 2 = (W1.alloc (.cells #[ptr p] 24)).heap.size := by simp; omega
    rw [← hW3, e]
    exact heap_alloc_new _ _
  have hb13 : Below W.heap.size W W3 := b1.trans (b3.mono b1.size)
  have h3 : I c n W3 := hI c n W W3 (Keep.of_below hb13) h0
  have c1 : Hid (Calls Try.prog 18 #[ptr p, nu now] W1 fun e w' => e = .returned (.func (.func 27) #[] #[.pointer (some ⟨lo + 1, 0, none⟩), .pointer (some ⟨lo + 2, 0, none⟩)]) ∧ w' = W3) := by
    have := over_p W1 p now
    rw [hW3, s1] at this
    exact this
  have x0 : W1.cell? ⟨Be, 0, none⟩ = some (ptr p) := (b1.cell (p := ⟨Be, 0, none⟩) (cell_lt q0)).trans q0
  have x1 : W1.cell? ⟨Bn, 0, none⟩ = some (nu now) := (b1.cell (p := ⟨Bn, 0, none⟩) (cell_lt q1)).trans q1
  have HBe : Hid (Be < lo ∧ Bn < lo) := ⟨by have := cell_lt q0; rw [← hlo]; exact this, by have := cell_lt q1; rw [← hlo]; exact this⟩
  have HRD := Hid.mk' hready
  have HRO := Hid.mk' hround
  have HEN := Hid.mk' hend
  have H3 := Hid.mk' h3
  have HW1 := Hid.mk' hW1
  have HZ0 := Hid.mk' z0
  have HZ1 := Hid.mk' z1
  have HZ2 := Hid.mk' z2
  have HI := Hid.mk' hI
  have HD := Hid.mk' hD
  have HX := Hid.mk' hIx
  have HY := Hid.mk' hY
  have HLO := Hid.mk' hlo
  clear hready hround hend h3 hW1 z0 z1 z2 hI hD hIx hY hlo h0 hr q0 q1 hW3 b1 b3 hb13 y1
  refine callsIn_of_wp_marks Try.func17 rfl trivial ?_ rfl
  refine wpIn_wide.2 ?_
  simp only [Try.ntmps17, List.size_toArray, List.length_cons, List.length_nil, Nat.reduceAdd, Nat.reduceSub, Array.replicate_succ, Array.replicate_zero, List.push_toArray, List.append_toArray, List.nil_append, List.cons_append]
  go_upto_region 1 with fail
  rw [HW1.out, HLO.out]
  go_wp2_with fail
  refine c1.out.mono ?_
  rintro e w3 ⟨rfl, hw3⟩
  subst w3
  go_wp2_with fail
  refine Rf.wp_rangeM rfl (enters_of Try.func27 (by kernel_rfl) rfl)
    (over_seq p (lo + 1) (lo + 2) now) (fun _ => rfl) (fun b hb => by rcases hb with rfl | rfl <;> omega)
    (fun c m W' => I c m W' ∧ W'.heap[lo]? = some (.cells #[.func (.yield l) #[] #[]] 53) ∧ W'.heap[lo + 1]? = some (.cells #[ptr p] 24) ∧ W'.heap[lo + 2]? = some (.cells #[nu now] 3))
    (fun c m s W' => (I c m W' ∧ W'.heap[lo]? = some (.cells #[.func (.yield l) #[] #[]] 53) ∧ W'.heap[lo + 1]? = some (.cells #[ptr p] 24) ∧ W'.heap[lo + 2]? = some (.cells #[nu now] 3)) ∧ ∃ x M, c.2 = x :: M ∧ x.t ≤ now ∧ s = x.s)
    D (fun cd W' => cd = .ret ∧ Ix W') n c ?ready ?foot ?restI ?restM ?restD ?restX ?step ?last
    ⟨H3.out, HZ0.out, HZ1.out, HZ2.out⟩ ?act ?assign ?body ?done ?stop
  case act => exact fun s => { tmps := #[.func (.yield l) #[] #[], .pointer (some ⟨Be, 0, none⟩), .pointer (some ⟨Bn, 0, none⟩), .pointer (some ⟨lo, 0, none⟩), nu s, ptr p, nu now, .func (.func 27) #[] #[.pointer (some ⟨lo + 1, 0, none⟩), .pointer (some ⟨lo + 2, 0, none⟩)], nu s, undef, undef, undef, undef, undef, undef], defers := [] }
  case ready =>
    rintro c m W' ⟨h1, h2, h3, h4⟩
    obtain ⟨r1, _, _⟩ := HRD.out c m W' h1
    exact ⟨r1, by rw [cell_of_row W' (lo + 1) 0 _ _ _ h3]; rfl, by rw [cell_of_row W' (lo + 2) 0 _ _ _ h4]; rfl⟩
  case foot => exact fun _ _ _ _ _ hb => hb.elim
  case restI =>
    intro c m
    refine ((HI.out c m).narrower (by rw [HLO.out]; omega) (by rw [HLO.out]; omega)).and ((Rf.Rest.at (.inl (by omega))).and ((Rf.Rest.at (.inl (by omega))).and (Rf.Rest.at (.inl (by omega)))))
  case restM =>
    intro c m s
    exact (((HI.out c m).narrower (by rw [HLO.out]; omega) (by rw [HLO.out]; omega)).and ((Rf.Rest.at (.inl (by omega))).and ((Rf.Rest.at (.inl (by omega))).and (Rf.Rest.at (.inl (by omega)))))).and (Rf.Rest.pure _)
  case restD => exact HD.out.narrower (by rw [HLO.out]; omega) (by rw [HLO.out]; omega)
  case restX =>
    intro cd
    exact (Rf.Rest.pure _).and (HX.out.narrower (by rw [HLO.out]; omega) (by rw [HLO.out]; omega))
  case step =>
    rintro c m s c' W0 W2 hsz ⟨h1, h2, h3, h4⟩ ⟨rfl, hb, hx⟩
    have hk : Keep (fun _ => False) W0 W2 := Keep.of_below hb
    refine ⟨⟨⟨HI.out c' m W0 W2 (Keep.of_below hb) h1, hk.at h2 (fun e => e), hk.at h3 (fun e => e), hk.at h4 (fun e => e)⟩, hx⟩, Rf.Lets.keep hk (fun b hb => hb.elim)⟩
  case last =>
    rintro c m c' W0 W2 hsz ⟨h1, h2, h3, h4⟩ ⟨rfl, hb, hx⟩
    exact ⟨HEN.out c' m c' W0 W2 (by rw [HLO.out]; omega) h1 ⟨hx, hb⟩, Rf.Lets.keep (Keep.of_below (F := fun _ => False) hb) (fun b hb => hb.elim)⟩
  case assign =>
    intro l' s W' K hK
    gi_wp2
    exact hK
  case body =>
    rintro l' c m s W2 ⟨⟨h1, h2, h3, h4⟩, x, M, hc, ht, rfl⟩ hsz
    obtain ⟨F1, L1⟩ := c
    dsimp only at hc
    subst hc
    obtain ⟨xs, xb, xt⟩ := x
    dsimp only at ht ⊢
    have k0 : Keep (fun _ => False) W2 W2.drew := (Keep.refl _ _).drew
    have h1d : I (F1, ⟨xs, xb, xt⟩ :: M) m W2.drew := HI.out _ m W2 W2.drew (k0.weaken (fun _ _ e => e.elim)) h1
    obtain ⟨r1, _, _⟩ := HRD.out _ m W2.drew h1d
    dsimp only at r1
    have hft := HY.out _ m W2.drew h1d
    dsimp only at hft
    rw [HLO.out] at hft
    have t0 : W2.drew.cell? ⟨lo, 0, none⟩ = some (.func (.yield l) #[] #[]) := by
      have := cell_of_row W2 lo 0 _ _ _ h2
      exact this.trans rfl
    have t1 : W2.drew.cell? ⟨Be, 0, none⟩ = some (ptr p) := (HRD.out _ m W2.drew h1d).2.1
    have cT : Hid (Calls Try.prog 19 #[ptr p, nu xs] W2.drew fun e w5 => e = .returned (.agg #[nu xs, nu xb]) ∧ w5.cell? ⟨lo, 0, none⟩ = some (.func (.yield l) #[] #[]) ∧ Hid (YieldAt Fence.wide 6 Try.prog l #[.agg #[nu xs, nu xb]] w5 fun e w6 =>
        (e = .returned (.bool true) ∧ Hid (Rf.Lets (fun b => b = lo + 1 ∨ b = lo + 2) W3.heap.size (W3.heap.size + 2 + 0) W2 w6 ∧ ∃ c j, j < m ∧ (I c j w6 ∧ w6.heap[lo]? = some (.cells #[.func (.yield l) #[] #[]] 53) ∧ w6.heap[lo + 1]? = some (.cells #[ptr p] 24) ∧ w6.heap[lo + 2]? = some (.cells #[nu now] 3)))) ∨
        (e = .returned (.bool false) ∧ Hid (Rf.Lets (fun b => b = lo + 1 ∨ b = lo + 2) W3.heap.size (W3.heap.size + 2 + 0) W2 w6 ∧ Ix w6)))) := by
      refine (take_p W2.drew p F1 ⟨xs, xb, xt⟩ M r1).mono ?_
      rintro e w5 ⟨rfl, hle⟩
      obtain ⟨G, hst⟩ := step_taken (now := now) (x := ⟨xs, xb, xt⟩) ht hle
      obtain ⟨_, _, _, g2, _⟩ := id hst
      dsimp only at g2
      have g0 : ∀ b o, lo ≤ b → b < lo + 5 → W2.heap[b]? = some o → w5.heap[b]? = some o := fun b o hb1 hb2 hb => g2.at (k0.at hb (fun e => e)) (fun e => hft b e ⟨hb1, hb2⟩)
      have hle5 : Rf.Lets (fun b => b = lo + 1 ∨ b = lo + 2) W3.heap.size (W3.heap.size + 2 + 0) W2 w5 :=
        (Rf.Lets.keep k0 (fun b hb => hb.elim)).trans (Rf.Lets.keep g2 (fun b hb => ⟨fun e => hft b hb (by omega), fun e => hft b hb (by omega)⟩))
      have hya := HRO.out _ m ⟨xs, xb, xt⟩ (G, M) W2.drew w5 (by rw [HLO.out]; show _ ≤ W2.heap.size; omega) h1d hst
      refine ⟨rfl, by rw [cell_of_row w5 lo 0 _ _ _ (g0 lo _ (by omega) (by omega) h2)]; rfl, ?_⟩
      obtain ⟨fn, tmps, assign, body, e1, e2⟩ := Rf.yieldAt_any (m' := 6) hya
      refine ⟨fn, tmps, assign, body, e1, RoundIn.mono e2 ?_⟩
      rintro e w6 ⟨hlt, hh⟩
      rw [HLO.out] at hlt
      have hle6 : Rf.Lets (fun b => b = lo + 1 ∨ b = lo + 2) W3.heap.size (W3.heap.size + 2 + 0) W2 w6 := hle5.trans ⟨hlt.size, fun b hb hx => hlt.same b hb (.inr (by omega))⟩
      rcases hh with ⟨rfl, c2, j, hj, hI6⟩ | ⟨rfl, hX6⟩
      · exact .inl ⟨rfl, hle6, c2, j, hj, hI6, hlt.own (.inr ⟨by omega, by omega⟩) (g0 _ _ (by omega) (by omega) h2), hlt.own (.inr ⟨by omega, by omega⟩) (g0 _ _ (by omega) (by omega) h3), hlt.own (.inr ⟨by omega, by omega⟩) (g0 _ _ (by omega) (by omega) h4)⟩
      · exact .inr ⟨rfl, hle6, hX6⟩
    clear h1 h2 h3 h4 h1d r1 hft k0 x0 x1 c1
    gi_wp2_with fail
    refine Rn.region_round (by kernel_rfl) (by kernel_rfl) ?_
    refine wpAnyIn_take (i := 2) (v := nu xs) rfl rfl (by kernel_rfl) (by kernel_rfl) (by kernel_rfl) (fun _ _ _ h => h) ⟨Or.inl ⟨by rfl, ?_⟩, ?_⟩ ?_
    · (intro w'; go_simp <;> with_reducible rfl)
    · intro w'; rfl
    simp only [Act.put, List.getElem_toArray, List.getElem_cons_succ, List.getElem_cons_zero, List.setIfInBounds_toArray, List.set]
    refine wpAnyIn_ready (rs := [0, 1]) (by kernel_rfl) (by simp) ?_
    refine AllReadyIn.cons rfl (fun K hK => ?_) (AllReadyIn.cons rfl (fun K hK => ?_) AllReadyIn.nil)
    · refine Rn.op_value (v := .func (.yield l) #[] #[]) (w' := W2.drew) (by rfl) (by go_simp <;> with_reducible rfl) ?_
      refine hK _ _ ?_
      clear hK K
      simp only [Act.put, List.getElem_toArray, List.getElem_cons_succ, List.getElem_cons_zero, List.setIfInBounds_toArray, List.set]
      refine wpAnyIn_ready (rs := [1]) (by kernel_rfl) (by simp) ?_
      refine AllReadyIn.cons rfl (fun K hK => ?_) AllReadyIn.nil
      refine Rn.op_value (v := ptr p) (w' := W2.drew) (by rfl) (by go_simp <;> with_reducible rfl) ?_
      refine hK _ _ ?_
      clear hK K
      simp only [Act.put, List.getElem_toArray, List.getElem_cons_succ, List.getElem_cons_zero, List.setIfInBounds_toArray, List.set]
      refine wpAnyIn_ready (rs := [3]) (by kernel_rfl) (by simp) ?_
      refine AllReadyIn.cons rfl (fun K hK => ?_) AllReadyIn.nil
      refine Rn.op_call (by rfl) (w' := W2.drew) (f := 19) (args := #[ptr p, nu xs]) (by go_simp <;> with_reducible rfl) cT.out ?_
      rintro e w5 ⟨rfl, u0, HYA⟩
      refine ⟨_, rfl, ?_⟩
      refine hK _ _ ?_
      clear hK K
      simp only [Act.put, List.getElem_toArray, List.getElem_cons_succ, List.getElem_cons_zero, List.setIfInBounds_toArray, List.set]
      refine wpAnyIn_ready (rs := [4]) (by kernel_rfl) (by simp) ?_
      refine AllReadyIn.cons rfl (fun K hK => ?_) AllReadyIn.nil
      refine Rn.op_yield (by rfl) HYA.out (by go_simp <;> with_reducible rfl) ?_
      rintro e w6 (⟨rfl, HG⟩ | ⟨rfl, HG⟩)
      · refine ⟨_, rfl, ?_⟩
        refine hK _ _ ?_
        clear hK K
        simp only [Act.put, List.getElem_toArray, List.getElem_cons_succ, List.getElem_cons_zero, List.setIfInBounds_toArray, List.set]
        refine wpAnyIn_ready (rs := [5]) (by kernel_rfl) (by simp) ?_
        refine AllReadyIn.cons rfl (fun K hK => ?_) AllReadyIn.nil
        refine Rn.op_value (v := .bool false) (w' := w6) (by rfl) (by go_simp <;> with_reducible rfl) ?_
        refine hK _ _ ?_
        clear hK K
        simp only [Act.put, List.getElem_toArray, List.getElem_cons_succ, List.getElem_cons_zero, List.setIfInBounds_toArray, List.set]
        refine wpAnyIn_done (by kernel_rfl) ?_ _
        gi_wp2
        exact HG.out
      · refine ⟨_, rfl, ?_⟩
        refine hK _ _ ?_
        clear hK K
        simp only [Act.put, List.getElem_toArray, List.getElem_cons_succ, List.getElem_cons_zero, List.setIfInBounds_toArray, List.set]
        refine wpAnyIn_ready (rs := [5]) (by kernel_rfl) (by simp) ?_
        refine AllReadyIn.cons rfl (fun K hK => ?_) AllReadyIn.nil
        refine Rn.op_value (v := .bool true) (w' := w6) (by rfl) (by go_simp <;> with_reducible rfl) ?_
        refine hK _ _ ?_
        clear hK K
        simp only [Act.put, List.getElem_toArray, List.getElem_cons_succ, List.getElem_cons_zero, List.setIfInBounds_toArray, List.set]
        refine wpAnyIn_done (by kernel_rfl) ?_ _
        gi_wp2
        exact ⟨HG.out.1, rfl, HG.out.2⟩
    · refine Rn.op_value (v := ptr p) (w' := W2.drew) (by rfl) (by go_simp <;> with_reducible rfl) ?_
      refine hK _ _ ?_
      clear hK K
      simp only [Act.put, List.getElem_toArray, List.getElem_cons_succ, List.getElem_cons_zero, List.setIfInBounds_toArray, List.set]
      refine wpAnyIn_ready (rs := [0, 3]) (by kernel_rfl) (by simp) ?_
      refine AllReadyIn.cons rfl (fun K hK => ?_) (AllReadyIn.cons rfl (fun K hK => ?_) AllReadyIn.nil)
      · refine Rn.op_value (v := .func (.yield l) #[] #[]) (w' := W2.drew) (by rfl) (by go_simp <;> with_reducible rfl) ?_
        refine hK _ _ ?_
        clear hK K
        simp only [Act.put, List.getElem_toArray, List.getElem_cons_succ, List.getElem_cons_zero, List.setIfInBounds_toArray, List.set]
        refine wpAnyIn_ready (rs := [3]) (by kernel_rfl) (by simp) ?_
        refine AllReadyIn.cons rfl (fun K hK => ?_) AllReadyIn.nil
        refine Rn.op_call (by rfl) (w' := W2.drew) (f := 19) (args := #[ptr p, nu xs]) (by go_simp <;> with_reducible rfl) cT.out ?_
        rintro e w5 ⟨rfl, u0, HYA⟩
        refine ⟨_, rfl, ?_⟩
        refine hK _ _ ?_
        clear hK K
        simp only [Act.put, List.getElem_toArray, List.getElem_cons_succ, List.getElem_cons_zero, List.setIfInBounds_toArray, List.set]
        refine wpAnyIn_ready (rs := [4]) (by kernel_rfl) (by simp) ?_
        refine AllReadyIn.cons rfl (fun K hK => ?_) AllReadyIn.nil
        refine Rn.op_yield (by rfl) HYA.out (by go_simp <;> with_reducible rfl) ?_
        rintro e w6 (⟨rfl, HG⟩ | ⟨rfl, HG⟩)
        · refine ⟨_, rfl, ?_⟩
          refine hK _ _ ?_
          clear hK K
          simp only [Act.put, List.getElem_toArray, List.getElem_cons_succ, List.getElem_cons_zero, List.setIfInBounds_toArray, List.set]
          refine wpAnyIn_ready (rs := [5]) (by kernel_rfl) (by simp) ?_
          refine AllReadyIn.cons rfl (fun K hK => ?_) AllReadyIn.nil
          refine Rn.op_value (v := .bool false) (w' := w6) (by rfl) (by go_simp <;> with_reducible rfl) ?_
          refine hK _ _ ?_
          clear hK K
          simp only [Act.put, List.getElem_toArray, List.getElem_cons_succ, List.getElem_cons_zero, List.setIfInBounds_toArray, List.set]
          refine wpAnyIn_done (by kernel_rfl) ?_ _
          gi_wp2
          exact HG.out
        · refine ⟨_, rfl, ?_⟩
          refine hK _ _ ?_
          clear hK K
          simp only [Act.put, List.getElem_toArray, List.getElem_cons_succ, List.getElem_cons_zero, List.setIfInBounds_toArray, List.set]
          refine wpAnyIn_ready (rs := [5]) (by kernel_rfl) (by simp) ?_
          refine AllReadyIn.cons rfl (fun K hK => ?_) AllReadyIn.nil
          refine Rn.op_value (v := .bool true) (w' := w6) (by rfl) (by go_simp <;> with_reducible rfl) ?_
          refine hK _ _ ?_
          clear hK K
          simp only [Act.put, List.getElem_toArray, List.getElem_cons_succ, List.getElem_cons_zero, List.setIfInBounds_toArray, List.set]
          refine wpAnyIn_done (by kernel_rfl) ?_ _
          gi_wp2
          exact ⟨HG.out.1, rfl, HG.out.2⟩
      · refine Rn.op_call (by rfl) (w' := W2.drew) (f := 19) (args := #[ptr p, nu xs]) (by go_simp <;> with_reducible rfl) cT.out ?_
        rintro e w5 ⟨rfl, u0, HYA⟩
        refine ⟨_, rfl, ?_⟩
        refine hK _ _ ?_
        clear hK K
        simp only [Act.put, List.getElem_toArray, List.getElem_cons_succ, List.getElem_cons_zero, List.setIfInBounds_toArray, List.set]
        refine wpAnyIn_ready (rs := [0]) (by kernel_rfl) (by simp) ?_
        refine AllReadyIn.cons rfl (fun K hK => ?_) AllReadyIn.nil
        refine Rn.op_value (v := .func (.yield l) #[] #[]) (w' := w5) (by rfl) (by go_simp <;> with_reducible rfl) ?_
        refine hK _ _ ?_
        clear hK K
        simp only [Act.put, List.getElem_toArray, List.getElem_cons_succ, List.getElem_cons_zero, List.setIfInBounds_toArray, List.set]
        refine wpAnyIn_ready (rs := [4]) (by kernel_rfl) (by simp) ?_
        refine AllReadyIn.cons rfl (fun K hK => ?_) AllReadyIn.nil
        refine Rn.op_yield (by rfl) HYA.out (by go_simp <;> with_reducible rfl) ?_
        rintro e w6 (⟨rfl, HG⟩ | ⟨rfl, HG⟩)
        · refine ⟨_, rfl, ?_⟩
          refine hK _ _ ?_
          clear hK K
          simp only [Act.put, List.getElem_toArray, List.getElem_cons_succ, List.getElem_cons_zero, List.setIfInBounds_toArray, List.set]
          refine wpAnyIn_ready (rs := [5]) (by kernel_rfl) (by simp) ?_
          refine AllReadyIn.cons rfl (fun K hK => ?_) AllReadyIn.nil
          refine Rn.op_value (v := .bool false) (w' := w6) (by rfl) (by go_simp <;> with_reducible rfl) ?_
          refine hK _ _ ?_
          clear hK K
          simp only [Act.put, List.getElem_toArray, List.getElem_cons_succ, List.getElem_cons_zero, List.setIfInBounds_toArray, List.set]
          refine wpAnyIn_done (by kernel_rfl) ?_ _
          gi_wp2
          exact HG.out
        · refine ⟨_, rfl, ?_⟩
          refine hK _ _ ?_
          clear hK K
          simp only [Act.put, List.getElem_toArray, List.getElem_cons_succ, List.getElem_cons_zero, List.setIfInBounds_toArray, List.set]
          refine wpAnyIn_ready (rs := [5]) (by kernel_rfl) (by simp) ?_
          refine AllReadyIn.cons rfl (fun K hK => ?_) AllReadyIn.nil
          refine Rn.op_value (v := .bool true) (w' := w6) (by rfl) (by go_simp <;> with_reducible rfl) ?_
          refine hK _ _ ?_
          clear hK K
          simp only [Act.put, List.getElem_toArray, List.getElem_cons_succ, List.getElem_cons_zero, List.setIfInBounds_toArray, List.set]
          refine wpAnyIn_done (by kernel_rfl) ?_ _
          gi_wp2
          exact ⟨HG.out.1, rfl, HG.out.2⟩
  case done =>
    rintro W2 hD2 hK
    go_wp2
    refine ⟨by simp, .inl ⟨_, _, rfl, run_takeDeferred hK, ?_⟩⟩
    exact ⟨_, results_none rfl _ _ _, ⟨_, rfl⟩, .inl (HD.out _ _ (Rf.keep_put _ _ _ ⟨by rw [HLO.out]; omega, by rw [HLO.out]; omega⟩) hD2)⟩
  case stop =>
    rintro cd W2 ⟨rfl, hX2⟩ hK
    go_wp2
    refine ⟨by simp, .inl ⟨_, _, rfl, run_takeDeferred hK, ?_⟩⟩
    exact ⟨_, results_none rfl _ _ _, ⟨_, rfl⟩, .inr (HX.out _ _ (Rf.keep_put _ _ _ ⟨by rw [HLO.out]; omega, by rw [HLO.out]; omega⟩) hX2)⟩

theorem _root_.Go.Proofs.Ythjdpfmnbmnbhaa.Rf.SeqM.ready {α γ : Type} {P : Program} {g : Nat} {lb : Array Value} {enc : α → Array Value} {X : Nat → Prop} {k : Nat} {R1 R2 : γ → World → Prop} {St : γ → World → Option α → γ → World → Prop} {Y : γ → Nat → Prop} (h : Rf.SeqM P g lb enc X k R1 St Y) (hr : ∀ c W, R2 c W → R1 c W) : Rf.SeqM P g lb enc X k R2 St Y :=
  fun l I D Ix n c W h1 h2 h3 h4 h5 h6 h7 h8 => h l I D Ix n c W (fun c m W0 hi => hr _ _ (h1 c m W0 hi)) h2 h3 h4 h5 h6 h7 h8

theorem dueX_p (w : World) (p : Nat) (now : Int) : Calls Try.prog 9 #[ptr p, nu now] w fun e w' => ∃ fv X, e = .returned fv ∧ IterX RepX w' fv X p now ∧ (∀ b, X b → w.heap.size ≤ b) ∧ Below w.heap.size w w' := by
  refine (dueMake_p w p now).mono ?_
  rintro e w' ⟨rfl, rfl⟩
  refine ⟨_, fun b => b = w.heap.size ∨ b = w.heap.size + 1, rfl, ⟨_, _, 5, rfl, enters_of Try.func17 (by kernel_rfl) rfl, fun b hb => ?_, (due_seq p w.heap.size (w.heap.size + 1) now).ready ?_⟩, fun b hb => ?_, ((Below.refl _ _).alloc (Nat.le_refl _) _).alloc (by simp) _⟩
  · rcases hb with rfl | rfl <;> (rw [World.size_alloc, World.size_alloc]; omega)
  · rintro c W ⟨h1, h2, h3⟩
    have z1 : W.heap[w.heap.size]? = some (.cells #[ptr p] 24) := (h3 _ (.inl rfl)).trans ((Below.heap_alloc _ _ _ (by simp)).trans (heap_alloc_new _ _))
    have z2 : W.heap[w.heap.size + 1]? = some (.cells #[nu now] 3) := by
      rw [h3 _ (.inr rfl)]
      have := heap_alloc_new (w.alloc (.cells #[ptr p] 24)) (.cells #[nu now] 3)
      rwa [World.size_alloc] at this
    exact ⟨h1, by rw [cell_of_row W _ 0 _ _ _ z1]; rfl, by rw [cell_of_row W _ 0 _ _ _ z2]; rfl⟩
  · rcases hb with rfl | rfl <;> omega

theorem expiryC_of : ExpiryC RepX where
  keep h hk hn := repX_keep h hk hn
  lt h := repX_lt h
  ge h := repX_ge h
  new w := newX_p w
  setYes w p F L s b t h hx := setX_yes w p F L s b t h hx
  setNo w p F L s b t h hx := setX_no w p F L s b t h hx
  forget w p F L s h hs := forgetX_p w p F L s h hs
  next w p F L h := nextX_p w p F L h
  due w p F L now h := dueX_p w p now
end Ex
end Go.Proofs.Ythjdpfmnbmnbhaa
