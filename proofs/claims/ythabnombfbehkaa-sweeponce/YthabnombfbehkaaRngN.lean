import Derived.Test.YthabnombfbehkaaRngM
/- The program's rings: All. -/
namespace Go.Proofs.Ythabnombfbehkaa
set_option linter.ambiguousOpen false
open Go.RowKit
namespace Rg
open An Ft Lv
set_option linter.unusedSimpArgs false
set_option linter.unusedVariables false
attribute [local go_sem] Oper.semAt_some

theorem goes_stop (S : List Slt) (last : Int) : ∀ (f : Nat) (i : Int) (pre : List Nat) (x : Nat), pre ++ [x] <+: goes S last f i → (x : Int) = last → pre ++ [x] = goes S last f i
  | 0, i, pre, x, h, _ => by
    have := h.length_le
    simp [goes] at this
  | f + 1, i, pre, x, h, he => by
    unfold goes at h ⊢
    by_cases ht : there i
    · rw [if_pos ht] at h ⊢
      have hc : (i.toNat : Int) = i := by omega
      cases pre with
      | nil =>
        rw [List.nil_append] at h ⊢
        have hx : x = i.toNat := (List.cons_prefix_cons.1 h).1
        rw [if_pos (by omega), hx]
      | cons y r =>
        rw [List.cons_append] at h ⊢
        obtain ⟨rfl, h2⟩ := List.cons_prefix_cons.1 h
        by_cases hl : i = last
        · rw [if_pos hl] at h2
          have := h2.length_le
          simp at this
        · rw [if_neg hl] at h2 ⊢
          rw [goes_stop S last f _ r x h2 he]
    · rw [if_neg ht] at h
      have := h.length_le
      simp at this

theorem own_bel {w w' : World} {base n : Nat} {e : TypeId} {size : Nat} {v : Value} {xs : List Value} (h : w.ownsRow base e size v n xs) (hb : Below w.heap.size w w') : w'.ownsRow base e size v n xs :=
  (Keep.of_below (F := fun _ => False) hb).own h (fun _ _ h => h)

theorem own_rdV {w : World} {base n : Nat} {v : Value} {L : List Nat} (h : w.ownsRow base 3 1 v n (L.map nun)) : RdV w v L := by
  have hl := h.1
  simp only [List.length_map, Nat.mul_one] at hl
  subst hl
  obtain ⟨a, cap, hv, h1, h2, h3⟩ := Nm.own_shape h
  refine ⟨a, cap, hv, h1, h2, fun h0 => ?_⟩
  obtain ⟨g, rfl⟩ := h3 h0
  subst hv
  refine ⟨g, 0, rfl, fun k i hk => ?_⟩
  have hkl := (List.getElem?_eq_some_iff.1 hk).1
  have := h.cellAt (g := g) (cap := cap) k (by omega)
  rw [Nat.zero_add, this, List.getElem?_map, hk]
  rfl

/-- What All's last step answers. -/
theorem last_step (w W : World) (n base : Nat) (v : Value) (L : List Nat) (hb : Below w.heap.size w W) (ho : W.ownsRow base 3 1 v n (L.map nun)) (hW : base ≤ W.heap.size) (hL : L.length ≤ 32) :
    Calls Try.prog 39 #[v] W fun e w' => ∃ Bl, e = .returned (.func (.func 55) #[] #[.pointer (some ⟨Bl, 0, none⟩)]) ∧ IterA w' (.func (.func 55) #[] #[.pointer (some ⟨Bl, 0, none⟩)]) (fun b => b = Bl ∨ v.ownBlock = some b) L ∧ (∀ b, (b = Bl ∨ v.ownBlock = some b) → base ≤ b) ∧ Below w.heap.size w w' ∧ Below W.heap.size W w' := by
  obtain ⟨a, c, hv, _⟩ := Nm.own_shape ho
  refine (values_any v W ⟨a, n, c, hv⟩).mono ?_
  rintro e w' ⟨rfl, rfl⟩
  refine ⟨W.heap.size, rfl, vals_iter L W.heap.size v _ (Boxed.new W _ _).cell (own_rdV (ho.alloc _)) (by omega) (fun b hb' => ((ho.alloc _).lt b hb').2), ?_, hb.alloc hb.size _, (Below.refl _ _).alloc (Nat.le_refl _) _⟩
  rintro b (rfl | h)
  · exact hW
  · exact (ho.lt b h).1

theorem keep_put (W : World) (D : Nat) (o : Obj) : Keep (fun k => k = D) W (W.putObj D o) := ⟨rfl, rfl, rfl, by simp, fun k _ hn => World.putObj_heap_other hn⟩

section
variable {Rep : World → Nat → (Nat → Prop) → Arn → Prop}

set_option maxRecDepth 1000000 in
set_option maxHeartbeats 4000000 in
theorem all_u (H : KeepC Rep) (HX : BlockC Rep) (CG : GetC Rep) : AllU Rep := fun w p F A last h hg => by
  obtain ⟨i0, ji, hz0, hz1, hz2⟩ := info_parts info_int
  have hFl : ∀ b, F b → b < w.heap.size := H.lt h
  have hB1 : Below w.heap.size w ((w.alloc (.cells #[nu last] 3)).alloc (.cells #[.slice none 0 0] 22)) := ((Below.refl _ _).alloc (Nat.le_refl _) _).alloc (by simp) _
  have x0 : Boxed ((w.alloc (.cells #[nu last] 3)).alloc (.cells #[.slice none 0 0] 22)) w.heap.size 3 (nu last) := (Boxed.new w _ _).alloc _
  have x1 : Boxed ((w.alloc (.cells #[nu last] 3)).alloc (.cells #[.slice none 0 0] 22)) (w.heap.size + 1) 22 (.slice none 0 0) := by
    have := Boxed.new (w.alloc (.cells #[nu last] 3)) 22 (.slice none 0 0)
    simpa using this
  have hs1 : ((w.alloc (.cells #[nu last] 3)).alloc (.cells #[.slice none 0 0] 22)).heap.size = w.heap.size + 2 := by simp
  obtain ⟨W1, hW1⟩ : ∃ W1, (w.alloc (.cells #[nu last] 3)).alloc (.cells #[.slice none 0 0] 22) = W1 := ⟨_, rfl⟩
  rw [hW1] at hB1 x0 x1 hs1
  have HW1 := Hid.mk' hW1
  have cF := Hid.mk' (follow_p p last W1)
  obtain ⟨W2, hW2⟩ : ∃ W2, (W1.alloc (.cells #[ptr p] 24)).alloc (.cells #[nu last] 3) = W2 := ⟨_, rfl⟩
  have hB2 : Below W1.heap.size W1 W2 := by rw [← hW2]; exact ((Below.refl _ _).alloc (Nat.le_refl _) _).alloc (by simp) _
  have hs2 : W2.heap.size = w.heap.size + 4 := by rw [← hW2]; simp; omega
  have y2 : Boxed W2 (w.heap.size + 2) 24 (ptr p) := by rw [← hW2, ← hs1]; exact (Boxed.new W1 _ _).alloc _
  have y3 : Boxed W2 (w.heap.size + 3) 3 (nu last) := by
    rw [← hW2]
    have := Boxed.new (W1.alloc (.cells #[ptr p] 24)) 3 (nu last)
    rw [World.size_alloc, hs1] at this
    exact this
  have y0 : Boxed W2 w.heap.size 3 (nu last) := (hB2.block _ (by omega)).trans x0
  have y1 : Boxed W2 (w.heap.size + 1) 22 (.slice none 0 0) := (hB2.block _ (by omega)).trans x1
  have hBw2 : Below w.heap.size w W2 := hB1.trans (hB2.mono hB1.size)
  rw [hW2, hs1] at cF
  have hfol := foll_goes A.sl last 32 last
  have hfin0 := goes_fin A.sl last 32 last
  have hstop0 := goes_stop A.sl last 32 (nxN A.sl last)
  have hfew := allL_len A.sl last
  rw [← allL_goes] at hfol hfin0 hstop0
  have HSQ := Hid.mk' (follow_seq H HX CG W2 p F A (w.heap.size + 2) (w.heap.size + 3) last (allL A.sl last) ⟨H.below h hBw2, y2, y3⟩ hg hfol)
  obtain ⟨L, hL⟩ : ∃ L, allL A.sl last = L := ⟨_, rfl⟩
  rw [hL] at HSQ hfin0 hstop0 hfew ⊢
  have HFN := Hid.mk' hfin0
  have HST := Hid.mk' hstop0
  have x0c := x0.cell
  clear H HX CG h hg hW1 hW2 hL hfol hfin0 hstop0 hB1 hB2 x0 x1 y2 y3
  refine (callsIn_wide (n := 8)).1 ?_
  refine callsIn_of_wp_marks Try.func58 rfl trivial ?_ rfl
  refine wpIn_wide.2 ?_
  simp only [Try.ntmps58, List.size_toArray, List.length_cons, List.length_nil, Nat.reduceAdd, Nat.reduceSub, Array.replicate_succ, Array.replicate_zero, List.push_toArray, List.append_toArray, List.nil_append, List.cons_append]
  go_wp2_with fail
  rw [HW1.out]
  refine cF.out.mono ?_
  rintro e w9 ⟨rfl, hw9⟩
  subst w9
  clear cF x0c
  have hent : ∀ args wx, (callFunc 62 args).run Try.prog wx = .ok (.enter 62 args) wx := enters_of Try.func62 (by kernel_rfl) rfl
  have hXl : ∀ b, (b = w.heap.size + 2 ∨ b = w.heap.size + 3 ∨ F b) → b < W2.heap.size := by
    rintro b (e | e | e)
    · omega
    · omega
    · have := hFl b e
      omega
  have hXn : ¬ (w.heap.size + 1 = w.heap.size + 2 ∨ w.heap.size + 1 = w.heap.size + 3 ∨ F (w.heap.size + 1)) := by
    rintro (e | e | e)
    · omega
    · omega
    · have := hFl _ e
      omega
  go_wp2_with fail
  refine Rf.wp_rangeS (L := L) (w0 := W2) rfl hent HSQ.out (Below.refl _ _) (fun _ => rfl) hXl
    (fun pre W' => ∃ v, (pre.length < 32 ∧ ∀ x ∈ pre, (x : Int) ≠ last) ∧ Boxed W' w.heap.size 3 (nu last) ∧ Boxed W' (w.heap.size + 1) 22 v ∧ W'.ownsRow (W2.heap.size + 2) 3 1 v pre.length (pre.map nun) ∧ Below w.heap.size w W')
    (fun c pre W' => ∃ v, (c = .exit 0 ∧ pre = L) ∧ Boxed W' (w.heap.size + 1) 22 v ∧ W'.ownsRow (W2.heap.size + 2) 3 1 v pre.length (pre.map nun) ∧ Below w.heap.size w W') ?rest ?restx
    ⟨_, ⟨by simp, by simp⟩, y0, y1, World.ownsRow_nil _ _ _ _, hBw2⟩ ?fin ?act ?assign ?body ?done ?stop
  case fin =>
    rintro W' ⟨v, ⟨h1, h2⟩, _⟩
    exact HFN.out h1 h2
  case assign =>
    intro l' x W2 K hK
    gi_wp2
    exact hK
  case rest =>
    rintro pre A B row ⟨v, h2, h3, h4, h5, h6⟩ hg hr
    have ne : ∀ b, b < W2.heap.size → some b ≠ row := fun b hb e => by have := (hr b e.symm).1; omega
    exact ⟨v, h2, h3.kept hg (ne _ (by omega)), h4.kept hg (ne _ (by omega)), hr.row h5 (Nat.le_refl _) hg, h6.grown hg h6.size (fun r e => by have := (hr r e).1; omega)⟩
  case restx =>
    rintro c pre A B row ⟨v, h2, h4, h5, h6⟩ hg hr
    have ne : ∀ b, b < W2.heap.size → some b ≠ row := fun b hb e => by have := (hr b e.symm).1; omega
    exact ⟨v, h2, h4.kept hg (ne _ (by omega)), hr.row h5 (Nat.le_refl _) hg, h6.grown hg h6.size (fun r e => by have := (hr r e).1; omega)⟩
  case body =>
    rintro l' pre x W0 W3 hpre hsz0 ⟨v, ⟨hl32, hnl⟩, h30, h40, h50, h60⟩ hbel
    have h3 : Boxed W3 w.heap.size 3 (nu last) := (hbel.block _ h30.lt).trans h30
    have h4 : Boxed W3 (w.heap.size + 1) 22 v := (hbel.block _ h40.lt).trans h40
    have h5 := own_bel h50 hbel
    have h6 : Below w.heap.size w W3 := h60.trans (hbel.mono h60.size)
    have hsz3 : W2.heap.size + 2 ≤ W3.heap.size := Nat.le_trans hsz0 hbel.size
    have HS : Hid ((pre ++ [x]).map nun = pre.map nun ++ [nun x]) := by show _ = _; simp
    have HLn : Hid ((pre ++ [x]).length = pre.length + 1) := by show _ = _; simp
    have HNL : Hid ((x : Int) ≠ last → ∀ y ∈ pre ++ [x], (y : Int) ≠ last) := fun hx y hy => by
      rcases List.mem_append.1 hy with hy | hy
      · exact hnl y hy
      · simp at hy
        subst hy
        exact hx
    have HE1 : Hid ((x : Int) = last → pre ++ [x] = L) := fun hx => HST.out pre x hpre hx
    have HE2 : Hid (pre.length + 1 = 32 → pre ++ [x] = L) := fun hx => hpre.eq_of_length_le (by rw [HLn.out]; omega)
    obtain ⟨m, hm'⟩ : ∃ m, pre.length = m := ⟨_, rfl⟩
    rw [hm'] at h5 HLn hl32 HE2
    obtain ⟨a, cap, rfl, hcap, hmax, _⟩ := Nm.own_shape h5
    have hc3 := h3.cell
    have hc4 := h4.cell
    unfold maxLen at hmax
    clear hm' hnl h30 h40 h50 h60 hpre
    by_cases hq : (x : Int) = last
    · have hb1 : ((x : Int) == last) = true := by simpa using hq
      have HPL := Hid.mk' (HE1.out hq)
      clear hq HE1 HE2 HNL
      gi_wp2_with (gi_at_builtin; refine wpListIn_append_own _ rfl _ _ 22 rfl (W2.heap.size + 2) 3 i0 (.int .i64 0) 1 8 Try.underlying22 ji hz0 hz1 hz2 rfl (by decide) _ _ _ rfl (h5.alloc _) ⟨W3.heap.size, 0, none⟩ 1 1 [nun x] rfl rfl (cell_one_new _ _ _) (by simp [Value.oneCell']) (by unfold maxLen; omega) (by omega) (by simp; omega) ?_; intro v' w1 hown' hgrow _; obtain ⟨g', cap', rfl⟩ := ownsRow_succ hown'; obtain ⟨hv1, hv2, hr2, hk2, hb2, ho2⟩ := Rf.collected (X := fun b => b = w.heap.size + 2 ∨ b = w.heap.size + 3 ∨ F b) (lo := W2.heap.size) (n := w.heap.size) h4 (by decide) h5 (by omega) hXn hXl (by omega) hsz3 (by omega) hown' hgrow; have hc1 := hv1.cell; have hf1 := hv1.frozen; have hcs := hv2.cell; have hcl := (ho2 _ _ _ (by omega) (by omega) h3).cell)
      exact ⟨hk2, _, ⟨rfl, HPL.out⟩, hv2, by rw [HS.out, HLn.out]; exact hr2, h6.trans (hb2.mono (Nat.le_refl _))⟩
    · have hb1 : ((x : Int) == last) = false := by simpa using hq
      have HNL2 := Hid.mk' (HNL.out hq)
      clear hq HE1 HNL
      by_cases hm : m + 1 = 32
      · have hb2' : ((m : Int) + 1 == 32) = true := by simp; omega
        have HPL := Hid.mk' (HE2.out hm)
        clear hm HE2
        gi_wp2_with (gi_at_builtin; refine wpListIn_append_own _ rfl _ _ 22 rfl (W2.heap.size + 2) 3 i0 (.int .i64 0) 1 8 Try.underlying22 ji hz0 hz1 hz2 rfl (by decide) _ _ _ rfl (h5.alloc _) ⟨W3.heap.size, 0, none⟩ 1 1 [nun x] rfl rfl (cell_one_new _ _ _) (by simp [Value.oneCell']) (by unfold maxLen; omega) (by omega) (by simp; omega) ?_; intro v' w1 hown' hgrow _; obtain ⟨g', cap', rfl⟩ := ownsRow_succ hown'; obtain ⟨hv1, hv2, hr2, hk2, hb2, ho2⟩ := Rf.collected (X := fun b => b = w.heap.size + 2 ∨ b = w.heap.size + 3 ∨ F b) (lo := W2.heap.size) (n := w.heap.size) h4 (by decide) h5 (by omega) hXn hXl (by omega) hsz3 (by omega) hown' hgrow; have hc1 := hv1.cell; have hf1 := hv1.frozen; have hcs := hv2.cell; have hcl := (ho2 _ _ _ (by omega) (by omega) h3).cell)
        exact ⟨hk2, _, ⟨rfl, HPL.out⟩, hv2, by rw [HS.out, HLn.out]; exact hr2, h6.trans (hb2.mono (Nat.le_refl _))⟩
      · have hb2' : ((m : Int) + 1 == 32) = false := by simp; omega
        have hm32 : m + 1 < 32 := by omega
        clear hm HE2
        gi_wp2_with (gi_at_builtin; refine wpListIn_append_own _ rfl _ _ 22 rfl (W2.heap.size + 2) 3 i0 (.int .i64 0) 1 8 Try.underlying22 ji hz0 hz1 hz2 rfl (by decide) _ _ _ rfl (h5.alloc _) ⟨W3.heap.size, 0, none⟩ 1 1 [nun x] rfl rfl (cell_one_new _ _ _) (by simp [Value.oneCell']) (by unfold maxLen; omega) (by omega) (by simp; omega) ?_; intro v' w1 hown' hgrow _; obtain ⟨g', cap', rfl⟩ := ownsRow_succ hown'; obtain ⟨hv1, hv2, hr2, hk2, hb2, ho2⟩ := Rf.collected (X := fun b => b = w.heap.size + 2 ∨ b = w.heap.size + 3 ∨ F b) (lo := W2.heap.size) (n := w.heap.size) h4 (by decide) h5 (by omega) hXn hXl (by omega) hsz3 (by omega) hown' hgrow; have hc1 := hv1.cell; have hf1 := hv1.frozen; have hcs := hv2.cell; have hcl := (ho2 _ _ _ (by omega) (by omega) h3).cell)
        exact ⟨hk2, _, ⟨by rw [HLn.out]; exact hm32, HNL2.out⟩, ho2 _ _ _ (by omega) (by omega) h3, hv2, by rw [HS.out, HLn.out]; exact hr2, h6.trans (hb2.mono (Nat.le_refl _))⟩
  case done =>
    rintro W7 ⟨v, _, h3, h4, h5, h6⟩ hK
    have hc4 := h4.cell
    have hlD := (Array.getElem?_eq_some_iff.1 hK).1
    have c9 := Hid.mk' (last_step w W7 _ (W2.heap.size + 1) v L h6 (own_monoA h5 (by omega)) (by omega) hfew)
    obtain ⟨n, hn⟩ : ∃ n, L.length = n := ⟨_, rfl⟩
    rw [hn] at h5
    obtain ⟨a, cap, rfl, _⟩ := Nm.own_shape h5
    have HK := Hid.mk' hK
    have hsw : w.heap.size ≤ W2.heap.size := by omega
    clear h4 h5 h6 hn hK y0 y1 hBw2 hs2 hs1 hXl hXn
    go_wp2_with fail
    refine c9.out.mono ?_
    rintro e W8 ⟨Bl, rfl, hit, hXb, hb8, hb78⟩
    have HIT := Hid.mk' hit
    have HB8 := Hid.mk' hb8
    have HK8 : Hid (W8.heap[W2.heap.size]? = some (.deferred (some []))) := (hb78.block _ hlD).trans HK.out
    have HXB := Hid.mk' hXb
    clear hit hb8 hb78 c9 hc4 hXb hlD
    go_wp2
    refine ⟨by simp, .inl ⟨_, _, rfl, run_takeDeferred HK8.out, ?_⟩⟩
    refine ⟨_, results_tmp rfl _ _ _, _, _, rfl, HIT.out.keep (keep_put _ _ _) (fun b hb e => by have := HXB.out b hb; omega), fun b hb => by have := HXB.out b hb; omega, ?_⟩
    exact HB8.out.grown (grownBy_putObj' _ _ _) HB8.out.size (fun r e => by cases e; exact hsw)
  case stop =>
    rintro c pre W7 hpre ⟨v, ⟨rfl, hpL⟩, h4, h5, h6⟩ hK
    rw [hpL] at h5
    clear hpre hpL
    have hc4 := h4.cell
    have hlD := (Array.getElem?_eq_some_iff.1 hK).1
    have c9 := Hid.mk' (last_step w W7 _ (W2.heap.size + 1) v L h6 (own_monoA h5 (by omega)) (by omega) hfew)
    obtain ⟨n, hn⟩ : ∃ n, L.length = n := ⟨_, rfl⟩
    rw [hn] at h5
    obtain ⟨a, cap, rfl, _⟩ := Nm.own_shape h5
    have HK := Hid.mk' hK
    have hsw : w.heap.size ≤ W2.heap.size := by omega
    clear h4 h5 h6 hn hK y0 y1 hBw2 hs2 hs1 hXl hXn
    go_wp2_with fail
    refine c9.out.mono ?_
    rintro e W8 ⟨Bl, rfl, hit, hXb, hb8, hb78⟩
    have HIT := Hid.mk' hit
    have HB8 := Hid.mk' hb8
    have HK8 : Hid (W8.heap[W2.heap.size]? = some (.deferred (some []))) := (hb78.block _ hlD).trans HK.out
    have HXB := Hid.mk' hXb
    clear hit hb8 hb78 c9 hc4 hXb hlD
    go_wp2
    refine ⟨by simp, .inl ⟨_, _, rfl, run_takeDeferred HK8.out, ?_⟩⟩
    refine ⟨_, results_tmp rfl _ _ _, _, _, rfl, HIT.out.keep (keep_put _ _ _) (fun b hb e => by have := HXB.out b hb; omega), fun b hb => by have := HXB.out b hb; omega, ?_⟩
    exact HB8.out.grown (grownBy_putObj' _ _ _) HB8.out.size (fun r e => by cases e; exact hsw)

theorem all_p (H : KeepC Rep) (HX : BlockC Rep) (CG : GetC Rep) : AllC Rep := fun w p F A last h hg _ => all_u H HX CG w p F A last h hg

end
end Rg
end Go.Proofs.Ythabnombfbehkaa
