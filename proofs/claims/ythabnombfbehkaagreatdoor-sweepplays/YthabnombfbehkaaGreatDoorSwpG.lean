import Derived.Test.YthabnombfbehkaaGreatDoorSwpD
import Derived.Test.YthabnombfbehkaaGreatDoorArnA
/- The laws' own helpers: all, same. -/
namespace Go.Proofs.YthabnombfbehkaaGreatDoor
set_option linter.ambiguousOpen false
open Go.RowKit
namespace Sw
open An Rg Ft Lv
set_option linter.unusedSimpArgs false
set_option linter.unusedVariables false
attribute [local go_sem] Oper.semAt_some

set_option maxRecDepth 100000 in
theorem funcG_nil (gf : Nat) (lb : Array Value) (w : World) : (binOp .eql 85 (.func (.func gf) #[] lb) .nilFunc).run Tryz.prog w = .ok (.bool false) w := by kernel_rfl

theorem results_intsG {fn : Func} {p : Tmp} (h : fn.results = #[.cell p 55]) (tmps : Array Value) (w : World) (g : Nat) (a : Option Addr) (m c : Nat) (hp : tmps.getD p undef = .pointer (some ⟨g, 0, none⟩)) (hg : w.cell? ⟨g, 0, none⟩ = some (.slice a m c)) :
    (results fn tmps).run Tryz.prog w = .ok (.slice a m c) w := by
  have hl : (loadVar 55 ⟨g, 0, none⟩).run Tryz.prog w = .ok (.slice a m c) w := by
    simp [loadVar, go_sem, hg]
  have hp' : tmps[p]?.getD undef = .pointer (some ⟨g, 0, none⟩) := by simpa using hp
  simp [results, h, hp', asAddr, hl]

set_option maxRecDepth 1000000 in
set_option maxHeartbeats 8000000 in
theorem all_any {R : RepTy} (K : ∀ q l, KeepC (R.ar q l)) (CA : AllG R) (w : World) (p q : Nat) (F : Nat → Prop) (A : Arn) (l : Int) (h : R w p q F A l) (hg : An.Good A) (hok : okL l) :
    Calls Tryz.prog 17 #[ptr q] w fun e w' => ∃ v, e = .returned v ∧ w'.ownsRow w.heap.size 3 1 v (allG A.sl l).length ((allG A.sl l).map nun) ∧ Below w.heap.size w w' := by
  obtain ⟨i0, ji, hz0, hz1, hz2⟩ := info_parts info_int
  have hB1 : Below w.heap.size w ((w.alloc (.cells #[.slice none 0 0] 55)).alloc (.cells #[.slice none 0 0] 55)) := ((Below.refl _ _).alloc (Nat.le_refl _) _).alloc (by simp) _
  have x0 : Boxed ((w.alloc (.cells #[.slice none 0 0] 55)).alloc (.cells #[.slice none 0 0] 55)) w.heap.size 55 (.slice none 0 0) := (Boxed.new w _ _).alloc _
  have x1 : Boxed ((w.alloc (.cells #[.slice none 0 0] 55)).alloc (.cells #[.slice none 0 0] 55)) (w.heap.size + 1) 55 (.slice none 0 0) := by
    have := Boxed.new (w.alloc (.cells #[.slice none 0 0] 55)) 55 (.slice none 0 0)
    simpa using this
  have hs1 : ((w.alloc (.cells #[.slice none 0 0] 55)).alloc (.cells #[.slice none 0 0] 55)).heap.size = w.heap.size + 2 := by simp
  obtain ⟨W1, hW1⟩ : ∃ W1, (w.alloc (.cells #[.slice none 0 0] 55)).alloc (.cells #[.slice none 0 0] 55) = W1 := ⟨_, rfl⟩
  rw [hW1] at hB1 x0 x1 hs1
  have HW1 := Hid.mk' hW1
  have hfew : (allG A.sl l).length ≤ 32 := (allG_gl _ _).len
  obtain ⟨L, hL⟩ : ∃ L, allG A.sl l = L := ⟨_, rfl⟩
  rw [hL] at hfew ⊢
  have cR : Hid (∀ wx, Below W1.heap.size W1 wx → Calls Tryz.prog 33 #[ptr q] wx fun e w' => ∃ gf lb, e = .returned (.func (.func gf) #[] lb) ∧ Hid (Below W1.heap.size W1 w' ∧ Below wx.heap.size wx w' ∧ ∃ X, IterA w' (.func (.func gf) #[] lb) X (allG A.sl l) ∧ ∀ b, X b → wx.heap.size ≤ b)) := fun wx hb => by
    refine (CA wx p q F A l ((K q l).below ((K q l).below h hB1) hb) hg hok).mono ?_
    rintro e w' ⟨fv, X, rfl, hit, hX, hb'⟩
    obtain ⟨gf, lb, k, rfl, rest⟩ := hit
    exact ⟨gf, lb, rfl, hb.trans (hb'.mono hb.size), hb', X, ⟨gf, lb, k, rfl, rest⟩, hX⟩
  simp only [hL] at cR
  have HB1 := Hid.mk' hB1
  have HX0 := Hid.mk' x0
  have HX1 := Hid.mk' x1
  clear h hg hok hW1 hL hB1 x0 x1 K CA
  refine (callsIn_wide (n := 8)).1 ?_
  refine callsIn_of_wp_marks Tryz.func17 rfl trivial ?_ rfl
  refine wpIn_wide.2 ?_
  simp only [Tryz.ntmps17, List.size_toArray, List.length_cons, List.length_nil, Nat.reduceAdd, Nat.reduceSub, Array.replicate_succ, Array.replicate_zero, List.push_toArray, List.append_toArray, List.nil_append, List.cons_append]
  go_upto_region 2 with fail
  rw [HW1.out]
  go_wp2_with fail
  refine (cR.out _ (Below.refl _ _)).mono ?_
  rintro e w2 ⟨gf1, lb1, rfl, hQ2⟩
  have hn1 := funcG_nil gf1 lb1
  go_wp2_with fail
  clear hn1
  refine (cR.out _ hQ2.out.1).mono ?_
  rintro e w5 ⟨gf, lb, rfl, hQ5⟩
  obtain ⟨hb5, _, X, hit, hXn⟩ := hQ5.out
  obtain ⟨gf', lb', kk, e9, hent, hXl, hsq⟩ := hit
  simp only [Value.func.injEq, Fn.func.injEq, true_and] at e9
  obtain ⟨rfl, rfl⟩ := e9
  have HSQ := Hid.mk' (hsq w5 (Nat.le_refl _) (fun _ _ => rfl))
  have HB5 := Hid.mk' hb5
  have hs5 := hb5.size
  have hs4 := hQ2.out.1.size
  have hXn1 : ∀ b, X b → w.heap.size + 2 ≤ b := fun b hb => by have := hXn b hb; omega
  have y1 : Boxed w5 (w.heap.size + 1) 55 (.slice none 0 0) := (hb5.block _ (by omega)).trans HX1.out
  have y0 : Boxed w5 w.heap.size 55 (.slice none 0 0) := (hb5.block _ (by omega)).trans HX0.out
  have HBw : Hid (Below w.heap.size w w5) := HB1.out.trans (hb5.mono HB1.out.size)
  clear hsq hb5 hQ2 hQ5 cR
  go_wp2_with fail
  refine Rf.wp_range (L := L) (w0 := w5) rfl hent HSQ.out (Below.refl _ _) (fun _ => rfl) hXl
    (fun pre W' => ∃ v, Boxed W' (w.heap.size + 1) 55 v ∧ W'.ownsRow (w5.heap.size + 2 + kk) 3 1 v pre.length (pre.map nun) ∧ Rf.But (w.heap.size + 1) w5 W')
    (fun _ _ _ => False) ?rest (fun _ _ _ _ _ hs _ _ => hs)
    ⟨_, y1, World.ownsRow_nil _ _ _ _, Rf.But.refl _ _⟩ ?act ?assign ?body ?done (fun _ _ _ _ h _ => h.elim)
  case assign =>
    intro l' x W2 K hK
    gi_wp2
    exact hK
  case rest =>
    rintro pre A B row ⟨v, h2, h4, h5⟩ hg hr
    exact ⟨v, h2.kept hg (fun e => by have := (hr _ e.symm).1; omega), hr.row h4 (Nat.le_refl _) hg, h5.rest (by omega) hg hr⟩
  case body =>
    rintro l' pre x W2 hpre hsz ⟨v, h2, h4, h5⟩
    have hc2 := h2.cell
    have hl64 : pre.length + 1 ≤ 32 := by
      have h1 := hpre.length_le
      simp at h1; omega
    have HSp : Hid ((pre ++ [x]).map nun = pre.map nun ++ [nun x]) := by show _ = _; simp
    have HLn : Hid ((pre ++ [x]).length = pre.length + 1) := by show _ = _; simp
    obtain ⟨mm, hmm⟩ : ∃ mm, pre.length = mm := ⟨_, rfl⟩
    rw [hmm] at h4 hl64 HLn
    have hgt : ¬ (64 : Int) < (mm : Int) + 1 := by omega
    clear hmm
    gi_wp2_with (gi_at_builtin; refine wpListIn_append_own _ rfl _ _ 55 rfl (w5.heap.size + 2 + kk) 3 i0 (.int .i64 0) 1 8 Tryz.underlying55 ji hz0 hz1 hz2 rfl (by decide) _ _ _ rfl (h4.alloc _) ⟨W2.heap.size, 0, none⟩ 1 1 [nun x] rfl rfl (cell_one_new _ _ _) (by simp [Value.oneCell']) (by unfold maxLen; omega) (by omega) (by simp; omega) ?_; intro v' w1 hown' hgrow _; obtain ⟨g', cap', rfl⟩ := ownsRow_succ hown'; obtain ⟨hv1, hv2, hr2, hk2, hb2, ho2⟩ := Rf.collected (X := X) (lo := w5.heap.size) (n := w.heap.size + 1) h2 (by decide) h4 (by omega) (fun h => by have := hXn1 _ h; omega) (fun b hb => hXl b hb) (by omega) hsz (Nat.le_refl _) hown' hgrow; have hbt := Rf.But.step (v' := .slice (some ⟨g', 0, none⟩) (mm + 1) cap') h5 h4 (by omega) hsz (by omega) hgrow; have hc1 := hv1.cell; have hf1 := hv1.frozen; have hcs := hv2.cell)
    exact ⟨hk2, _, hv2, by rw [HSp.out, HLn.out]; exact hr2, hbt⟩
  case done =>
    rintro W7 ⟨v1, h2, h4, h5⟩ hK7
    obtain ⟨m, hm⟩ : ∃ m, L.length = m := ⟨_, rfl⟩
    rw [hm] at h4
    have HM := Hid.mk' hm
    obtain ⟨a1, c1, rfl, _⟩ := Nm.own_shape h4
    have hc1 := h2.cell
    have z0 := h5.boxed y0 (by omega)
    have hc0 := z0.cell
    have hf0 := z0.frozen
    have hB7 : Below w.heap.size w W7 := HBw.out.trans (h5.1.mono (by omega))
    have HR8 : Hid (Boxed (W7.setCell ⟨w.heap.size, 0, none⟩ (.slice a1 m c1)) w.heap.size 55 (.slice a1 m c1)) := z0.set _
    have hO8 : (W7.setCell ⟨w.heap.size, 0, none⟩ (.slice a1 m c1)).ownsRow (w5.heap.size + 2 + kk) 3 1 (.slice a1 m c1) m (L.map nun) := Rf.own_other h4 (by omega) _
    have hK8 : (W7.setCell ⟨w.heap.size, 0, none⟩ (.slice a1 m c1)).heap[w5.heap.size]? = some (.deferred (some [])) := (Below.heap_setCell _ _ _ _ (fun e => by have e' : w5.heap.size = w.heap.size := e; omega)).trans hK7
    have HB8 : Hid (Below w.heap.size w (W7.setCell ⟨w.heap.size, 0, none⟩ (.slice a1 m c1))) := hB7.setCell (p := ⟨w.heap.size, 0, none⟩) (Nat.le_refl _) _
    have HO9 := Hid.mk' (own_monoA (ownsRow_putObj hO8 (.deferred none) hK8 rfl) (show w.heap.size ≤ w5.heap.size + 2 + kk by omega))
    have HK8 := Hid.mk' hK8
    have hsw : w.heap.size ≤ w5.heap.size := by omega
    have hnn : w.heap.size ≠ w5.heap.size := by omega
    clear h2 h4 h5 hK7 hB7 hO8 hK8 z0 y0 y1 hs1 hs4 hs5 hm
    go_wp2
    refine ⟨by simp, .inl ⟨_, _, rfl, run_takeDeferred HK8.out, ?_⟩⟩
    refine ⟨_, results_intsG rfl _ _ w.heap.size a1 m c1 rfl (Boxed.cell ((World.putObj_heap_other hnn).trans HR8.out)), _, rfl, ?_, ?_⟩
    · rw [HM.out]
      exact HO9.out
    · exact HB8.out.grown (grownBy_putObj' _ _ _) HB8.out.size (fun r e => by cases e; exact hsw)

set_option maxRecDepth 1000000 in
set_option maxHeartbeats 8000000 in
theorem same19 {Rep : World → Nat → (Nat → Prop) → Arn → Prop} (H : KeepC Rep) (CG : GetC Rep) (CF : FreesC Rep) (base : Nat) (w : World) (p g : Nat) (F G : Nat → Prop) (A1 A2 : Arn) (h : Rep w p F A1) (hr : RepA base w g G A2) (hg : An.Good A1) (hs : A1.sl = A2.sl) (hf : A1.fr = A2.fr) :
    Calls Tryz.prog 15 #[ptr p, ptr g] w fun e w' => e = .returned (.bool true) ∧ Below w.heap.size w w' := by
  have hl2 : A2.sl.length = 32 := by rw [← hs]; exact hg.len
  obtain ⟨b, cap, fv, hRA, ⟨hc1, hc2⟩, _, _⟩ := RepA.open hr hl2
  have cG : Hid (∀ wx (k : Nat), k < 32 → Below w.heap.size w wx → Calls Tryz.prog 31 #[ptr p, nu k] wx fun e w' => e = .returned (.tuple #[(A2.sl.getD k bare).v, .nilIface]) ∧ Below wx.heap.size wx w') := fun wx k hk hb => by
    have := CG wx p F A1 k (H.below h hb) hg (by omega)
    rw [(at_in A1 k hk).1, (at_in A1 k hk).2, hs] at this
    exact this
  have HR : Hid (∀ wx, Below w.heap.size w wx → wx.cell? ⟨g, 0, none⟩ = some (.slice (some ⟨b, 0, none⟩) 32 cap) ∧ ∀ k : Nat, k < 32 → wx.rangeAt b (k * 17) (A2.sl.getD k bare).cells) := fun wx hb => by
    have hx := hRA.below hb
    refine ⟨hx.cells.1, fun k hk => ?_⟩
    obtain ⟨b', cap', e, _, _, hr', _⟩ := hx.slot hl2 k hk
    simp only [Value.slice.injEq, Option.some.injEq, Addr.mk.injEq, and_true, true_and] at e
    obtain ⟨rfl, rfl⟩ := e
    exact hr'
  have cF : Hid (∀ wx, Below w.heap.size w wx → Calls Tryz.prog 32 #[ptr p] wx fun e w' => ∃ gf lb, e = .returned (.func (.func gf) #[] lb) ∧ Hid (Below wx.heap.size wx w' ∧ ∃ X, IterA w' (.func (.func gf) #[] lb) X A2.fr ∧ ∀ b, X b → wx.heap.size ≤ b)) := fun wx hb => by
    have := CF wx p F A1 (H.below h hb) hg
    rw [hf] at this
    refine this.mono ?_
    rintro e w' ⟨fv, X, rfl, hit, hX, hb'⟩
    obtain ⟨gf, lb, k, rfl, rest⟩ := hit
    exact ⟨gf, lb, rfl, hb', X, ⟨gf, lb, k, rfl, rest⟩, hX⟩
  have HFR : Hid (∀ wx, Below w.heap.size w wx → wx.cell? ⟨g, 1, none⟩ = some fv ∧ RdN wx fv A2.fr) := fun wx hb => ⟨(hRA.below hb).cells.2.1, own_rdN (hRA.below hb).fr⟩
  have hfew : A2.fr.length ≤ 32 := by rw [← hf]; exact hg.few
  obtain ⟨i0, ji, hz0, hz1, hz2⟩ := info_parts info_int
  clear H CG CF h hr hg hs hRA hl2 hf
  refine (callsIn_wide (n := 8)).1 ?_
  refine callsIn_of_wp_marks Tryz.func15 rfl trivial ?_ rfl
  refine wpIn_wide.2 ?_
  simp only [Tryz.ntmps15, List.size_toArray, List.length_cons, List.length_nil, Nat.reduceAdd, Nat.reduceSub, Array.replicate_succ, Array.replicate_zero, List.push_toArray, List.append_toArray, List.nil_append, List.cons_append]
  go_wp2
  go_loopw [5] (fun iv wr => ∃ k : Nat, k ≤ 32 ∧ iv = nun k ∧ Hid (Below w.heap.size w wr)) (fun iv _ => 32 - (intOf iv).toNat)
  case atStart => exact ⟨0, by omega, rfl, Below.refl _ _⟩
  case round =>
    obtain ⟨k, hk, rfl, HB⟩ := hrel
    by_cases hlt : k < 32
    · have hkI : (k : Int) < 32 := by omega
      have c1 := Hid.mk' (cG.out wr k hlt HB.out)
      obtain ⟨x, hx⟩ : ∃ x, A2.sl.getD k bare = x := ⟨_, rfl⟩
      have HRx : Hid (∀ wx, Below w.heap.size w wx → wx.cell? ⟨g, 0, none⟩ = some (.slice (some ⟨b, 0, none⟩) 32 cap) ∧ wx.rangeAt b (k * 17) x.cells) := fun wx hb => ⟨(HR.out wx hb).1, by rw [← hx]; exact (HR.out wx hb).2 k hlt⟩
      rw [hx] at c1
      have hnq := neq_self x
      clear hx
      go_wp2_with fail
      refine c1.out.mono ?_
      rintro e w3 ⟨rfl, hb3⟩
      have HB3 : Hid (Below w.heap.size w w3) := HB.out.trans (hb3.mono HB.out.size)
      have HZ3 := Hid.mk' (lone_zero w3)
      clear hb3 c1
      go_wp2_with (first | (refine wpList_store_lone rfl _ _ rfl w3.heap.size rfl x rfl slt0 HZ3.out ?_; intro w4 hl4 hg4 hs4; have HL4 := Hid.mk' hl4; have HB4 : Hid (Below w.heap.size w w4) := ((HB3.out.alloc HB3.out.size _).grown hg4 (HB3.out.alloc HB3.out.size _).size (fun r e => by cases e; exact HB3.out.size)); clear hl4 hg4 hs4) | fail)
      have hS4 : Lone w4 w3.heap.size x ∧ w4.cell? ⟨g, 0, none⟩ = some (.slice (some ⟨b, 0, none⟩) 32 cap) ∧ w4.rangeAt b (k * 17) x.cells := ⟨HL4.out, HRx.out w4 HB4.out⟩
      refine wp_region_noPanic ?_
      refine wp_region_held_drew (S := fun w' => Lone w' w3.heap.size x ∧ w'.cell? ⟨g, 0, none⟩ = some (.slice (some ⟨b, 0, none⟩) 32 cap) ∧ w'.rangeAt b (k * 17) x.cells) (by kernel_rfl) hS4 (fun hHeld => ?_)
      refine wpAnyH_take (i := 0) (v := ?_) rfl (by kernel_rfl) (by kernel_rfl) (by kernel_rfl) (fun _ _ _ h => h) (Or.inl ⟨by rfl, ?_⟩) hHeld ?_
      rotate_left
      · (intro w' hS'; go_simp <;> with_reducible rfl)
      simp only [Act.put, List.getElem_toArray, List.getElem_cons_succ, List.getElem_cons_zero, List.setIfInBounds_toArray, List.set]
      refine wpAnyH_take (i := 1) (v := ?_) rfl (by kernel_rfl) (by kernel_rfl) (by kernel_rfl) (fun _ _ _ h => h) (Or.inl ⟨by rfl, ?_⟩) hHeld ?_
      rotate_left
      · (intro w' hS'; go_simp <;> with_reducible rfl)
      simp only [Act.put, List.getElem_toArray, List.getElem_cons_succ, List.getElem_cons_zero, List.setIfInBounds_toArray, List.set]
      refine wpAnyH_take (i := 2) (v := ?_) rfl (by kernel_rfl) (by kernel_rfl) (by kernel_rfl) (fun _ _ _ h => h) (Or.inl ⟨by rfl, ?_⟩) hHeld ?_
      rotate_left
      · (intro w' hS'; go_simp <;> with_reducible rfl)
      simp only [Act.put, List.getElem_toArray, List.getElem_cons_succ, List.getElem_cons_zero, List.setIfInBounds_toArray, List.set]
      refine wpAnyH_take (i := 3) (v := _) rfl (by kernel_rfl) (by kernel_rfl) (by kernel_rfl) (fun _ _ _ h => h) (yieldsIf_load_mid (by rfl) 50 _ rfl w3.heap.size 0 rfl x.cells _ (fun w' h => h.1.range) Tryz.underlying50 rfl size_slt) hHeld ?_
      simp only [Act.put, List.getElem_toArray, List.getElem_cons_succ, List.getElem_cons_zero, List.setIfInBounds_toArray, List.set]
      refine wpAnyH_take (i := 4) (v := ?_) rfl (by kernel_rfl) (by kernel_rfl) (by kernel_rfl) (fun _ _ _ h => h) (Or.inl ⟨by rfl, ?_⟩) hHeld ?_
      rotate_left
      · (intro w' hS'; go_simp <;> with_reducible rfl)
      simp only [Act.put, List.getElem_toArray, List.getElem_cons_succ, List.getElem_cons_zero, List.setIfInBounds_toArray, List.set]
      refine wpAnyH_take (i := 5) (v := ?_) rfl (by kernel_rfl) (by kernel_rfl) (by kernel_rfl) (fun _ _ _ h => h) (Or.inl ⟨by rfl, ?_⟩) hHeld ?_
      rotate_left
      · (intro w' hS'; go_simp <;> with_reducible rfl)
      simp only [Act.put, List.getElem_toArray, List.getElem_cons_succ, List.getElem_cons_zero, List.setIfInBounds_toArray, List.set]
      refine wpAnyH_take (i := 6) (v := ?_) rfl (by kernel_rfl) (by kernel_rfl) (by kernel_rfl) (fun _ _ _ h => h) (Or.inl ⟨by rfl, ?_⟩) hHeld ?_
      rotate_left
      · (intro w' hS'; go_simp <;> with_reducible rfl)
      simp only [Act.put, List.getElem_toArray, List.getElem_cons_succ, List.getElem_cons_zero, List.setIfInBounds_toArray, List.set]
      refine wpAnyH_take (i := 7) (v := ?_) rfl (by kernel_rfl) (by kernel_rfl) (by kernel_rfl) (fun _ _ _ h => h) (Or.inl ⟨by rfl, ?_⟩) hHeld ?_
      rotate_left
      · (intro w' hS'; go_simp <;> with_reducible rfl)
      simp only [Act.put, List.getElem_toArray, List.getElem_cons_succ, List.getElem_cons_zero, List.setIfInBounds_toArray, List.set]
      refine wpAnyH_take (i := 8) (v := ?_) rfl (by kernel_rfl) (by kernel_rfl) (by kernel_rfl) (fun _ _ _ h => h) (Or.inl ⟨by rfl, ?_⟩) hHeld ?_
      rotate_left
      · (intro w' hS'; go_simp <;> with_reducible rfl)
      simp only [Act.put, List.getElem_toArray, List.getElem_cons_succ, List.getElem_cons_zero, List.setIfInBounds_toArray, List.set]
      refine wpAnyH_take (i := 9) (v := ?_) rfl (by kernel_rfl) (by kernel_rfl) (by kernel_rfl) (fun _ _ _ h => h) (Or.inl ⟨by rfl, ?_⟩) hHeld ?_
      rotate_left
      · (intro w' hS'; go_simp <;> with_reducible rfl)
      simp only [Act.put, List.getElem_toArray, List.getElem_cons_succ, List.getElem_cons_zero, List.setIfInBounds_toArray, List.set]
      refine wpAnyH_take (i := 10) (v := _) rfl (by kernel_rfl) (by kernel_rfl) (by kernel_rfl) (fun _ _ _ h => h) (yieldsIf_load_mid (by rfl) 50 _ rfl b (k * 17) rfl x.cells _ (fun w' h => h.2.2) Tryz.underlying50 rfl size_slt) hHeld ?_
      simp only [Act.put, List.getElem_toArray, List.getElem_cons_succ, List.getElem_cons_zero, List.setIfInBounds_toArray, List.set]
      refine wpAnyH_take (i := 11) (v := ?_) rfl (by kernel_rfl) (by kernel_rfl) (by kernel_rfl) (fun _ _ _ h => h) (Or.inl ⟨by rfl, ?_⟩) hHeld ?_
      rotate_left
      · (intro w' hS'; go_simp <;> with_reducible rfl)
      simp only [Act.put, List.getElem_toArray, List.getElem_cons_succ, List.getElem_cons_zero, List.setIfInBounds_toArray, List.set]
      refine wpAnyH_take (i := 12) (v := ?_) rfl (by kernel_rfl) (by kernel_rfl) (by kernel_rfl) (fun _ _ _ h => h) (Or.inl ⟨by rfl, ?_⟩) hHeld ?_
      rotate_left
      · (intro w' hS'; go_simp <;> with_reducible rfl)
      simp only [Act.put, List.getElem_toArray, List.getElem_cons_succ, List.getElem_cons_zero, List.setIfInBounds_toArray, List.set]
      refine wpAnyH_done (by kernel_rfl) ?_ _
      refine NoPanic.normal ?_
      have HB5 : Hid (Below w.heap.size w w4.drew) := HB4.out.drew
      generalize w4.drew = w5 at *
      clear hHeld hS4
      go_wp2
      go_roundw
      case rel => exact ⟨k + 1, by omega, by go_num, HB5⟩
      case measure => simp [intOf]; omega
    · obtain rfl : k = 32 := by omega
      clear cG HR
      go_upto_region 8 with fail
      have hB1 : Below wr.heap.size wr (wr.alloc (.cells #[.slice none 0 0] 55)) := (Below.refl _ _).alloc (Nat.le_refl _) _
      have x1 : Boxed (wr.alloc (.cells #[.slice none 0 0] 55)) wr.heap.size 55 (.slice none 0 0) := Boxed.new wr _ _
      have hs1 : (wr.alloc (.cells #[.slice none 0 0] 55)).heap.size = wr.heap.size + 1 := by simp
      obtain ⟨W1, hW1⟩ : ∃ W1, wr.alloc (.cells #[.slice none 0 0] 55) = W1 := ⟨_, rfl⟩
      rw [hW1] at hB1 x1 hs1 ⊢
      have hBw : Below w.heap.size w W1 := HB.out.trans (hB1.mono HB.out.size)
      go_wp2_with fail
      refine (cF.out _ hBw).mono ?_
      rintro e w2 ⟨gf1, lb1, rfl, hQ2⟩
      have hn1 := funcG_nil gf1 lb1
      have hb2 : Below w.heap.size w w2 := hBw.trans (hQ2.out.1.mono hBw.size)
      go_wp2_with fail
      clear hn1
      refine (cF.out _ hb2).mono ?_
      rintro e w5 ⟨gf, lb, rfl, hQ5⟩
      obtain ⟨hb5', X, hit, hXn⟩ := hQ5.out
      obtain ⟨gf', lb', kk, e9, hent, hXl, hsq⟩ := hit
      simp only [Value.func.injEq, Fn.func.injEq, true_and] at e9
      obtain ⟨rfl, rfl⟩ := e9
      have HSQ := Hid.mk' (hsq w5 (Nat.le_refl _) (fun _ _ => rfl))
      have hb5 : Below W1.heap.size W1 w5 := hQ2.out.1.trans (hb5'.mono hQ2.out.1.size)
      have hs5 := hb5.size
      have hs2 := hQ2.out.1.size
      have hsw := HB.out.size
      have hXn1 : ∀ b, X b → wr.heap.size + 1 ≤ b := fun b hb => by have := hXn b hb; omega
      have y1 : Boxed w5 wr.heap.size 55 (.slice none 0 0) := (hb5.block _ (by omega)).trans x1
      have HBw : Hid (Below w.heap.size w w5) := hBw.trans (hb5.mono hBw.size)
      clear hsq hb5 hb5' hb2 hQ2 hQ5 cF hB1 x1 hW1 hBw HB
      go_wp2_with fail
      refine Rf.wp_range (L := A2.fr) (w0 := w5) rfl hent HSQ.out (Below.refl _ _) (fun _ => rfl) hXl
        (fun pre W' => ∃ v, Boxed W' wr.heap.size 55 v ∧ W'.ownsRow (w5.heap.size + 2 + kk) 3 1 v pre.length (pre.map nun) ∧ Rf.But wr.heap.size w5 W')
        (fun _ _ _ => False) ?rest (fun _ _ _ _ _ hs _ _ => hs)
        ⟨_, y1, World.ownsRow_nil _ _ _ _, Rf.But.refl _ _⟩ ?act ?assign ?body ?done (fun _ _ _ _ h _ => h.elim)
      case assign =>
        intro l' x W2 K hK
        gi_wp2
        exact hK
      case rest =>
        rintro pre A B row ⟨v, h2, h4, h5⟩ hg hr
        exact ⟨v, h2.kept hg (fun e => by have := (hr _ e.symm).1; omega), hr.row h4 (Nat.le_refl _) hg, h5.rest (by omega) hg hr⟩
      case body =>
        rintro l' pre x W2 hpre hsz ⟨v, h2, h4, h5⟩
        have hc2 := h2.cell
        have hl64 : pre.length + 1 ≤ 32 := by
          have h1 := hpre.length_le
          simp at h1; omega
        have HSp : Hid ((pre ++ [x]).map nun = pre.map nun ++ [nun x]) := by show _ = _; simp
        have HLn : Hid ((pre ++ [x]).length = pre.length + 1) := by show _ = _; simp
        obtain ⟨mm, hmm⟩ : ∃ mm, pre.length = mm := ⟨_, rfl⟩
        rw [hmm] at h4 hl64 HLn
        clear hmm
        gi_wp2_with (gi_at_builtin; refine wpListIn_append_own _ rfl _ _ 55 rfl (w5.heap.size + 2 + kk) 3 i0 (.int .i64 0) 1 8 Tryz.underlying55 ji hz0 hz1 hz2 rfl (by decide) _ _ _ rfl (h4.alloc _) ⟨W2.heap.size, 0, none⟩ 1 1 [nun x] rfl rfl (cell_one_new _ _ _) (by simp [Value.oneCell']) (by unfold maxLen; omega) (by omega) (by simp; omega) ?_; intro v' w1 hown' hgrow _; obtain ⟨g', cap', rfl⟩ := ownsRow_succ hown'; obtain ⟨hv1, hv2, hr2, hk2, hb2, ho2⟩ := Rf.collected (X := X) (lo := w5.heap.size) (n := wr.heap.size) h2 (by decide) h4 (by omega) (fun h => by have := hXn1 _ h; omega) (fun b hb => hXl b hb) (by omega) hsz (Nat.le_refl _) hown' hgrow; have hbt := Rf.But.step (v' := .slice (some ⟨g', 0, none⟩) (mm + 1) cap') h5 h4 (by omega) hsz (by omega) hgrow; have hc1 := hv1.cell; have hf1 := hv1.frozen; have hcs := hv2.cell)
        exact ⟨hk2, _, hv2, by rw [HSp.out, HLn.out]; exact hr2, hbt⟩
      case done =>
        rintro W7 ⟨v1, h2, h4, h5⟩ hK7
        have hB7 : Below w.heap.size w W7 := HBw.out.trans (h5.1.mono (by omega))
        have hO7 : Rf.Open w5.heap.size [w5.heap.size] W7 := (h5.open (⟨List.nodup_nil, fun D hD => by simp at hD⟩ : Rf.Open w5.heap.size [] w5) (fun h => by simp at h)).cons (Nat.le_refl _) hK7 (fun h => by simp at h)
        have hc1 := h2.cell
        have hl7 := (Array.getElem?_eq_some_iff.1 h2).1
        have r1 : RdN W7 v1 A2.fr := own_rdN h4
        obtain ⟨z1, r2⟩ := HFR.out W7 hB7
        have CS : Hid (∀ wx, Below W7.heap.size W7 wx → Calls Tryz.prog 16 #[v1, fv] wx fun e w' => e = .returned (.bool true) ∧ (w'.cell? ⟨wr.heap.size, 0, none⟩ = some v1 ∧ w'.cell? ⟨g, 1, none⟩ = some fv) ∧ Below W7.heap.size W7 w') := fun wx hx => by
          refine (sameN v1 fv A2.fr wx (r1.below hx) (r2.below hx)).mono ?_
          rintro e w' ⟨rfl, hb'⟩
          have hb2 : Below W7.heap.size W7 w' := hx.trans (hb'.mono hx.size)
          exact ⟨rfl, ⟨(hb2.cell (p := ⟨wr.heap.size, 0, none⟩) hl7).trans hc1, (HFR.out w' (hB7.trans (hb2.mono hB7.size))).1⟩, hb2⟩
        obtain ⟨a1, c1, hv1, _⟩ := r1
        obtain ⟨a2, c2, hv2, _⟩ := r2
        obtain ⟨nf, hnf⟩ : ∃ nf, A2.fr.length = nf := ⟨_, rfl⟩
        rw [hnf] at hv1 hv2
        subst hv1 hv2
        have hS7 : W7.cell? ⟨wr.heap.size, 0, none⟩ = some (.slice a1 nf c1) ∧ W7.cell? ⟨g, 1, none⟩ = some (.slice a2 nf c2) := ⟨hc1, z1⟩
        have hO7H := Hid.mk' hO7
        have hB7H := Hid.mk' hB7
        clear h4 h2 hc1 h5 hK7 hO7 hB7 y1 z1 hnf hl7 HFR HBw
        go_wp2_with fail
        go_region_held3 (fun w' => w'.cell? ⟨wr.heap.size, 0, none⟩ = some (.slice a1 nf c1) ∧ w'.cell? ⟨g, 1, none⟩ = some (.slice a2 nf c2)) (first | assumption | exact hS7 | go_keep) (first | (go_at_call 16; with_reducible refine (CS.out _ ?hb).mono ?_; (case hb => (first | exact Below.refl _ _ | exact (Below.refl _ _).drew | fail)); rintro e w9 ⟨rfl, hS9, hb9⟩) | fail)
        have HO9 := Hid.mk' (hO7H.out.below hb9 (Nat.le_refl _))
        have HB9 := Hid.mk' (hB7H.out.trans (hb9.mono hB7H.out.size))
        clear hS7 hS9 hb9 CS hO7H hB7H
        have HK9 := Hid.mk' (HO9.out.2 _ (List.mem_cons_self ..)).2
        have hsw5 : w.heap.size ≤ w5.heap.size := by omega
        go_wp2
        refine ⟨by simp, .inl ⟨_, _, rfl, run_takeDeferred HK9.out, ?_⟩⟩
        refine ⟨_, results_tmp rfl _ _ _, rfl, ?_⟩
        exact HB9.out.grown (grownBy_putObj' _ _ _) HB9.out.size (fun r e => by cases e; exact hsw5)
end Sw
end Go.Proofs.YthabnombfbehkaaGreatDoor
