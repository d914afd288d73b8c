import Derived.Test.YthabnombfbehkaaSwpD
import Derived.Test.YthabnombfbehkaaArnA
/- The laws' own helpers: all, same. -/
namespace Go.Proofs.Ythabnombfbehkaa
set_option linter.ambiguousOpen false
open Go.RowKit
namespace Sw
open An Rg Ft Lv
set_option linter.unusedSimpArgs false
set_option linter.unusedVariables false
attribute [local go_sem] Oper.semAt_some

set_option maxRecDepth 100000 in
theorem funcG_nil (gf : Nat) (lb : Array Value) (w : World) : (binOp .eql 40 (.func (.func gf) #[] lb) .nilFunc).run Try.prog w = .ok (.bool false) w := by kernel_rfl

theorem results_intsG {fn : Func} {p : Tmp} (h : fn.results = #[.cell p 22]) (tmps : Array Value) (w : World) (g : Nat) (a : Option Addr) (m c : Nat) (hp : tmps.getD p undef = .pointer (some ⟨g, 0, none⟩)) (hg : w.cell? ⟨g, 0, none⟩ = some (.slice a m c)) :
    (results fn tmps).run Try.prog w = .ok (.slice a m c) w := by
  have hl : (loadVar 22 ⟨g, 0, none⟩).run Try.prog w = .ok (.slice a m c) w := by
    simp [loadVar, go_sem, hg]
  have hp' : tmps[p]?.getD undef = .pointer (some ⟨g, 0, none⟩) := by simpa using hp
  simp [results, h, hp', asAddr, hl]

set_option maxRecDepth 1000000 in
set_option maxHeartbeats 8000000 in
theorem all_any {R : RepTy} (K : ∀ q l, KeepC (R.ar q l)) (CA : AllG R) (w : World) (p q : Nat) (F : Nat → Prop) (A : Arn) (l : Int) (h : R w p q F A l) (hg : An.Good A) (hok : okL l) :
    Calls Try.prog 11 #[ptr q] w fun e w' => ∃ v, e = .returned v ∧ w'.ownsRow w.heap.size 3 1 v (allG A.sl l).length ((allG A.sl l).map nun) ∧ Below w.heap.size w w' := by
  obtain ⟨i0, ji, hz0, hz1, hz2⟩ := info_parts info_int
  have hB1 : Below w.heap.size w ((w.alloc (.cells #[.slice none 0 0] 22)).alloc (.cells #[.slice none 0 0] 22)) := ((Below.refl _ _).alloc (Nat.le_refl _) _).alloc (by simp) _
  have x0 : Boxed ((w.alloc (.cells #[.slice none 0 0] 22)).alloc (.cells #[.slice none 0 0] 22)) w.heap.size 22 (.slice none 0 0) := (Boxed.new w _ _).alloc _
  have x1 : Boxed ((w.alloc (.cells #[.slice none 0 0] 22)).alloc (.cells #[.slice none 0 0] 22)) (w.heap.size + 1) 22 (.slice none 0 0) := by
    have := Boxed.new (w.alloc (.cells #[.slice none 0 0] 22)) 22 (.slice none 0 0)
    simpa using this
  have hs1 : ((w.alloc (.cells #[.slice none 0 0] 22)).alloc (.cells #[.slice none 0 0] 22)).heap.size = w.heap.size + 2 := by simp
  obtain ⟨W1, hW1⟩ : ∃ W1, (w.alloc (.cells #[.slice none 0 0] 22)).alloc (.cells #[.slice none 0 0] 22) = W1 := ⟨_, rfl⟩
  rw [hW1] at hB1 x0 x1 hs1
  have HW1 := Hid.mk' hW1
  have hfew : (allG A.sl l).length ≤ 32 := (allG_gl _ _).len
  obtain ⟨L, hL⟩ : ∃ L, allG A.sl l = L := ⟨_, rfl⟩
  rw [hL] at hfew ⊢
  have cR : Hid (∀ wx, Below W1.heap.size W1 wx → Calls Try.prog 16 #[ptr q] wx fun e w' => ∃ gf lb, e = .returned (.func (.func gf) #[] lb) ∧ Hid (Below W1.heap.size W1 w' ∧ Below wx.heap.size wx w' ∧ ∃ X, IterA w' (.func (.func gf) #[] lb) X (allG A.sl l) ∧ ∀ b, X b → wx.heap.size ≤ b)) := fun wx hb => by
    refine (CA wx p q F A l ((K q l).below ((K q l).below h hB1) hb) hg hok).mono ?_
    rintro e w' ⟨fv, X, rfl, hit, hX, hb'⟩
    obtain ⟨gf, lb, k, rfl, rest⟩ := hit
    exact ⟨gf, lb, rfl, hb.trans (hb'.mono hb.size), hb', X, ⟨gf, lb, k, rfl, rest⟩, hX⟩
  simp only [hL] at cR
  have HB1 := Hid.mk' hB1
  have HX0 := Hid.mk' x0
  have HX1 := Hid.mk' x1
  clear h hg hok hW1 hL hB1 x0 x1 K CA
  refine (callsIn_wide (n := 8)).1 ?_
  refine callsIn_of_wp_marks Try.func11 rfl trivial ?_ rfl
  refine wpIn_wide.2 ?_
  simp only [Try.ntmps11, List.size_toArray, List.length_cons, List.length_nil, Nat.reduceAdd, Nat.reduceSub, Array.replicate_succ, Array.replicate_zero, List.push_toArray, List.append_toArray, List.nil_append, List.cons_append]
  go_upto_region 2 with fail
  rw [HW1.out]
  go_wp2_with fail
  refine (cR.out _ (Below.refl _ _)).mono ?_
  rintro e w2 ⟨gf1, lb1, rfl, hQ2⟩
  have hn1 := funcG_nil gf1 lb1
  go_wp2_with fail
  clear hn1
  refine (cR.out _ hQ2.out.1).mono ?_
  rintro e w5 ⟨gf, lb, rfl, hQ5⟩
  obtain ⟨hb5, _, X, hit, hXn⟩ := hQ5.out
  obtain ⟨gf', lb', kk, e9, hent, hXl, hsq⟩ := hit
  simp only [Value.func.injEq, Fn.func.injEq, true_and] at e9
  obtain ⟨rfl, rfl⟩ := e9
  have HSQ := Hid.mk' (hsq w5 (Nat.le_refl _) (fun _ _ => rfl))
  have HB5 := Hid.mk' hb5
  have hs5 := hb5.size
  have hs4 := hQ2.out.1.size
  have hXn1 : ∀ b, X b → w.heap.size + 2 ≤ b := fun b hb => by have := hXn b hb; omega
  have y1 : Boxed w5 (w.heap.size + 1) 22 (.slice none 0 0) := (hb5.block _ (by omega)).trans HX1.out
  have y0 : Boxed w5 w.heap.size 22 (.slice none 0 0) := (hb5.block _ (by omega)).trans HX0.out
  have HBw : Hid (Below w.heap.size w w5) := HB1.out.trans (hb5.mono HB1.out.size)
  clear hsq hb5 hQ2 hQ5 cR
  go_wp2_with fail
  refine Rf.wp_range (L := L) (w0 := w5) rfl hent HSQ.out (Below.refl _ _) (fun _ => rfl) hXl
    (fun pre W' => ∃ v, Boxed W' (w.heap.size + 1) 22 v ∧ W'.ownsRow (w5.heap.size + 2 + kk) 3 1 v pre.length (pre.map nun) ∧ Rf.But (w.heap.size + 1) w5 W')
    (fun _ _ _ => False) ?rest (fun _ _ _ _ _ hs _ _ => hs)
    ⟨_, y1, World.ownsRow_nil _ _ _ _, Rf.But.refl _ _⟩ ?act ?assign ?body ?done (fun _ _ _ _ h _ => h.elim)
  case assign =>
    intro l' x W2 K hK
    gi_wp2
    exact hK
  case rest =>
    rintro pre A B row ⟨v, h2, h4, h5⟩ hg hr
    exact ⟨v, h2.kept hg (fun e => by have := (hr _ e.symm).1; omega), hr.row h4 (Nat.le_refl _) hg, h5.rest (by omega) hg hr⟩
  case body =>
    rintro l' pre x W2 hpre hsz ⟨v, h2, h4, h5⟩
    have hc2 := h2.cell
    have hl64 : pre.length + 1 ≤ 32 := by
      have h1 := hpre.length_le
      simp at h1; omega
    have HSp : Hid ((pre ++ [x]).map nun = pre.map nun ++ [nun x]) := by show _ = _; simp
    have HLn : Hid ((pre ++ [x]).length = pre.length + 1) := by show _ = _; simp
    obtain ⟨mm, hmm⟩ : ∃ mm, pre.length = mm := ⟨_, rfl⟩
    rw [hmm] at h4 hl64 HLn
    have hgt : ¬ (64 : Int) < (mm : Int) + 1 := by omega
    clear hmm
    gi_wp2_with (gi_at_builtin; refine wpListIn_append_own _ rfl _ _ 22 rfl (w5.heap.size + 2 + kk) 3 i0 (.int .i64 0) 1 8 Try.underlying22 ji hz0 hz1 hz2 rfl (by decide) _ _ _ rfl (h4.alloc _) ⟨W2.heap.size, 0, none⟩ 1 1 [nun x] rfl rfl (cell_one_new _ _ _) (by simp [Value.oneCell']) (by unfold maxLen; omega) (by omega) (by simp; omega) ?_; intro v' w1 hown' hgrow _; obtain ⟨g', cap', rfl⟩ := ownsRow_succ hown'; obtain ⟨hv1, hv2, hr2, hk2, hb2, ho2⟩ := Rf.collected (X := X) (lo := w5.heap.size) (n := w.heap.size + 1) h2 (by decide) h4 (by omega) (fun h => by have := hXn1 _ h; omega) (fun b hb => hXl b hb) (by omega) hsz (Nat.le_refl _) hown' hgrow; have hbt := Rf.But.step (v' := .slice (some ⟨g', 0, none⟩) (mm + 1) cap') h5 h4 (by omega) hsz (by omega) hgrow; have hc1 := hv1.cell; have hf1 := hv1.frozen; have hcs := hv2.cell)
    exact ⟨hk2, _, hv2, by rw [HSp.out, HLn.out]; exact hr2, hbt⟩
  case done =>
    rintro W7 ⟨v1, h2, h4, h5⟩ hK7
    obtain ⟨m, hm⟩ : ∃ m, L.length = m := ⟨_, rfl⟩
    rw [hm] at h4
    have HM := Hid.mk' hm
    obtain ⟨a1, c1, rfl, _⟩ := Nm.own_shape h4
    have hc1 := h2.cell
    have z0 := h5.boxed y0 (by omega)
    have hc0 := z0.cell
    have hf0 := z0.frozen
    have hB7 : Below w.heap.size w W7 := HBw.out.trans (h5.1.mono (by omega))
    have HR8 : Hid (Boxed (W7.setCell ⟨w.heap.size, 0, none⟩ (.slice a1 m c1)) w.heap.size 22 (.slice a1 m c1)) := z0.set _
    have hO8 : (W7.setCell ⟨w.heap.size, 0, none⟩ (.slice a1 m c1)).ownsRow (w5.heap.size + 2 + kk) 3 1 (.slice a1 m c1) m (L.map nun) := Rf.own_other h4 (by omega) _
    have hK8 : (W7.setCell ⟨w.heap.size, 0, none⟩ (.slice a1 m c1)).heap[w5.heap.size]? = some (.deferred (some [])) := (Below.heap_setCell _ _ _ _ (fun e => by have e' : w5.heap.size = w.heap.size := e; omega)).trans hK7
    have HB8 : Hid (Below w.heap.size w (W7.setCell ⟨w.heap.size, 0, none⟩ (.slice a1 m c1))) := hB7.setCell (p := ⟨w.heap.size, 0, none⟩) (Nat.le_refl _) _
    have HO9 := Hid.mk' (own_monoA (ownsRow_putObj hO8 (.deferred none) hK8 rfl) (show w.heap.size ≤ w5.heap.size + 2 + kk by omega))
    have HK8 := Hid.mk' hK8
    have hsw : w.heap.size ≤ w5.heap.size := by omega
    have hnn : w.heap.size ≠ w5.heap.size := by omega
    clear h2 h4 h5 hK7 hB7 hO8 hK8 z0 y0 y1 hs1 hs4 hs5 hm
    go_wp2
    refine ⟨by simp, .inl ⟨_, _, rfl, run_takeDeferred HK8.out, ?_⟩⟩
    refine ⟨_, results_intsG rfl _ _ w.heap.size a1 m c1 rfl (Boxed.cell ((World.putObj_heap_other hnn).trans HR8.out)), _, rfl, ?_, ?_⟩
    · rw [HM.out]
      exact HO9.out
    · exact HB8.out.grown (grownBy_putObj' _ _ _) HB8.out.size (fun r e => by cases e; exact hsw)

end Sw
end Go.Proofs.Ythabnombfbehkaa
