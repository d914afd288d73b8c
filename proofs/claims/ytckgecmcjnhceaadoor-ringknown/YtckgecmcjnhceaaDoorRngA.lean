/- The laws' own 'all': what All hands out, up to so many. -/
import Derived.Test.YtckgecmcjnhceaaDoorRngC
namespace Go.Proofs.YtckgecmcjnhceaaDoor
set_option linter.ambiguousOpen false
open Go.RowKit
namespace Rg
open An Ft Lv
set_option linter.unusedSimpArgs false
set_option linter.unusedVariables false
attribute [local go_sem] Oper.semAt_some

theorem prefix_take {α : Type} {a b : List α} (h : a <+: b) (n : Nat) (hn : n ≤ a.length) : a.take n = b.take n := by
  obtain ⟨c, rfl⟩ := h
  rw [List.take_append_of_le_length hn]

set_option maxRecDepth 1000000 in
set_option maxHeartbeats 4000000 in
theorem all_any {Rep : World → Nat → (Nat → Prop) → Arn → Prop} (H : KeepC Rep) (CA : AllC Rep) (w : World) (p : Nat) (F : Nat → Prop) (A : Arn) (last : Int) (most : Nat) (h : Rep w p F A) (hg : An.Good A) (hi : I64 last) (hm : most < 1000000) :
    Calls Tryd.prog 11 #[ptr p, nu last, nun most] w fun e w' => ∃ v, e = .returned v ∧ w'.ownsRow w.heap.size 3 1 v ((allL A.sl last).take most).length (((allL A.sl last).take most).map nun) ∧ Below w.heap.size w w' := by
  obtain ⟨i0, ji, hz0, hz1, hz2⟩ := info_parts info_int
  have hB1 : Below w.heap.size w ((w.alloc (.cells #[nun most] 3)).alloc (.cells #[.slice none 0 0] 30)) := ((Below.refl _ _).alloc (Nat.le_refl _) _).alloc (by simp) _
  have x0 : Boxed ((w.alloc (.cells #[nun most] 3)).alloc (.cells #[.slice none 0 0] 30)) w.heap.size 3 (nun most) := (Boxed.new w _ _).alloc _
  have x1 : Boxed ((w.alloc (.cells #[nun most] 3)).alloc (.cells #[.slice none 0 0] 30)) (w.heap.size + 1) 30 (.slice none 0 0) := by
    have := Boxed.new (w.alloc (.cells #[nun most] 3)) 30 (.slice none 0 0)
    simpa using this
  have hs1 : ((w.alloc (.cells #[nun most] 3)).alloc (.cells #[.slice none 0 0] 30)).heap.size = w.heap.size + 2 := by simp
  obtain ⟨W1, hW1⟩ : ∃ W1, (w.alloc (.cells #[nun most] 3)).alloc (.cells #[.slice none 0 0] 30) = W1 := ⟨_, rfl⟩
  rw [hW1] at hB1 x0 x1 hs1
  have HW1 := Hid.mk' hW1
  have cA := Hid.mk' (CA W1 p F A last (H.below h hB1) hg hi)
  have hfew := allL_len A.sl last
  obtain ⟨L, hL⟩ : ∃ L, allL A.sl last = L := ⟨_, rfl⟩
  rw [hL] at cA hfew ⊢
  have hB1H := Hid.mk' hB1
  clear H CA h hg hi hW1 hB1 hL
  refine (callsIn_wide (n := 8)).1 ?_
  refine callsIn_of_wp_marks Tryd.func11 rfl trivial ?_ rfl
  refine wpIn_wide.2 ?_
  simp only [Tryd.ntmps11, List.size_toArray, List.length_cons, List.length_nil, Nat.reduceAdd, Nat.reduceSub, Array.replicate_succ, Array.replicate_zero, List.push_toArray, List.append_toArray, List.nil_append, List.cons_append]
  go_wp2_with fail
  rw [HW1.out]
  refine cA.out.mono ?_
  rintro e w8 ⟨fv2, X, rfl, ⟨gf, lb, kk, rfl, hent, hXl, hsq⟩, hXn, hb8⟩
  have hs8 := hb8.size
  have hXn1 : ∀ b, X b → w.heap.size + 2 ≤ b := fun b hb => by
    have h1 := hXn b hb
    omega
  have HSQ := Hid.mk' (hsq w8 (Nat.le_refl _) (fun _ _ => rfl))
  have y0 : Boxed w8 w.heap.size 3 (nun most) := (hb8.block _ (by omega)).trans x0
  have y1 : Boxed w8 (w.heap.size + 1) 30 (.slice none 0 0) := (hb8.block _ (by omega)).trans x1
  have hBw8 : Below w.heap.size w w8 := hB1H.out.trans (hb8.mono hB1H.out.size)
  clear hsq cA x0 x1
  go_wp2_with fail
  refine Rf.wp_range (L := L) (w0 := w8) rfl hent HSQ.out (Below.refl _ _) (fun _ => rfl) hXl
    (fun pre W' => ∃ v, pre.length ≤ most ∧ Boxed W' w.heap.size 3 (nun most) ∧ Boxed W' (w.heap.size + 1) 30 v ∧ W'.ownsRow (w8.heap.size + 2 + kk) 3 1 v pre.length (pre.map nun) ∧ Below w.heap.size w W')
    (fun c pre W' => ∃ v, most ≤ pre.length ∧ c = .exit 0 ∧ Boxed W' (w.heap.size + 1) 30 v ∧ W'.ownsRow (w8.heap.size + 2 + kk) 3 1 v (pre.take most).length ((pre.take most).map nun) ∧ Below w.heap.size w W') ?rest ?restx
    ⟨_, Nat.zero_le _, y0, y1, World.ownsRow_nil _ _ _ _, hBw8⟩ ?act ?assign ?body ?done ?stop
  case assign =>
    intro l' x W2 K hK
    gi_wp2
    exact hK
  case rest =>
    rintro pre A B row ⟨v, h2, h3, h4, h5, h6⟩ hg hr
    have ne : ∀ b, b < w8.heap.size → some b ≠ row := fun b hb e => by have := (hr b e.symm).1; omega
    exact ⟨v, h2, h3.kept hg (ne _ (by omega)), h4.kept hg (ne _ (by omega)), hr.row h5 (Nat.le_refl _) hg, h6.grown hg h6.size (fun r e => by have := (hr r e).1; omega)⟩
  case restx =>
    rintro c pre A B row ⟨v, h2, h3, h4, h5, h6⟩ hg hr
    have ne : ∀ b, b < w8.heap.size → some b ≠ row := fun b hb e => by have := (hr b e.symm).1; omega
    exact ⟨v, h2, h3, h4.kept hg (ne _ (by omega)), hr.row h5 (Nat.le_refl _) hg, h6.grown hg h6.size (fun r e => by have := (hr r e).1; omega)⟩
  case body =>
    rintro l' pre x W2 hpre hsz2 ⟨v, h2, h3, h4, h5, h6⟩
    have hl64 : pre.length < 33 := by
      have := hpre.length_le
      simp at this; omega
    have HS : Hid ((pre ++ [x]).map nun = pre.map nun ++ [nun x]) := by show _ = _; simp
    have HLn : Hid ((pre ++ [x]).length = pre.length + 1) := by show _ = _; simp
    obtain ⟨m, hm'⟩ : ∃ m, pre.length = m := ⟨_, rfl⟩
    rw [hm'] at h5 hl64 HLn h2
    obtain ⟨a, cap, rfl, hcap, hmax, _⟩ := Nm.own_shape h5
    have hc3 := h3.cell
    have hc4 := h4.cell
    unfold maxLen at hmax
    by_cases hq : m = most
    · subst hq
      have HQ : Hid (pre.take m = pre ∧ pre.length = m) := ⟨List.take_of_length_le (by omega), hm'⟩
      have H4 := Hid.mk' h4
      have H5 := Hid.mk' h5
      have H6 := Hid.mk' h6
      have hqI : (m : Int) ≤ (m : Int) := Int.le_refl _
      clear h4 h5 h6 HS hm' h2
      gi_wp2
      refine ⟨Rf.Leaves.refl _ _ _ _, _, by rw [HLn.out]; omega, rfl, H4.out, ?_, H6.out⟩
      rw [List.take_append_of_le_length (by rw [HQ.out.2]; exact Nat.le_refl _), HQ.out.1, HQ.out.2]
      exact H5.out
    · have hqI : ¬ (most : Int) ≤ (m : Int) := by omega
      clear hq hm'
      gi_wp2_with (gi_at_builtin; refine wpListIn_append_own _ rfl _ _ 30 rfl (w8.heap.size + 2 + kk) 3 i0 (.int .i64 0) 1 8 Tryd.underlying30 ji hz0 hz1 hz2 rfl (by decide) _ _ _ rfl (h5.alloc _) ⟨W2.heap.size, 0, none⟩ 1 1 [nun x] rfl rfl (cell_one_new _ _ _) (by simp [Value.oneCell']) (by unfold maxLen; omega) (by omega) (by simp; omega) ?_; intro v' w1 hown' hgrow _; obtain ⟨g', cap', rfl⟩ := ownsRow_succ hown'; obtain ⟨hv1, hv2, hr2, hk2, hb2, ho2⟩ := Rf.collected (X := X) (lo := w8.heap.size) (n := w.heap.size) h4 (by decide) h5 (by omega) (fun h => by have := hXn1 _ h; omega) (fun b hb => hXl b hb) (by omega) hsz2 (by omega) hown' hgrow; have hc1 := hv1.cell; have hf1 := hv1.frozen)
      exact ⟨hk2, by rw [HLn.out]; omega, ho2 _ _ _ (by omega) (by omega) h3, _, hv2, by rw [HS.out, HLn.out]; exact hr2, h6.trans (hb2.mono (Nat.le_refl _))⟩
  case done =>
    rintro W2 ⟨v, h2, h3, h4, h5, h6⟩ hK
    have hc4 := h4.cell
    have h7 := own_monoA (ownsRow_putObj h5 (.deferred none) hK rfl) (show w.heap.size ≤ w8.heap.size + 2 + kk by omega)
    have HT : Hid (L.take most = L) := List.take_of_length_le h2
    have hsz2 : w.heap.size ≤ w8.heap.size := by omega
    obtain ⟨n, hn⟩ : ∃ n, L.length = n := ⟨_, rfl⟩
    rw [hn] at h7 h5
    obtain ⟨a, cap, rfl, _⟩ := Nm.own_shape h5
    have HN := Hid.mk' hn
    have H7 := Hid.mk' h7
    have H6 := Hid.mk' h6
    have HK := Hid.mk' hK
    clear h3 h4 h5 h6 h7 hn h2 hK
    go_wp2
    refine ⟨by simp, .inl ⟨_, _, rfl, run_takeDeferred HK.out, ?_⟩⟩
    refine ⟨_, results_tmp rfl _ _ _, _, rfl, ?_, ?_⟩
    · rw [HT.out, HN.out]
      exact H7.out
    · exact H6.out.grown (grownBy_putObj' _ _ _) H6.out.size (fun r e => by cases e; exact hsz2)
  case stop =>
    rintro c pre W2 hpre ⟨v, h2, rfl, h4, h5, h6⟩ hK
    have hc4 := h4.cell
    have h7 := own_monoA (ownsRow_putObj h5 (.deferred none) hK rfl) (show w.heap.size ≤ w8.heap.size + 2 + kk by omega)
    have HT : Hid (pre.take most = L.take most) := prefix_take hpre most h2
    have hsz2 : w.heap.size ≤ w8.heap.size := by omega
    obtain ⟨n, hn⟩ : ∃ n, (pre.take most).length = n := ⟨_, rfl⟩
    rw [hn] at h7 h5
    obtain ⟨a, cap, rfl, _⟩ := Nm.own_shape h5
    have HN := Hid.mk' hn
    have H7 := Hid.mk' h7
    have H6 := Hid.mk' h6
    have HK := Hid.mk' hK
    clear h4 h5 h6 h7 hn h2 hK
    go_wp2
    refine ⟨by simp, .inl ⟨_, _, rfl, run_takeDeferred HK.out, ?_⟩⟩
    refine ⟨_, results_tmp rfl _ _ _, _, rfl, ?_, ?_⟩
    · rw [← HT.out, HN.out]
      exact H7.out
    · exact H6.out.grown (grownBy_putObj' _ _ _) H6.out.size (fun r e => by cases e; exact hsz2)
end Rg
end Go.Proofs.YtckgecmcjnhceaaDoor
