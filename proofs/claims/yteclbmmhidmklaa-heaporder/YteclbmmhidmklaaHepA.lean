/- The laws' own 'pairs': what an iterator hands out, up to so many. -/
import Derived.Test.YteclbmmhidmklaaHepC
namespace Go.Proofs.Yteclbmmhidmklaa
set_option linter.ambiguousOpen false
open Go.RowKit
namespace Hh
open Ft
set_option linter.unusedSimpArgs false
set_option linter.unusedVariables false
attribute [local go_sem] Oper.semAt_some

theorem prefix_take {α : Type} {a b : List α} (h : a <+: b) (n : Nat) (hn : n ≤ a.length) : a.take n = b.take n := by
  obtain ⟨c, rfl⟩ := h
  rw [List.take_append_of_le_length hn]

set_option maxRecDepth 1000000 in
set_option maxHeartbeats 4000000 in
theorem pairs_any (fv : Value) (X : Nat → Prop) (L : List It) (w : World) (most : Nat) (hit : IterH w fv X L) (hfew : L.length ≤ 100000) (hm : most ≤ 100000) :
    Calls Try.prog 8 #[fv, nun most] w fun e w' => ∃ v, e = .returned v ∧ w'.ownsRow w.heap.size 3 1 v (2 * (L.take most).length) ((prs (L.take most)).map nu) ∧ Below w.heap.size w w' := by
  obtain ⟨i0, ji, hz0, hz1, hz2⟩ := info_parts infoI
  have hB1 : Below w.heap.size w ((w.alloc (.cells #[nun most] 3)).alloc (.cells #[.slice none 0 0] 26)) := ((Below.refl _ _).alloc (Nat.le_refl _) _).alloc (by simp) _
  have x0 : Boxed ((w.alloc (.cells #[nun most] 3)).alloc (.cells #[.slice none 0 0] 26)) w.heap.size 3 (nun most) := (Boxed.new w _ _).alloc _
  have x1 : Boxed ((w.alloc (.cells #[nun most] 3)).alloc (.cells #[.slice none 0 0] 26)) (w.heap.size + 1) 26 (.slice none 0 0) := by
    have := Boxed.new (w.alloc (.cells #[nun most] 3)) 26 (.slice none 0 0)
    simpa using this
  have hs1 : ((w.alloc (.cells #[nun most] 3)).alloc (.cells #[.slice none 0 0] 26)).heap.size = w.heap.size + 2 := by simp
  obtain ⟨W1, hW1⟩ : ∃ W1, (w.alloc (.cells #[nun most] 3)).alloc (.cells #[.slice none 0 0] 26) = W1 := ⟨_, rfl⟩
  rw [hW1] at hB1 x0 x1 hs1
  have HW1 := Hid.mk' hW1
  have hB1H := Hid.mk' hB1
  obtain ⟨gf, lb, kk, rfl, hent, hXl, hsq⟩ := hit
  have HSQ := Hid.mk' (hsq W1 (by omega) (fun b hb => (hB1.block b (hXl b hb))))
  have hXl1 : ∀ b, X b → b < W1.heap.size := fun b hb => by have := hXl b hb; omega
  clear hsq hW1
  refine (callsIn_wide (n := 8)).1 ?_
  refine callsIn_of_wp_marks Try.func8 rfl trivial ?_ rfl
  refine wpIn_wide.2 ?_
  simp only [Try.ntmps8, List.size_toArray, List.length_cons, List.length_nil, Nat.reduceAdd, Nat.reduceSub, Array.replicate_succ, Array.replicate_zero, List.push_toArray, List.append_toArray, List.nil_append, List.cons_append]
  go_upto_region 2 with fail
  rw [HW1.out]
  go_wp2_with fail
  refine Rf.wp_range (L := L) (w0 := W1) rfl hent HSQ.out (Below.refl _ _) (fun _ => rfl) hXl1
    (fun pre W' => ∃ v, pre.length ≤ most ∧ Boxed W' w.heap.size 3 (nun most) ∧ Boxed W' (w.heap.size + 1) 26 v ∧ W'.ownsRow (W1.heap.size + 2 + kk) 3 1 v (2 * pre.length) ((prs pre).map nu) ∧ Below w.heap.size w W')
    (fun c pre W' => ∃ v, most ≤ pre.length ∧ c = .exit 0 ∧ Boxed W' (w.heap.size + 1) 26 v ∧ W'.ownsRow (W1.heap.size + 2 + kk) 3 1 v (2 * (pre.take most).length) ((prs (pre.take most)).map nu) ∧ Below w.heap.size w W') ?rest ?restx
    ⟨_, Nat.zero_le _, x0, x1, World.ownsRow_nil _ _ _ _, hB1H.out⟩ ?act ?assign ?body ?done ?stop
  case assign =>
    intro l' x W2 K hK
    gi_wp2
    exact hK
  case rest =>
    rintro pre A B row ⟨v, h2, h3, h4, h5, h6⟩ hg hr
    have ne : ∀ b, b < W1.heap.size → some b ≠ row := fun b hb e => by have := (hr b e.symm).1; omega
    exact ⟨v, h2, h3.kept hg (ne _ (by omega)), h4.kept hg (ne _ (by omega)), hr.row h5 (Nat.le_refl _) hg, h6.grown hg h6.size (fun r e => by have := (hr r e).1; omega)⟩
  case restx =>
    rintro c pre A B row ⟨v, h2, h3, h4, h5, h6⟩ hg hr
    have ne : ∀ b, b < W1.heap.size → some b ≠ row := fun b hb e => by have := (hr b e.symm).1; omega
    exact ⟨v, h2, h3, h4.kept hg (ne _ (by omega)), hr.row h5 (Nat.le_refl _) hg, h6.grown hg h6.size (fun r e => by have := (hr r e).1; omega)⟩
  case body =>
    rintro l' pre x W2 hpre hsz2 ⟨v, h2, h3, h4, h5, h6⟩
    have hl64 : pre.length < 100001 := by
      have := hpre.length_le
      simp at this; omega
    obtain ⟨xi, xk⟩ := x
    have HS : Hid ((prs (pre ++ [⟨xi, xk⟩])).map nu = (prs pre).map nu ++ [nu xi, nu xk]) := by show _ = _; rw [prs_snoc, List.map_append]; rfl
    have HLn : Hid ((pre ++ [(⟨xi, xk⟩ : It)]).length = pre.length + 1) := by show _ = _; simp
    obtain ⟨m, hm'⟩ : ∃ m, pre.length = m := ⟨_, rfl⟩
    rw [hm'] at h5 hl64 HLn h2
    obtain ⟨a, cap, rfl, hcap, hmax, _⟩ := Nm.own_shape h5
    have hc3 := h3.cell
    have hc4 := h4.cell
    unfold maxLen at hmax
    by_cases hq : m = most
    · subst hq
      have HQ : Hid (pre.take m = pre ∧ pre.length = m) := ⟨List.take_of_length_le (by omega), hm'⟩
      have H4 := Hid.mk' h4
      have H5 := Hid.mk' h5
      have H6 := Hid.mk' h6
      have hqI : (2 * (m : Int)) ≤ ((2 * m : Nat) : Int) := by omega
      clear h4 h5 h6 HS hm' h2
      gi_wp2
      refine ⟨Rf.Leaves.refl _ _ _ _, _, by rw [HLn.out]; omega, rfl, H4.out, ?_, H6.out⟩
      rw [List.take_append_of_le_length (by rw [HQ.out.2]; exact Nat.le_refl _), HQ.out.1, HQ.out.2]
      exact H5.out
    · have hqI : ¬ (2 * (most : Int)) ≤ ((2 * m : Nat) : Int) := by omega
      clear hq hm'
      gi_wp2_with (gi_at_builtin; refine wpListIn_append_own _ rfl _ _ 26 rfl (W1.heap.size + 2 + kk) 3 i0 (.int .i64 0) 1 8 Try.underlying26 ji hz0 hz1 hz2 rfl (by decide) _ _ _ rfl (h5.alloc _) ⟨W2.heap.size, 0, none⟩ 2 2 [nu xi, nu xk] rfl rfl (cell_two_new _ _ _ _) (by simp [Value.oneCell']) (by unfold maxLen; omega) (by omega) (by simp; omega) ?_; intro v' w1 hown' hgrow _; obtain ⟨g', cap', rfl⟩ := ownsRow_succ hown'; obtain ⟨hv1, hv2, hr2, hk2, hb2, ho2⟩ := Rf.collected (X := X) (lo := W1.heap.size) (n := w.heap.size) h4 (by decide) h5 (by omega) (fun h => by have := hXl _ h; omega) (fun b hb => hXl1 b hb) (by omega) hsz2 (by omega) hown' hgrow; have hc1 := hv1.cell; have hf1 := hv1.frozen)
      rw [hs1] at hk2 hr2
      exact ⟨hk2, by rw [HLn.out]; omega, ho2 _ _ _ (by omega) (by omega) h3, _, hv2, by rw [HS.out, HLn.out]; exact hr2, h6.trans (hb2.mono (Nat.le_refl _))⟩
  case done =>
    rintro W2 ⟨v, h2, h3, h4, h5, h6⟩ hK
    have hc4 := h4.cell
    have h7 := own_monoI (ownsRow_putObj h5 (.deferred none) hK rfl) (show w.heap.size ≤ W1.heap.size + 2 + kk by omega)
    have HT : Hid (L.take most = L) := List.take_of_length_le h2
    have hsz2 : w.heap.size ≤ W1.heap.size := by omega
    obtain ⟨n, hn⟩ : ∃ n, L.length = n := ⟨_, rfl⟩
    rw [hn] at h7 h5
    obtain ⟨a, cap, rfl, _⟩ := Nm.own_shape h5
    have HN := Hid.mk' hn
    have H7 := Hid.mk' h7
    have H6 := Hid.mk' h6
    have HK := Hid.mk' hK
    clear h3 h4 h5 h6 h7 hn h2 hK
    go_wp2
    refine ⟨by simp, .inl ⟨_, _, rfl, run_takeDeferred HK.out, ?_⟩⟩
    refine ⟨_, results_tmp rfl _ _ _, _, rfl, ?_, ?_⟩
    · rw [HT.out, HN.out]
      exact H7.out
    · exact H6.out.grown (grownBy_putObj' _ _ _) H6.out.size (fun r e => by cases e; exact hsz2)
  case stop =>
    rintro c pre W2 hpre ⟨v, h2, rfl, h4, h5, h6⟩ hK
    have hc4 := h4.cell
    have h7 := own_monoI (ownsRow_putObj h5 (.deferred none) hK rfl) (show w.heap.size ≤ W1.heap.size + 2 + kk by omega)
    have HT : Hid (pre.take most = L.take most) := prefix_take hpre most h2
    have hsz2 : w.heap.size ≤ W1.heap.size := by omega
    obtain ⟨n, hn⟩ : ∃ n, (pre.take most).length = n := ⟨_, rfl⟩
    rw [hn] at h7 h5
    obtain ⟨a, cap, rfl, _⟩ := Nm.own_shape h5
    have HN := Hid.mk' hn
    have H7 := Hid.mk' h7
    have H6 := Hid.mk' h6
    have HK := Hid.mk' hK
    clear h4 h5 h6 h7 hn h2 hK
    go_wp2
    refine ⟨by simp, .inl ⟨_, _, rfl, run_takeDeferred HK.out, ?_⟩⟩
    refine ⟨_, results_tmp rfl _ _ _, _, rfl, ?_, ?_⟩
    · rw [← HT.out, HN.out]
      exact H7.out
    · exact H6.out.grown (grownBy_putObj' _ _ _) H6.out.size (fun r e => by cases e; exact hsz2)
end Hh
end Go.Proofs.Yteclbmmhidmklaa
