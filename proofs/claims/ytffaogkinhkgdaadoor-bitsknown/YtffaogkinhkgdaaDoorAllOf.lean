/- The law's own 'all': what All hands out, up to so many. -/
import Derived.Test.YtffaogkinhkgdaaDoorIter
import Derived.Test.YtffaogkinhkgdaaDoorRows2
namespace Go.Proofs.YtffaogkinhkgdaaDoor
open Go.RowKit
namespace Bt
set_option linter.unusedSimpArgs false
set_option linter.unusedVariables false
attribute [local go_sem] Oper.semAt_some

@[reducible] def cast (l : List Nat) : List Int := l.map (fun i : Nat => (i : Int))
theorem cast_append (a b : List Nat) : cast (a ++ b) = cast a ++ cast b := by simp [cast]
theorem prefix_take {α : Type} {a b : List α} (h : a <+: b) (n : Nat) (hn : n ≤ a.length) : a.take n = b.take n := by
  obtain ⟨c, rfl⟩ := h
  rw [List.take_append_of_le_length hn]

set_option maxRecDepth 1000000 in
set_option maxHeartbeats 4000000 in
theorem allOf_any (s most : Nat) (w : World) (hs : s < 18446744073709551616) (hm : most < 1000000) (hT : Tab w) (h1 : 0 < w.heap.size) :
    Calls Tryd.prog 11 #[st s, nu most] w fun e w' => ∃ v, e = .returned v ∧ OwnI w' w.heap.size v ((numsTo s 64).take most) ∧ Below w.heap.size w w' := by
  obtain ⟨i0, hi, hz0, hz1, hz2⟩ := info_parts Tryd.info3
  refine (callsIn_wide (n := 8)).1 ?_
  refine callsIn_of_wp_marks Tryd.func11 rfl trivial ?_ rfl
  refine wpIn_wide.2 ?_
  simp only [Tryd.ntmps11, List.size_toArray, List.length_cons, List.length_nil, Nat.reduceAdd, Nat.reduceSub, Array.replicate_succ, Array.replicate_zero, List.push_toArray, List.append_toArray, List.nil_append, List.cons_append]
  go_wp2_with fail
  refine (allMake_any s _).mono ?_
  rintro e w1 ⟨rfl, rfl⟩
  go_wp2_with fail
  have hs0 : (((w.alloc (.cells #[nu most] 3)).alloc (.cells #[.slice none 0 0] 24)).alloc (.cells #[st s] 23)).heap.size = w.heap.size + 3 := by simp
  have hb1 : Boxed (((w.alloc (.cells #[nu most] 3)).alloc (.cells #[.slice none 0 0] 24)).alloc (.cells #[st s] 23)) w.heap.size 3 (nu most) := ((Boxed.new w _ _).alloc _).alloc _
  have hb2 : Boxed (((w.alloc (.cells #[nu most] 3)).alloc (.cells #[.slice none 0 0] 24)).alloc (.cells #[st s] 23)) (w.heap.size + 1) 24 (.slice none 0 0) := by
    have := (Boxed.new (w.alloc (.cells #[nu most] 3)) 24 (.slice none 0 0)).alloc (.cells #[st s] 23)
    simpa using this
  have hb3 : Boxed (((w.alloc (.cells #[nu most] 3)).alloc (.cells #[.slice none 0 0] 24)).alloc (.cells #[st s] 23)) (w.heap.size + 1 + 1) 23 (st s) := by
    have := Boxed.new ((w.alloc (.cells #[nu most] 3)).alloc (.cells #[.slice none 0 0] 24)) 23 (st s)
    simpa using this
  have hB0 : Below w.heap.size w (((w.alloc (.cells #[nu most] 3)).alloc (.cells #[.slice none 0 0] 24)).alloc (.cells #[st s] 23)) := (((Below.refl _ w).alloc (Nat.le_refl _) _).alloc (by simp) _).alloc (by simp; omega) _
  have hT0 : Tab (((w.alloc (.cells #[nu most] 3)).alloc (.cells #[.slice none 0 0] 24)).alloc (.cells #[st s] 23)) := fun j hj => (hB0.cell (p := ⟨0, j, none⟩) (by show 0 < w.heap.size; omega)).trans (hT j hj)
  generalize (((w.alloc (.cells #[nu most] 3)).alloc (.cells #[.slice none 0 0] 24)).alloc (.cells #[st s] 23)) = W0 at *
  refine Rf.wp_range (L := numsL s 64) (w0 := W0) rfl (enters_of Tryd.func15 (by kernel_rfl) rfl)
    (all_seq s (w.heap.size + 1 + 1) W0 hs hb3.cell hb3.lt hT0 (by omega)) (Below.refl _ _) (fun _ => rfl) (fun b hb => by subst hb; omega)
    (fun pre W' => ∃ v, pre.length ≤ most ∧ Boxed W' w.heap.size 3 (nu most) ∧ Boxed W' (w.heap.size + 1) 24 v ∧ OwnI W' (W0.heap.size + 2 + 0) v (cast pre) ∧ Below w.heap.size w W')
    (fun c pre W' => ∃ v, most ≤ pre.length ∧ c = .exit 0 ∧ Boxed W' (w.heap.size + 1) 24 v ∧ OwnI W' (W0.heap.size + 2 + 0) v (cast (pre.take most)) ∧ Below w.heap.size w W') ?rest ?restx
    ⟨_, Nat.zero_le _, hb1, hb2, World.ownsRow_nil _ _ _ _, hB0⟩
    (fun x => { tmps := #[st s, nu most, undef, .pointer (some ⟨w.heap.size, 0, none⟩), .slice none 0 0, .pointer (some ⟨w.heap.size + 1, 0, none⟩), nu x, st s, .func (.func 15) #[] #[.pointer (some ⟨w.heap.size + 1 + 1, 0, none⟩)], nu x, undef, undef, undef, undef, undef, undef, undef, undef, undef], defers := [] }) ?assign ?body ?done ?stop
  case rest =>
    rintro pre A B row ⟨v, h2, h3, h4, h5, h6⟩ hg hr
    have ne : ∀ b, b < W0.heap.size → some b ≠ row := fun b hb e => by have := (hr b e.symm).1; omega
    exact ⟨v, h2, h3.kept hg (ne _ (by omega)), h4.kept hg (ne _ (by omega)), hr.row h5 (Nat.le_refl _) hg, h6.grown hg h6.size (fun r e => by have := (hr r e).1; omega)⟩
  case restx =>
    rintro c pre A B row ⟨v, h2, h3, h4, h5, h6⟩ hg hr
    have ne : ∀ b, b < W0.heap.size → some b ≠ row := fun b hb e => by have := (hr b e.symm).1; omega
    exact ⟨v, h2, h3, h4.kept hg (ne _ (by omega)), hr.row h5 (Nat.le_refl _) hg, h6.grown hg h6.size (fun r e => by have := (hr r e).1; omega)⟩
  case assign =>
    intro l' x W2 K hK
    gi_wp2
    exact hK
  case body =>
    rintro l' pre x W2 hpre hsz2 ⟨v, h2, h3, h4, h5, h6⟩
    have hc3 := h3.cell
    have hc4 := h4.cell
    obtain ⟨a, cap, rfl, hcap, hmax, _⟩ := ownI_slice h5
    have hlen : (cast pre).length = pre.length := by simp [cast]
    unfold maxLen at hmax
    have hl64 : pre.length < 64 := by
      have := hpre.length_le
      have h64 := ones_le s
      rw [numsL_len] at this
      simp at this; omega
    rw [hlen] at hc4 hcap h4
    have h5' : W2.ownsRow (W0.heap.size + 2 + 0) 3 1 (.slice a pre.length cap) pre.length ((cast pre).map nu) := by rw [← hlen]; exact h5
    by_cases hq : pre.length = most
    · have hd : ((pre.length : Int) == (most : Int)) = true := by rw [beq_iff_eq]; omega
      have HQ : Hid (pre.length = most) := hq
      clear hq
      gi_wp2
      refine ⟨Rf.Leaves.refl _ _ _ _, _, by have := HQ.out; simp; omega, rfl, h4, ?_, h6⟩
      have e : (pre ++ [x]).take most = pre := by rw [← HQ.out]; simp
      rw [e, ← hlen]; exact h5
    · have hd : ((pre.length : Int) == (most : Int)) = false := by rw [beq_eq_false_iff_ne]; omega
      have hq2 : pre.length < most := by omega
      clear hq
      gi_wp2_with (gi_at_builtin; refine wpListIn_append_own _ rfl _ _ 24 rfl (W0.heap.size + 2 + 0) 3 i0 (.int .i64 0) 1 8 Tryd.underlying24 hi hz0 hz1 hz2 rfl (by decide) _ _ _ rfl (h5'.alloc _) ⟨W2.heap.size, 0, none⟩ 1 1 [nu x] rfl rfl (cell_one_new _ _ _) (by simp [Value.oneCell']) (by unfold maxLen; omega) (by omega) (by simp; omega) ?_; intro v' w1 hown' hgrow _; obtain ⟨g', cap', rfl⟩ := ownsRow_succ hown'; obtain ⟨hv1, hv2, hr2, hk2, hb2, ho2⟩ := Rf.collected (X := fun b => b = 0) (lo := W0.heap.size) (n := w.heap.size) h4 (by decide) h5' (by omega) (by omega) (fun b hb => by omega) (by omega) hsz2 (by omega) hown' hgrow; have hc1 := hv1.cell; have hf1 := hv1.frozen)
      exact ⟨hk2, _, by simp; omega, ho2 _ _ _ (by omega) (by omega) h3, hv2, by unfold OwnI; rw [cast_append, List.length_append, hlen]; simpa [cast] using hr2, h6.trans (hb2.mono (Nat.le_refl _))⟩
  case done =>
    rintro W2 ⟨v, h2, h3, h4, h5, h6⟩ hK
    have hc4 := h4.cell
    have h7 := ownI_base (base := W0.heap.size + 2 + 0) (base' := w.heap.size) (ownsRow_putObj h5 (.deferred none) hK rfl) (by omega)
    obtain ⟨a, cap, rfl, hcap, hmax, _⟩ := ownI_slice h5
    clear hcap hmax
    simp only [cast, List.length_map, List.length_take] at hc4 h7
    go_wp2
    refine ⟨by simp, .inl ⟨_, _, rfl, run_takeDeferred hK, ?_⟩⟩
    refine ⟨_, results_tmp rfl _ _ _, _, rfl, ?_, ?_⟩
    · rw [numsTo_eq, List.take_of_length_le (by simpa [cast] using h2)]
      exact h7
    · exact h6.grown (grownBy_putObj' _ _ _) h6.size (fun r e => by cases e; omega)
  case stop =>
    rintro c pre W2 hpre ⟨v, h2, rfl, h4, h5, h6⟩ hK
    have hc4 := h4.cell
    have h7 := ownI_base (base := W0.heap.size + 2 + 0) (base' := w.heap.size) (ownsRow_putObj h5 (.deferred none) hK rfl) (by omega)
    obtain ⟨a, cap, rfl, hcap, hmax, _⟩ := ownI_slice h5
    clear hcap hmax
    simp only [cast, List.length_map, List.length_take, Nat.min_eq_left h2] at hc4 h7
    go_wp2
    refine ⟨by simp, .inl ⟨_, _, rfl, run_takeDeferred hK, ?_⟩⟩
    refine ⟨_, results_tmp rfl _ _ _, _, rfl, ?_, ?_⟩
    · rw [numsTo_eq, ← List.map_take, ← prefix_take hpre most h2]
      exact h7
    · exact h6.grown (grownBy_putObj' _ _ _) h6.size (fun r e => by cases e; omega)
end Bt
end Go.Proofs.YtffaogkinhkgdaaDoor
