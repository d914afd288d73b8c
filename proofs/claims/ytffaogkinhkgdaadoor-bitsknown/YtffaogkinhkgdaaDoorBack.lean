/- BitsBack answers true: the numbers that a set hands out make it again, and its rows have just these. -/
import Derived.Test.YtffaogkinhkgdaaDoorFill
import Derived.Test.YtffaogkinhkgdaaDoorRuns
namespace Go.Proofs.YtffaogkinhkgdaaDoor
open Go.RowKit
namespace Bt
set_option linter.unusedSimpArgs false
set_option linter.unusedVariables false
attribute [local go_sem] Oper.semAt_some

theorem Tab.below {A B : World} (h : Tab A) (hb : Below A.heap.size A B) (h1 : 0 < A.heap.size) : Tab B := fun j hj => (hb.cell (p := ⟨0, j, none⟩) h1).trans (h j hj)

set_option maxRecDepth 1000000 in
set_option maxHeartbeats 4000000 in
theorem bitsBack_walk (s : Nat) (w : World) (hs : s < 18446744073709551616) (hT : Tab w) (h1 : 0 < w.heap.size) :
    Calls Tryd.prog 26 #[st s] w fun e w' => e = .returned (.bool true) ∧ Below w.heap.size w w' := by
  obtain ⟨i0, hi, hz0, hz1, hz2⟩ := info_parts Tryd.info3
  refine (callsIn_wide (n := 8)).1 ?_
  refine callsIn_of_wp_marks Tryd.func26 rfl trivial ?_ rfl
  refine wpIn_wide.2 ?_
  simp only [Tryd.ntmps26, List.size_toArray, List.length_cons, List.length_nil, Nat.reduceAdd, Nat.reduceSub, Array.replicate_succ, Array.replicate_zero, List.push_toArray, List.append_toArray, List.nil_append, List.cons_append]
  have n1 := eq_all_nil
  have n2 := eq_runs_nil
  go_wp2_with fail
  have b0 := Boxed.new w 4 (.bool false)
  have q0 : Below w.heap.size w (w.alloc (.cells #[.bool false] 4)) := (Below.refl _ w).alloc (Nat.le_refl _) _
  generalize w.alloc (.cells #[.bool false] 4) = w0 at *
  refine (works_any _).mono ?_
  rintro e w1 ⟨rfl, q1⟩
  go_wp2_with fail
  refine (allMake_any s _).mono ?_
  rintro e w2 ⟨rfl, rfl⟩
  go_wp2_with fail
  refine (runsMake_any s _).mono ?_
  rintro e w2 ⟨rfl, rfl⟩
  go_wp2_with fail
  have b2 : Boxed ((w1.alloc (.cells #[st s] 23)).alloc (.cells #[st s] 23)) w.heap.size 4 (.bool false) := ((show Boxed w1 w.heap.size 4 (.bool false) from (q1.block _ b0.lt).trans b0).alloc _).alloc _
  have q2 : Below w.heap.size w ((w1.alloc (.cells #[st s] 23)).alloc (.cells #[st s] 23)) := ((q0.trans (q1.mono q0.size)).alloc (Nat.le_trans q0.size q1.size) _).alloc (by have := q0.size; have := q1.size; simp; omega) _
  generalize ((w1.alloc (.cells #[st s] 23)).alloc (.cells #[st s] 23)) = w2 at *
  have T2 : Tab w2 := hT.below q2 h1
  have s2 := q2.size
  refine (allOf_any s 100 w2 hs (by omega) T2 (by omega)).mono ?_
  rintro e w3 ⟨vl, rfl, hl3, q3⟩
  have hln := numsTo_le s 64
  rw [List.take_of_length_le (by omega)] at hl3
  have b3 : Boxed w3 w.heap.size 4 (.bool false) := (q3.block _ b2.lt).trans b2
  have cof := of_any vl (numsTo s 64) w3 (rdI_own hl3)
  have eof : ofG 0 0 (numsTo s 64) = (s, 0, 0) := by
    have := of_nums s 0 0 hs (fun j _ => by simp)
    rw [Nat.zero_or] at this
    exact this
  rw [eof, show errV (s, 0, 0).2.1 (s, 0, 0).2.2 = .nilIface from rfl] at cof
  obtain ⟨la, lcap, rfl, hlcap, hlmax, _⟩ := ownI_slice hl3
  clear eof hlmax hlcap b0 q0 q1 b2
  go_wp2_with fail
  refine cof.mono ?_
  rintro e w4 ⟨rfl, rfl⟩
  go_wp2_with fail
  refine (runsMake_any s _).mono ?_
  rintro e w5 ⟨rfl, rfl⟩
  go_wp2_with fail
  have s4 : w2.heap.size ≤ w4.heap.size := q3.size
  have hs0 : (((w4.alloc (.cells #[.slice none 0 0] 24)).alloc (.cells #[.int .i64 (-1)] 3)).alloc (.cells #[st s] 23)).heap.size = w4.heap.size + 3 := by simp
  have hb1 : Boxed (((w4.alloc (.cells #[.slice none 0 0] 24)).alloc (.cells #[.int .i64 (-1)] 3)).alloc (.cells #[st s] 23)) w4.heap.size 24 (.slice none 0 0) := ((Boxed.new w4 _ _).alloc _).alloc _
  have hb2 : Boxed (((w4.alloc (.cells #[.slice none 0 0] 24)).alloc (.cells #[.int .i64 (-1)] 3)).alloc (.cells #[st s] 23)) (w4.heap.size + 1) 3 (nu (-1)) := by
    have := (Boxed.new (w4.alloc (.cells #[.slice none 0 0] 24)) 3 (.int .i64 (-1))).alloc (.cells #[st s] 23)
    simpa using this
  have hb3 : Boxed (((w4.alloc (.cells #[.slice none 0 0] 24)).alloc (.cells #[.int .i64 (-1)] 3)).alloc (.cells #[st s] 23)) (w4.heap.size + 1 + 1) 23 (st s) := by
    have := Boxed.new ((w4.alloc (.cells #[.slice none 0 0] 24)).alloc (.cells #[.int .i64 (-1)] 3)) 23 (st s)
    simpa using this
  have hB0 : Below w4.heap.size w4 (((w4.alloc (.cells #[.slice none 0 0] 24)).alloc (.cells #[.int .i64 (-1)] 3)).alloc (.cells #[st s] 23)) := (((Below.refl _ w4).alloc (Nat.le_refl _) _).alloc (by simp) _).alloc (by simp; omega) _
  have hT0 : Tab (((w4.alloc (.cells #[.slice none 0 0] 24)).alloc (.cells #[.int .i64 (-1)] 3)).alloc (.cells #[st s] 23)) := (T2.below q3 (by omega)).below hB0 (by omega)
  generalize (((w4.alloc (.cells #[.slice none 0 0] 24)).alloc (.cells #[.int .i64 (-1)] 3)).alloc (.cells #[st s] 23)) = W0 at *
  refine Rf.wp_range (L := rowsTo s 64) (w0 := W0) rfl (enters_of Tryd.func17 (by kernel_rfl) rfl)
    (runs_seq s (w4.heap.size + 1 + 1) W0 hs hb3 hT0 (by omega)) (Below.refl _ _) (fun _ => rfl) (fun b hb => by omega)
    (fun pre W' => ∃ v, Boxed W' w4.heap.size 24 v ∧ Boxed W' (w4.heap.size + 1) 3 (nu (lastEnd pre)) ∧ OwnI W' (W0.heap.size + 2 + 5) v (fill pre) ∧ Below w4.heap.size w4 W')
    (fun _ _ _ => False) ?rest (fun _ _ _ _ _ hs _ _ => hs)
    ⟨_, hb1, hb2, World.ownsRow_nil _ _ _ _, hB0⟩ ?act ?assign ?body ?done (fun _ _ _ _ h _ => h.elim)
  case assign =>
    intro l' x W2 K hK
    gi_wp2
    exact hK
  case rest =>
    rintro pre A B row ⟨v, h2, h3, h4, h5⟩ hg hr
    have ne : ∀ b, b < W0.heap.size → some b ≠ row := fun b hb e => by have := (hr b e.symm).1; omega
    exact ⟨v, h2.kept hg (ne _ (by omega)), h3.kept hg (ne _ (by omega)), hr.row h4 (Nat.le_refl _) hg, h5.grown hg h5.size (fun r e => by have := (hr r e).1; omega)⟩
  case body =>
    rintro l' pre ⟨xa, xb⟩ W2 hpre hsz2 ⟨v, h2, h3, h4, h5⟩
    have hfl : (fill pre).length ≤ 64 := by
      obtain ⟨y, hy, _, e2, _, _⟩ := next_row 64 hpre
      have := fill_len s y
      rw [e2]; omega
    have hab : xa < xb ∧ xb ≤ 64 ∧ lastEnd pre < (xa : Int) := by
      obtain ⟨y, hy, e1, e2, e3, e4⟩ := next_row 64 hpre
      have := start_le s y
      have h9 := lastEnd_lt e3
      cases e1
      rw [e2]
      exact ⟨by omega, by omega, h9⟩
    obtain ⟨hab, hb64, hlast⟩ := hab
    have hge := lastEnd_ge pre
    have hc2 := h2.cell
    have hc3 := h3.cell
    have hf3 := h3.frozen
    have HE : Hid (∀ k, xa ≤ k → fill pre ++ seg xa (k + 1) = (fill pre ++ seg xa k) ++ [(k : Int)]) := fun k hk => by rw [seg_snoc xa k hk, List.append_assoc]
    have HL : Hid (∀ k, xa ≤ k → (fill pre ++ seg xa k).length = (fill pre).length + (k - xa)) := fun k hk => by rw [List.length_append, seg_len]
    have HF : Hid (fill (pre ++ [(xa, xb)]) = fill pre ++ seg xa xb) := by
      show _ = _
      rw [fill_append]; simp [fill]
    have HG : Hid (lastEnd (pre ++ [(xa, xb)]) = (xb : Int)) := lastEnd_snoc _ _
    generalize lastEnd pre = le at *
    have t1 : decide ((xa : Int) ≤ le) = false := by simp; omega
    have t2 : decide (xb ≤ xa) = false := by simp; omega
    have t2' : decide ((xb : Int) ≤ (xa : Int)) = false := by simp; omega
    have t3 : decide ((64 : Int) < (xb : Int)) = false := by simp; omega
    gi_wp2
    clear t1 t2 t2' t3
    gi_loopw [10] (fun i wr => ∃ (k : Nat) (v : Value), xa ≤ k ∧ k ≤ xb ∧ i = nu k ∧ Boxed wr w4.heap.size 24 v ∧ Boxed wr (w4.heap.size + 1) 3 (nu le) ∧ OwnI wr (W0.heap.size + 2 + 5) v (fill pre ++ seg xa k) ∧ Below w4.heap.size w4 wr ∧ W0.heap.size + 2 + 5 ≤ wr.heap.size ∧
      Rf.Leaves (fun b => b = 0 ∨ b = w4.heap.size + 1 + 1) W0.heap.size (W0.heap.size + 2 + 5) W2 wr) (fun i _ => xb - (intOf i).toNat)
    case atStart =>
      exact ⟨xa, v, Nat.le_refl _, by omega, rfl, h2, h3, by rw [seg_nil, List.append_nil]; exact h4, h5, hsz2, Rf.Leaves.refl _ _ _ _⟩
    case round =>
      obtain ⟨k, v3, k1, k2, rfl, m2, m3, m4, m5, m6, m7⟩ := hrel
      have HLk : (fill pre ++ seg xa k).length ≤ 128 := by have := HL.out k k1; omega
      have HEk : Hid (fill pre ++ seg xa (k + 1) = (fill pre ++ seg xa k) ++ [(k : Int)]) := HE.out k k1
      have d2 := m2.cell
      have d3 := m3.cell
      have f3 := m3.frozen
      clear hc2 hc3 hf3 h2 h3 h4 h5
      by_cases hp : k < xb
      · generalize hg : fill pre ++ seg xa k = ys at *
        clear hg
        gi_wp2_with (gi_at_builtin; refine wpListIn_append_own _ rfl _ _ 24 rfl (W0.heap.size + 2 + 5) 3 i0 (.int .i64 0) 1 8 Tryd.underlying24 hi hz0 hz1 hz2 rfl (by decide) _ _ _ rfl (m4.alloc _) ⟨wr.heap.size, 0, none⟩ 1 1 [nu k] rfl rfl (cell_one_new _ _ _) (by simp [Value.oneCell']) (by unfold maxLen; omega) (by omega) (by simp; omega) ?_; intro v' w1 hown' hgrow _; obtain ⟨g', cap', rfl⟩ := ownsRow_succ hown'; obtain ⟨hv1, hv2, hr2, hk2, hb2, ho2⟩ := Rf.collected (X := fun b => b = 0 ∨ b = w4.heap.size + 1 + 1) (lo := W0.heap.size) (n := w4.heap.size) m2 (by decide) m4 (by omega) (by omega) (fun b hb => by omega) (by omega) m6 (Nat.le_refl _) hown' hgrow; have hc1 := hv1.cell; have hf1 := hv1.frozen)
        go_roundw
        case rel =>
          refine ⟨k + 1, _, by omega, by omega, by go_num, hv2, ho2 _ _ _ (by omega) (by omega) m3, ?_, m5.trans hb2, Nat.le_trans m6 hk2.size, m7.trans hk2⟩
          rw [HEk.out]; unfold OwnI; rw [List.length_append]; simpa using hr2
        case measure => simp [intOf]; omega
      · obtain rfl : k = xb := by omega
        gi_wp2
        refine ⟨m7.trans (Rf.Leaves.grown (grownBy_setCell' _ _ _) (fun r e => by cases e; exact ⟨by omega, .inl (by omega)⟩)), v3, m2.other (by omega) _, ?_, ?_, m5.setCell (p := ⟨w4.heap.size + 1, 0, none⟩) (by show w4.heap.size ≤ w4.heap.size + 1; omega) _⟩
        · rw [HG.out]; exact m3.set _
        · rw [HF.out]; exact Rf.own_other m4 (by omega) _
  case done =>
    rintro W2 ⟨v, h2, h3, h4, h5⟩ hK
    rw [← fill_all s hs] at h4
    have cw := works_any W2
    have hc2 := h2.cell
    have s5 := h5.size
    go_wp2_with fail
    refine cw.mono ?_
    rintro e w5 ⟨rfl, q5⟩
    have g2 : Boxed w5 w4.heap.size 24 v := (q5.block _ h2.lt).trans h2
    have gc2 := g2.cell
    have b5 : Boxed w5 w.heap.size 4 (.bool false) := (q5.block _ (by have := b3.lt; omega)).trans ((h5.block _ b3.lt).trans b3)
    have r1 : RdI w5 (.slice la (numsTo s 64).length lcap) (numsTo s 64) := ((rdI_own hl3).below h5).below q5
    have r2 : RdI w5 v (numsTo s 64) := (rdI_own h4).below q5
    have cs := same_any _ _ _ _ w5 r1 r2
    rw [decide_eq_true rfl] at cs
    have cc : Hid (∀ w, Calls Tryd.prog 32 #[st s] w fun e w' => e = .returned (nu ((numsTo s 64).length : Nat)) ∧ w' = w) := fun w => by rw [numsTo_len]; exact count_any s w hs
    have QB : Below w.heap.size w w5 := ((q2.trans (q3.mono s2)).trans (h5.mono (by omega))).trans (q5.mono (by omega))
    have hD : w5.heap[W0.heap.size]? = some (.deferred (some [])) := (q5.block _ (Array.getElem?_eq_some_iff.1 hK).1).trans hK
    obtain ⟨a2, cap2, rfl, hc2', hm2', _⟩ := r2
    clear r1 hc2 h2 h3 h4 hm2' hc2'
    go_wp2_with fail
    refine cs.mono ?_
    rintro e w6 ⟨rfl, n6, rfl⟩
    go_wp2_with fail
    refine (cc.out _).mono ?_
    rintro e w6 ⟨rfl, rfl⟩
    have bf := b5.frozen
    have bc := b5.cell
    have hE : ((w5.drewN n6).setCell ⟨w.heap.size, 0, none⟩ (.bool true)).heap[w4.heap.size + 3]? = some (.deferred (some [])) := (KeepsOthers.setCell (w5.drewN n6) ⟨w.heap.size, 0, none⟩ (.bool true)).same _ _ (by rw [← hs0]; exact hD) rfl
    have b6 : Boxed ((w5.drewN n6).setCell ⟨w.heap.size, 0, none⟩ (.bool true)) w.heap.size 4 (.bool true) := Boxed.set _ (show Boxed (w5.drewN n6) w.heap.size 4 (.bool false) from b5)
    have QB6 : Below w.heap.size w ((w5.drewN n6).setCell ⟨w.heap.size, 0, none⟩ (.bool true)) := Below.setCell (p := ⟨w.heap.size, 0, none⟩) (show Below w.heap.size w (w5.drewN n6) from ⟨QB.os, QB.tape, QB.output, QB.size, QB.block⟩) (Nat.le_refl _) _
    go_wp2
    refine ⟨by simp, .inl ⟨_, _, rfl, run_takeDeferred hE, ?_⟩⟩
    have b7 := b6.kept (grownBy_putObj' _ (w4.heap.size + 3) (.deferred none)) (by simp; omega)
    have b7c := b7.cell
    refine ⟨.bool true, ?_, rfl, QB6.grown (grownBy_putObj' _ _ _) QB6.size (fun r e => by cases e; omega)⟩
    generalize ((w5.drewN n6).setCell ⟨w.heap.size, 0, none⟩ (.bool true)).putObj (w4.heap.size + 3) (.deferred none) = W9 at *
    have hres : Tryd.f26.results = #[.cell 2 4] := rfl
    simp [results, hres, go_sem, b7c]
end Bt
end Go.Proofs.YtffaogkinhkgdaaDoor
