/- Runs hands out a set's rows of numbers. -/
import Derived.Test.YtffaogkinhkgdaaDoorIter
namespace Go.Proofs.YtffaogkinhkgdaaDoor
open Go.RowKit
namespace Bt
set_option linter.unusedSimpArgs false
set_option linter.unusedVariables false
attribute [local go_sem] Oper.semAt_some

theorem runsMake_any (s : Nat) (w : World) : Calls Tryd.prog 8 #[st s] w fun e w' => e = .returned (.func (.func 17) #[] #[.pointer (some ⟨w.heap.size, 0, none⟩)]) ∧ w' = w.alloc (.cells #[st s] 23) := by
  go_enter Tryd.func8, Tryd.ntmps8
  go_wp2
  go_ret
  exact ⟨rfl, rfl⟩

theorem eq_all_nil (p : Option Addr) (w : World) : (binOp BinOp.eql 28 (.func (.func 15) #[] #[.pointer p]) .nilFunc).run Tryd.prog w = .ok (.bool false) w := by kernel_rfl
theorem eq_runs_nil (p : Option Addr) (w : World) : (binOp BinOp.eql 31 (.func (.func 17) #[] #[.pointer p]) .nilFunc).run Tryd.prog w = .ok (.bool false) w := by kernel_rfl

/-- Where the next number is x, all between m and x are out. -/
theorem gap_facts {s m x : Nat} (hx : x < 64) (hb : s.testBit x = true) (h : numsL s m = numsL s x) : m ≤ x ∧ rowsTo s x = rowsTo s m ∧ (∀ y, x = y + 1 → s.testBit y = true → m = x) := by
  have hm : m ≤ x := by
    rcases Nat.lt_or_ge x m with h' | h'
    · have : x ∈ numsL s m := numsL_mem.2 ⟨h', hb⟩
      rw [h] at this
      have := (numsL_mem.1 this).1
      omega
    · exact h'
  have hz : ∀ i, m ≤ i → i < x → s.testBit i = false := fun i h1 h2 => by
    cases hi : s.testBit i with
    | false => rfl
    | true =>
      have : i ∈ numsL s x := numsL_mem.2 ⟨h2, hi⟩
      rw [← h] at this
      have := (numsL_mem.1 this).1
      omega
  refine ⟨hm, rows_gap s hm hz, fun y hy hby => ?_⟩
  rcases Nat.lt_or_ge m x with h' | h'
  · have := hz y (by omega) (by omega)
    rw [this] at hby; cases hby
  · omega

theorem has_prev (s x : Nat) (hx : x < 64) : hasB s ((x : Int) - 1) = true ↔ ∃ y, x = y + 1 ∧ s.testBit y = true := by
  cases x with
  | zero => simp [hasB]
  | succ y =>
    rw [show ((y + 1 : Nat) : Int) - 1 = (y : Int) by omega]
    simp [hasB]; omega
theorem has_next (s x : Nat) (hs : s < 18446744073709551616) (hx : x < 64) : hasB s ((x : Int) + 1) = s.testBit (x + 1) := by
  rw [show (x : Int) + 1 = ((x + 1 : Nat) : Int) by omega]
  by_cases h : x + 1 < 64
  · simp [hasB]; omega
  · rw [bit_high hs (by omega)]; simp [hasB]; omega

theorem yieldAt_in (l' : Nat) {m : Nat} {P : Program} {l : Nat} {args : Array Value} {W : World} {R : Ending → World → Prop} (h : YieldAt Fence.wide m P l args W R) : YieldAt (Fence.wide.inRound l') m P l args W R := h

set_option maxRecDepth 1000000 in
set_option maxHeartbeats 4000000 in
theorem runs_seq (s Bs : Nat) (w : World) (hs : s < 18446744073709551616) (hBs : Boxed w Bs 23 (st s)) (hT : Tab w) (h1 : 0 < w.heap.size) :
    Rf.Seq Tryd.prog 17 #[.pointer (some ⟨Bs, 0, none⟩)] (fun r : Nat × Nat => #[nu r.1, nu r.2]) (fun b => b = 0 ∨ b = Bs) 5 (rowsTo s 64) w := by
  intro l J Jx W hW hJ hJx hY h0
  have hlt := hBs.lt
  have hc : Boxed W Bs 23 (st s) := (hW.block Bs hlt).trans hBs
  have hT2 : Tab W := fun j hj => (hW.cell (p := ⟨0, j, none⟩) h1).trans (hT j hj)
  have hsz := hW.size
  clear hT hBs
  refine callsIn_of_wp_marks Tryd.func17 rfl trivial ?_ rfl
  refine wpIn_wide.2 ?_
  simp only [Tryd.ntmps17, List.size_toArray, List.length_cons, List.length_nil, Nat.reduceAdd, Nat.reduceSub, Array.replicate_succ, Array.replicate_zero, List.push_toArray, List.append_toArray, List.nil_append, List.cons_append]
  have hcc := ((hc.alloc (.cells #[.func (.yield l) #[] #[]] 39)).alloc (.cells #[.int .i64 0] 3)).cell
  go_wp2_with fail
  refine (allMake_any s _).mono ?_
  rintro e w1 ⟨rfl, rfl⟩
  go_wp2_with fail
  have hs0 : (((W.alloc (.cells #[.func (.yield l) #[] #[]] 39)).alloc (.cells #[.int .i64 0] 3)).alloc (.cells #[st s] 23)).heap.size = W.heap.size + 3 := by simp
  have hb1 : Boxed (((W.alloc (.cells #[.func (.yield l) #[] #[]] 39)).alloc (.cells #[.int .i64 0] 3)).alloc (.cells #[st s] 23)) W.heap.size 39 (.func (.yield l) #[] #[]) := ((Boxed.new W _ _).alloc _).alloc _
  have hb2 : Boxed (((W.alloc (.cells #[.func (.yield l) #[] #[]] 39)).alloc (.cells #[.int .i64 0] 3)).alloc (.cells #[st s] 23)) (W.heap.size + 1) 3 (nu (0 : Nat)) := by
    have := (Boxed.new (W.alloc (.cells #[.func (.yield l) #[] #[]] 39)) 3 (.int .i64 0)).alloc (.cells #[st s] 23)
    simpa using this
  have hb3 : Boxed (((W.alloc (.cells #[.func (.yield l) #[] #[]] 39)).alloc (.cells #[.int .i64 0] 3)).alloc (.cells #[st s] 23)) (W.heap.size + 1 + 1) 23 (st s) := by
    have := Boxed.new ((W.alloc (.cells #[.func (.yield l) #[] #[]] 39)).alloc (.cells #[.int .i64 0] 3)) 23 (st s)
    simpa using this
  have hb4 : Boxed (((W.alloc (.cells #[.func (.yield l) #[] #[]] 39)).alloc (.cells #[.int .i64 0] 3)).alloc (.cells #[st s] 23)) Bs 23 (st s) := ((hc.alloc _).alloc _).alloc _
  have hJ0 : J [] (((W.alloc (.cells #[.func (.yield l) #[] #[]] 39)).alloc (.cells #[.int .i64 0] 3)).alloc (.cells #[st s] 23)) := hJ.alloc _ (hJ.alloc _ (hJ.alloc _ h0))
  have hB0 : Below W.heap.size W (((W.alloc (.cells #[.func (.yield l) #[] #[]] 39)).alloc (.cells #[.int .i64 0] 3)).alloc (.cells #[st s] 23)) := (((Below.refl _ W).alloc (Nat.le_refl _) _).alloc (by simp) _).alloc (by simp; omega) _
  have hT0 : Tab (((W.alloc (.cells #[.func (.yield l) #[] #[]] 39)).alloc (.cells #[.int .i64 0] 3)).alloc (.cells #[st s] 23)) := fun j hj => (hB0.cell (p := ⟨0, j, none⟩) (by show 0 < W.heap.size; omega)).trans (hT2 j hj)
  generalize (((W.alloc (.cells #[.func (.yield l) #[] #[]] 39)).alloc (.cells #[.int .i64 0] 3)).alloc (.cells #[st s] 23)) = W0 at *
  refine Rf.wp_range (L := numsL s 64) (w0 := W0) rfl (enters_of Tryd.func15 (by kernel_rfl) rfl)
    (all_seq s (W.heap.size + 1 + 1) W0 hs hb3.cell hb3.lt hT0 (by omega)) (Below.refl _ _) (fun _ => rfl) (fun b hb => by subst hb; omega)
    (fun pre W' => ∃ m f : Nat, m ≤ 64 ∧ pre = numsL s m ∧ (∀ y, m = y + 1 → s.testBit y = true → f = start s y) ∧ Boxed W' W.heap.size 39 (.func (.yield l) #[] #[]) ∧ Boxed W' (W.heap.size + 1) 3 (nu f) ∧ Boxed W' Bs 23 (st s) ∧ J (rowsTo s m) W')
    (fun c pre W' => c = .ret ∧ ∃ q, q <+: rowsTo s 64 ∧ Jx q W') ?rest ?restx
    ⟨0, 0, by omega, rfl, fun y hy => by omega, hb1, hb2, hb4, hJ0⟩
    (fun x => { tmps := #[.func (.yield l) #[] #[], .pointer (some ⟨Bs, 0, none⟩), .pointer (some ⟨W.heap.size, 0, none⟩), .pointer (some ⟨W.heap.size + 1, 0, none⟩), nu x, st s, .func (.func 15) #[] #[.pointer (some ⟨W.heap.size + 1 + 1, 0, none⟩)], nu x, undef, undef, undef, undef, undef, undef, undef, undef, undef, undef, undef, undef, undef, undef, undef, undef, undef, undef, undef], defers := [] }) ?assign ?body ?done ?stop
  case rest =>
    rintro pre A B row ⟨m, f, h2, h3, h4, h5, h6, h7, h8⟩ hg hr
    have ne : ∀ b, b < W0.heap.size → some b ≠ row := fun b hb e => by have := (hr b e.symm).1; omega
    exact ⟨m, f, h2, h3, h4, h5.kept hg (ne _ (by omega)), h6.kept hg (ne _ (by omega)), h7.kept hg (ne _ (by omega)), hJ _ A B row h8 hg (hr.wider (by omega) (by omega))⟩
  case restx =>
    rintro c pre A B row ⟨h2, q, h3, h4⟩ hg hr
    exact ⟨h2, q, h3, hJx _ A B row h4 hg (hr.wider (by omega) (by omega))⟩
  case assign =>
    intro l' x W2 K hK
    gi_wp2
    exact hK
  case body =>
    rintro l' pre x W2 hpre hsz2 ⟨m, f, h2, rfl, h4, h5, h6, h7, h8⟩
    obtain ⟨hx, hbx, hnum⟩ := next_num hpre
    obtain ⟨hmx, hrow, hfirst⟩ := gap_facts hx hbx hnum
    have hc5 := h5.cell
    have hc6 := h6.cell
    have hf6 := h6.frozen
    have hc7 := h7.cell
    have p1 := has_any s ((x : Int) - 1) W2 hs
    have hnum' : numsL s m ++ [x] = numsL s (x + 1) := by rw [hnum, numsL_succ, hbx]; rfl
    rw [← hrow] at h8
    have hst : ∀ y, x + 1 = y + 1 → s.testBit y = true → start s x = start s y := fun y hy _ => by rw [show x = y by omega]
    by_cases hprev : hasB s ((x : Int) - 1) = true
    · rw [hprev] at p1
      have hf : f = start s x := by
        obtain ⟨y, hy, hby⟩ := (has_prev s x hx).1 hprev
        have hmm := hfirst y hy hby
        rw [h4 y (by omega) hby, hy, start, hby]; simp
      subst hf
      gi_wp2_with fail
      refine ⟨trivial, CallsIn.inRound l' (callsIn_wide.2 p1) |>.mono ?_⟩
      rintro e w1 ⟨rfl, rfl⟩
      have g5 := h5
      have g6 := h6
      have g7 := h7
      have g8 := h8
      have lv : Rf.Leaves (fun b => b = 0) W0.heap.size (W0.heap.size + 2 + 0) w1 w1 := Rf.Leaves.refl _ _ _ _
      clear hprev p1 h8 hrow hfirst h4
      have p2 := has_any s ((x : Int) + 1) w1 hs
      rw [has_next s x hs hx] at p2
      cases hnx : s.testBit (x + 1) with
      | true =>
        rw [hnx] at p2
        have hR2 : rowsTo s (x + 1) = rowsTo s x := by rw [rowsTo, hnx]; simp
        clear hnx
        gi_wp2_with fail
        refine ⟨trivial, CallsIn.inRound l' (callsIn_wide.2 p2) |>.mono ?_⟩
        rintro e w1 ⟨rfl, rfl⟩
        gi_wp2
        refine ⟨fun _ h => (by cases h), ?_⟩
        gi_wp2
        exact ⟨lv, x + 1, start s x, by omega, hnum', hst, g5, g6, g7, by rw [hR2]; exact g8⟩
      | false =>
        rw [hnx] at p2
        have hR2 : rowsTo s x ++ [(start s x, x + 1)] = rowsTo s (x + 1) := by rw [rowsTo, hnx, hbx]; simp
        obtain ⟨fn, tmps, assign, body, hy, hR⟩ := yieldAt_in l' (Rf.yieldAt_any (m' := 6) (hY (rowsTo s x) (start s x, x + 1) w1 (by rw [hR2]; exact rows_prefix s (by omega)) (by have := lv.size; omega) g8))
        rw [hR2] at hR
        have e1 : ((x + 1 : Nat) : Int) = (x : Int) + 1 := by omega
        dsimp only at hy
        rw [e1] at hy
        clear hnx e1
        gi_wp2_with fail
        refine ⟨trivial, CallsIn.inRound l' (callsIn_wide.2 p2) |>.mono ?_⟩
        rintro e w1 ⟨rfl, rfl⟩
        gi_wp2_with fail
        refine hR.mono ?_
        rintro e W4 (⟨rfl, hJ4, hk4⟩ | ⟨rfl, hJx4, hk4⟩)
        · gi_wp2
          exact ⟨lv.trans (hk4.sub (fun b hb => .inl hb) (by omega) (by omega)), x + 1, start s x, by omega, hnum', hst,
            hk4.boxed (.inr ⟨Nat.le_refl _, by omega⟩) g5, hk4.boxed (.inr ⟨by omega, by omega⟩) g6, hk4.boxed (.inl (.inr rfl)) g7, hJ4⟩
        · gi_wp2
          exact ⟨lv.trans (hk4.sub (fun b hb => .inl hb) (by omega) (by omega)), rfl, rowsTo s (x + 1), rows_prefix s (by omega), hJx4⟩
    · have hprev' : hasB s ((x : Int) - 1) = false := by simpa using hprev
      rw [hprev'] at p1
      have hf : x = start s x := by
        cases x with
        | zero => rfl
        | succ y =>
          have : s.testBit y = false := by
            cases hy : s.testBit y with
            | false => rfl
            | true => exact absurd ((has_prev s (y + 1) hx).2 ⟨y, rfl, hy⟩) hprev
          rw [start, this]; simp
      have g5 := h5.other (B' := W.heap.size + 1) (by omega) (nu x)
      have g6 : Boxed (W2.setCell ⟨W.heap.size + 1, 0, none⟩ (nu x)) (W.heap.size + 1) 3 (nu (start s x : Nat)) := by
        rw [← hf]; exact h6.set (nu x)
      have g7 := h7.other (B' := W.heap.size + 1) (by omega) (nu x)
      have g8 := hJ.setCell (b := W.heap.size + 1) (nu x) h8 (by omega) (by omega)
      have lv : Rf.Leaves (fun b => b = 0) W0.heap.size (W0.heap.size + 2 + 0) W2 (W2.setCell ⟨W.heap.size + 1, 0, none⟩ (nu x)) := Rf.Leaves.grown (grownBy_setCell' _ _ _) (fun r e => by cases e; exact ⟨by omega, .inl (by omega)⟩)
      have gc5 := g5.cell
      have gc7 := g7.cell
      have HF : Hid (x = start s x) := hf
      clear hf
      gi_wp2_with fail
      refine ⟨trivial, CallsIn.inRound l' (callsIn_wide.2 p1) |>.mono ?_⟩
      rintro e w1 ⟨rfl, rfl⟩
      clear hprev hprev' p1 h8 hrow hfirst h4
      have p2 := has_any s ((x : Int) + 1) (w1.setCell ⟨W.heap.size + 1, 0, none⟩ (nu x)) hs
      rw [has_next s x hs hx] at p2
      cases hnx : s.testBit (x + 1) with
      | true =>
        rw [hnx] at p2
        have hR2 : rowsTo s (x + 1) = rowsTo s x := by rw [rowsTo, hnx]; simp
        clear hnx
        gi_wp2_with fail
        refine ⟨trivial, CallsIn.inRound l' (callsIn_wide.2 p2) |>.mono ?_⟩
        rintro e w1 ⟨rfl, rfl⟩
        gi_wp2
        refine ⟨fun _ h => (by cases h), ?_⟩
        gi_wp2
        exact ⟨lv, x + 1, start s x, by omega, hnum', hst, g5, g6, g7, by rw [hR2]; exact g8⟩
      | false =>
        rw [hnx] at p2
        have hR2 : rowsTo s x ++ [(start s x, x + 1)] = rowsTo s (x + 1) := by rw [rowsTo, hnx, hbx]; simp
        obtain ⟨fn, tmps, assign, body, hy, hR⟩ := yieldAt_in l' (Rf.yieldAt_any (m' := 6) (hY (rowsTo s x) (start s x, x + 1) (w1.setCell ⟨W.heap.size + 1, 0, none⟩ (nu x)) (by rw [hR2]; exact rows_prefix s (by omega)) (by have := lv.size; omega) g8))
        rw [hR2] at hR
        have e1 : ((x + 1 : Nat) : Int) = (x : Int) + 1 := by omega
        dsimp only at hy
        rw [e1, ← HF.out] at hy
        clear hnx e1
        gi_wp2_with fail
        refine ⟨trivial, CallsIn.inRound l' (callsIn_wide.2 p2) |>.mono ?_⟩
        rintro e w1 ⟨rfl, rfl⟩
        gi_wp2_with fail
        refine hR.mono ?_
        rintro e W4 (⟨rfl, hJ4, hk4⟩ | ⟨rfl, hJx4, hk4⟩)
        · gi_wp2
          exact ⟨lv.trans (hk4.sub (fun b hb => .inl hb) (by omega) (by omega)), x + 1, start s x, by omega, hnum', hst,
            hk4.boxed (.inr ⟨Nat.le_refl _, by omega⟩) g5, hk4.boxed (.inr ⟨by omega, by omega⟩) g6, hk4.boxed (.inl (.inr rfl)) g7, hJ4⟩
        · gi_wp2
          exact ⟨lv.trans (hk4.sub (fun b hb => .inl hb) (by omega) (by omega)), rfl, rowsTo s (x + 1), rows_prefix s (by omega), hJx4⟩
  case done =>
    rintro W2 ⟨m, f, h2, h3, h4, h5, h6, h7, h8⟩ hK
    have e : rowsTo s 64 = rowsTo s m := rows_gap s h2 (fun i i1 i2 => by
      cases hi : s.testBit i with
      | false => rfl
      | true =>
        have : i ∈ numsL s 64 := numsL_mem.2 ⟨i2, hi⟩
        rw [h3] at this
        have := (numsL_mem.1 this).1
        omega)
    go_wp2
    refine ⟨by simp, .inl ⟨_, _, rfl, run_takeDeferred hK, ?_⟩⟩
    exact ⟨_, results_none rfl _ _ _, ⟨_, rfl⟩, .inl (by rw [e]; exact hJ.putObj _ h8 (by omega) hK rfl)⟩
  case stop =>
    rintro c pre W2 hpre ⟨rfl, q, h3, h4⟩ hK
    go_wp2
    refine ⟨by simp, .inl ⟨_, _, rfl, run_takeDeferred hK, ?_⟩⟩
    exact ⟨_, results_none rfl _ _ _, ⟨_, rfl⟩, .inr ⟨q, h3, hJx.putObj _ h4 (by omega) hK rfl⟩⟩
end Bt
end Go.Proofs.YtffaogkinhkgdaaDoor
