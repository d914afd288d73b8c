/- Layer 22: what is granted is granted for less. -/
import Derived.Test.YtbgggekkkcefcaaDoorGrZ
namespace Go.Proofs.YtbgggekkkcefcaaDoor
set_option linter.ambiguousOpen false
open Go.RowKit
namespace Gr
set_option linter.unusedVariables false
set_option linter.unusedSimpArgs false

theorem wpList_store_rq {ops : Array Oper} {rest : List Oper} {op : Oper} {a : Act} {w : World} {Q : Exit → Act → World → Prop} (hgd : op.guard = none) (x y : Operand) (ho : op.op = .store 25 x y)
    (g : Nat) (hx : a.eval x = .pointer (some ⟨g, 0, none⟩)) (s z : Rq) (hy : a.eval y = s.v) (hz : w.heap[g]? = some (.cells z.arr 25))
    (h : ∀ w', w'.heap[g]? = some (.cells s.arr 25) → w.grownBy w' (some g) → wpList Tryd.prog ops Q rest (a.put op.dst undef) w') : wpList Tryd.prog ops Q (op :: rest) a w := by
  refine wpList_plain hgd fun K hK => ?_
  have hrun := run_storeVar_row (P := Tryd.prog) w g _ 25 z.arr s.arr hz size_rq rfl (by simp [Rq.arr, Value.oneCell'])
  have hk := hK _ _ (h (w.setRow g s.arr) (setRow_heap w g _ _ _ _ hz) ⟨rfl, rfl, rfl, by simp, fun k hk hn => setRow_other _ _ _ _ (fun e => hn (by rw [e]))⟩)
  unfold Oper.wp execOp
  simp only [ho, hx, hy, Rq.v, Instr.storeAt, Instr.sureAddr, Sem.run_bind, Sem.run_pure, Result.andThen_ok, hrun]
  exact hk

/-- What a law holds, with requests of its own. -/
structure AtX (w0 : World) (p : Sn) (r : Rq) (now births : Int) (full : Bool) (L : List (Nat × Rq)) (w : World) : Prop where
  at' : AtC w0.heap.size p r now births full w
  more : ∀ x ∈ L, w.heap[x.1]? = some (.cells x.2.arr 25)
  bel : Below w0.heap.size w0 w

section
variable {w0 : World} {p : Sn} {r : Rq} {now births : Int} {full : Bool} {L : List (Nat × Rq)} {w w' : World}

theorem AtX.below (h : AtX w0 p r now births full L w) (hb : Below w.heap.size w w') : AtX w0 p r now births full L w' :=
  ⟨h.at'.below hb, fun x hx => (hb.block _ (Array.getElem?_eq_some_iff.1 (h.more x hx)).1).trans (h.more x hx), h.bel.trans (hb.mono h.bel.size)⟩

theorem AtX.new {o : Obj} (h : AtX w0 p r now births full L w) (hg : (w.alloc o).grownBy w' (some w.heap.size)) : AtX w0 p r now births full L w' :=
  ⟨h.at'.new hg, fun x hx => new_far (h.more x hx) hg, new_below h.bel hg⟩

theorem AtX.put {g k : Nat} {v : Value} (h : AtX w0 p r now births full L w) (hg : w0.heap.size + 2 < g) (hL : ∀ x ∈ L, x.1 ≠ g) : AtX w0 p r now births full L (w.setCell ⟨g, k, none⟩ v) :=
  ⟨⟨(setCell_off w k v (by omega)).trans h.at'.hp, (setCell_off w k v (by omega)).trans h.at'.hr, (setCell_off w k v (by omega)).trans h.at'.hx⟩, fun x hx => (setCell_off w k v (fun e => hL x hx e.symm)).trans (h.more x hx), h.bel.setCell (p := ⟨g, k, none⟩) (by show w0.heap.size ≤ g; omega) v⟩

theorem AtX.add {g : Nat} {q : Rq} (h : AtX w0 p r now births full L w) (hg : w.heap[g]? = some (.cells q.arr 25)) : AtX w0 p r now births full ((g, q) :: L) w :=
  ⟨h.at', fun x hx => by
    rcases List.mem_cons.1 hx with rfl | hx
    · exact hg
    · exact h.more x hx, h.bel⟩

theorem AtX.lt (h : AtX w0 p r now births full L w) : w0.heap.size + 2 < w.heap.size := (Array.getElem?_eq_some_iff.1 h.at'.hx).1
end

theorem until_less {n l m : Int} (h : Ck.untilB n l m = true) (h1 : 1 < l) : Ck.untilB n (l - 1) m = true := by
  have := Ck.untilB_iff.1 h
  exact Ck.untilB_iff.2 (by omega)

theorem below_less {p : Sn} {r : Rq} {now L : Int} (h : belowE p r now = 0) (h1 : 1 < r.life) (hL : L = r.life - 1) : belowE p { r with life := L } now = 0 := by
  subst hL
  unfold belowE at h ⊢
  cases h2 : nmB r.label
  · simp [h2] at h
  cases h3 : Ck.untilB now r.life p.deadline
  · simp [h2, h3] at h
  simp only [h2, h3, until_less h3 h1] at h ⊢
  exact h

theorem child_less {p : Sn} {r : Rq} {now births L : Int} {full : Bool} (h : childE p r now births full = 0) (h1 : 1 < r.life) (hL : L = r.life - 1) : childE p { r with life := L } now births full = 0 := by
  unfold childE at h ⊢
  by_cases h2 : belowE p r now = 0
  · rw [below_less h2 h1 hL]
    rw [h2] at h
    exact h
  · simp [h2] at h

theorem raise_less {p : Sn} {r : Rq} {now births L : Int} {full : Bool} (h : raiseE p r now births full = 0) (h1 : 1 < r.life) (hL : L = r.life - 1) : raiseE p { r with life := L } now births full = 0 := by
  unfold raiseE at h ⊢
  by_cases h8 : belowE p r now = 8
  · simp [h8] at h
  by_cases h0 : r.life < 1 ∨ 300 < r.life
  · simp [h8, h0] at h
  by_cases h2 : belowE p r now = 0
  · rw [below_less h2 h1 hL]
    have h3 : ¬ (L < 1 ∨ 300 < L) := by omega
    simp only [h2, h0, h3, if_false] at h ⊢
    exact h
  · simp [h8, h0, h2] at h

theorem child_few {p : Sn} {r : Rq} {now births : Int} {full : Bool} (h : childE p r now births full = 0) : childE p { r with scopes := r.scopes &&& 5 } now births full = 0 := by
  unfold childE at h ⊢
  have e : belowE p { r with scopes := r.scopes &&& 5 } now = belowE p r now := rfl
  rw [e]
  by_cases h2 : belowE p r now = 0
  · cases h3 : inB r.scopes p.scopes
    · simp [h2, h3] at h
    · have h4 : inB (r.scopes &&& 5) p.scopes = true := by
        unfold inB Bt.less at h3 ⊢
        have h5 : r.scopes &&& (18446744073709551615 - p.scopes) = 0 := by simpa using h3
        have h6 : (r.scopes &&& 5) &&& (18446744073709551615 - p.scopes) = 0 := by
          rw [Nat.and_assoc, Nat.and_comm 5, ← Nat.and_assoc, h5, Nat.zero_and]
        simpa using h6
      simp only [h2, h3, h4, ne_eq, not_true_eq_false, if_false, Bool.true_eq_false] at h ⊢
      exact h
  · simp [h2] at h

set_option maxRecDepth 100000 in
set_option maxHeartbeats 32000000 in
theorem less_yes (p : Sn) (r : Rq) (now births : Int) (full : Bool) (w : World) (hp : p.fit) (hr : r.fit) (hS : Lv.StepsG w) :
    Calls Tryd.prog 8 #[p.v, r.v, .agg #[nu now, nu births, .bool full]] w fun e w' => e = .returned (.bool true) ∧ Below w.heap.size w w' := by
  obtain ⟨hr1, hr2, hr3, hr4, hr5⟩ := hr
  have hr' : r.fit := ⟨hr1, hr2, hr3, hr4, hr5⟩
  obtain ⟨L1, hL1⟩ : ∃ L, wrap64 (r.life - 1) = L := ⟨_, rfl⟩
  have hLr : i64 L1 := by
    unfold i64
    rw [← hL1]
    unfold wrap64
    omega
  obtain ⟨F1, hF1⟩ : ∃ F, r.scopes &&& 5 = F := ⟨_, rfl⟩
  have hFr : F1 < 18446744073709551616 := by
    rw [← hF1]
    exact Nat.lt_of_le_of_lt Nat.and_le_left hr3
  have hand : bits .and .u64 (r.scopes : Int) 5 = (F1 : Int) := by
    rw [← hF1]
    exact u64_and_nat r.scopes 5 hr3 (by decide)
  obtain ⟨le, hle⟩ : ∃ q : Rq, { r with life := L1 } = q := ⟨_, rfl⟩
  obtain ⟨fe, hfe⟩ : ∃ q : Rq, { r with scopes := F1 } = q := ⟨_, rfl⟩
  have hlef : le.fit := by rw [← hle]; exact ⟨hr1, hr2, hr3, hr4, hLr⟩
  have hfef : fe.fit := by rw [← hfe]; exact ⟨hr1, hr2, hFr, hr4, hr5⟩
  have cA := hidG fun wx => child_p p r now births full wx hp hr'
  have cB := hidG fun wx => child_p p le now births full wx hp hlef
  have cC := hidG fun wx => child_p p fe now births full wx hp hfef
  have cD := hidG fun wx (hx : Lv.StepsG wx) => raised_p p r now births full wx hp hr' hx
  have cE := hidG fun wx (hx : Lv.StepsG wx) => raised_p p le now births full wx hp hlef hx
  obtain ⟨A, hA⟩ : ∃ A, childE p r now births full = A := ⟨_, rfl⟩
  obtain ⟨B, hB⟩ : ∃ A, childE p le now births full = A := ⟨_, rfl⟩
  obtain ⟨C, hC⟩ : ∃ A, childE p fe now births full = A := ⟨_, rfl⟩
  obtain ⟨D, hD⟩ : ∃ A, raiseE p r now births full = A := ⟨_, rfl⟩
  obtain ⟨E, hE⟩ : ∃ A, raiseE p le now births full = A := ⟨_, rfl⟩
  have hlife : 1 < r.life → L1 = r.life - 1 := fun h => by
    rw [← hL1]
    unfold i64 at hr5
    unfold wrap64
    omega
  have fAB : A = 0 → 1 < r.life → B = 0 := fun h h1 => by
    rw [← hB, ← hle]
    exact child_less (hA.trans h) h1 (hlife h1)
  have fAC : A = 0 → C = 0 := fun h => by
    rw [← hC, ← hfe, ← hF1]
    exact child_few (hA.trans h)
  have fDE : D = 0 → 1 < r.life → E = 0 := fun h h1 => by
    rw [← hE, ← hle]
    exact raise_less (hD.trans h) h1 (hlife h1)
  rw [hA] at cA
  rw [hB] at cB
  rw [hC] at cC
  rw [hD] at cD
  rw [hE] at cE
  obtain ⟨S1, hS1⟩ : ∃ S, orS A (childS p r now births) = S := ⟨_, rfl⟩
  obtain ⟨S2, hS2⟩ : ∃ S, orS B (childS p le now births) = S := ⟨_, rfl⟩
  obtain ⟨S3, hS3⟩ : ∃ S, orS C (childS p fe now births) = S := ⟨_, rfl⟩
  obtain ⟨S4, hS4⟩ : ∃ S, orS D (raiseS p r now births) = S := ⟨_, rfl⟩
  obtain ⟨S5, hS5⟩ : ∃ S, orS E (raiseS p le now births) = S := ⟨_, rfl⟩
  rw [hS1] at cA
  rw [hS2] at cB
  rw [hS3] at cC
  rw [hS4] at cD
  rw [hS5] at cE
  obtain ⟨w0, h0, hAt, hBw⟩ := atC_start w p r now births full
  have H0 : Hid (((w.alloc (.cells #[nu p.slot, nu p.birth, nu p.us, nu p.ub, nu p.kind, .string p.user, .string p.label, su p.scopes, nu p.level, nu p.born, nu p.deadline, nu p.depth] 31)).alloc (.cells #[.string r.user, .string r.label, su r.scopes, nu r.level, nu r.life] 25)).alloc (.cells #[nu now, nu births, .bool full] 27) = w0) := hidG h0
  have X0 : Hid (AtX w p r now births full [] w0) := hidG ⟨hAt, fun _ h => (by cases h), hBw⟩
  have HS := hidG hS
  have HLE := hidG hle
  have HFE := hidG hfe
  have HFAB := hidG fAB
  have HFAC := hidG fAC
  have HFDE := hidG fDE
  clear hA hB hC hD hE hS1 hS2 hS3 hS4 hS5 hlife fAB fAC fDE hLr hFr hlef hfef hF1 hle hfe hr' hp hr1 hr2 hr3 hr4 hr5 h0 hAt hBw hS
  show Calls Tryd.prog 8 #[.agg #[nu p.slot, nu p.birth, nu p.us, nu p.ub, nu p.kind, .string p.user, .string p.label, su p.scopes, nu p.level, nu p.born, nu p.deadline, nu p.depth], .agg #[.string r.user, .string r.label, su r.scopes, nu r.level, nu r.life], .agg #[nu now, nu births, .bool full]] w _
  go_enter Tryd.func8, Tryd.ntmps8
  go_wp2_with fail
  rw [H0.out]
  refine (works22_any _).mono ?_
  rintro e w1 ⟨rfl, hb1⟩
  have X1 := hidG (X0.out.below hb1)
  have HN1 := hidG (heap_alloc_new w1 (.cells zeroR.arr 25))
  clear hb1
  go_upto_region 5 with (first | (refine wpList_load_rq rfl _ rfl (w.heap.size + 1) rfl r X1.out.at'.hr ?_) | (refine wpList_store_rq rfl _ _ rfl w1.heap.size rfl r zeroR rfl HN1.out ?_; intro w2 hh hg; have X2 := hidG (X1.out.new hg); have k4 : w2.cell? ⟨w.heap.size + 1, 4, none⟩ = some (nu r.life) := by { rw [cell_of_row w2 _ 4 _ _ _ X2.out.at'.hr]; rfl }; have c4 : w2.cell? ⟨w1.heap.size, 4, none⟩ = some (nu r.life) := by { rw [cell_of_row w2 _ 4 _ _ _ hh]; rfl }; have f4 : w2.frozen? ⟨w1.heap.size, 4, none⟩ = false := by { simp [World.frozen?, hh] }; have HH2 := hidG hh; clear hh hg) | fail)
  obtain ⟨w3, hw3⟩ : ∃ w3, w2.setCell ⟨w1.heap.size, 4, none⟩ (.int .i64 L1) = w3 := ⟨_, rfl⟩
  rw [hw3]
  have lt1 := X1.out.lt
  have X3 : Hid (AtX w p r now births full [(w1.heap.size, le)] w3) := hidG (by
    rw [← hw3]
    refine (X2.out.put lt1 (fun _ h => (by cases h))).add ?_
    rw [← HLE.out]
    exact heap_setCell_same _ _ 4 _ _ _ HH2.out)
  have HN3 := hidG (heap_alloc_new w3 (.cells zeroR.arr 25))
  have lt3 : Hid (w1.heap.size < w3.heap.size) := hidG (Array.getElem?_eq_some_iff.1 (X3.out.more _ (.head _))).1
  have LT1 := hidG lt1
  clear hw3 k4 c4 f4 HH2 lt1 HN1 X1 X2
  go_upto_region 7 with (first | (refine wpList_load_rq rfl _ rfl (w.heap.size + 1) rfl r X3.out.at'.hr ?_) | (refine wpList_store_rq rfl _ _ rfl w3.heap.size rfl r zeroR rfl HN3.out ?_; intro w4 hh hg; have X4 := hidG (X3.out.new hg); have k2 : w4.cell? ⟨w.heap.size + 1, 2, none⟩ = some (su r.scopes) := by { rw [cell_of_row w4 _ 2 _ _ _ X4.out.at'.hr]; rfl }; have c2 : w4.cell? ⟨w3.heap.size, 2, none⟩ = some (su r.scopes) := by { rw [cell_of_row w4 _ 2 _ _ _ hh]; rfl }; have f2 : w4.frozen? ⟨w3.heap.size, 2, none⟩ = false := by { simp [World.frozen?, hh] }; have HH4 := hidG hh; clear hh hg) | fail)
  obtain ⟨w5, hw5⟩ : ∃ w5, w4.setCell ⟨w3.heap.size, 2, none⟩ (.int .u64 (F1 : Int)) = w5 := ⟨_, rfl⟩
  rw [hw5]
  have X5 : Hid (AtX w p r now births full [(w3.heap.size, fe), (w1.heap.size, le)] w5) := hidG (by
    rw [← hw5]
    refine (X4.out.put (by have := LT1.out; have := lt3.out; omega) (fun x h => ?_)).add ?_
    · have := lt3.out
      rcases List.mem_cons.1 h with rfl | h
      · show w1.heap.size ≠ w3.heap.size
        omega
      · cases h
    · rw [← HFE.out]
      exact heap_setCell_same _ _ 2 _ _ _ HH4.out)
  have x0 := X5.out.at'.x0
  have x1 := X5.out.at'.x1
  have x2 := X5.out.at'.x2
  clear hw5 k2 c2 f2 HH4 HN3 X3 X4 lt3 LT1 hL1 hand
  go_wp2_with (first | (refine wpList_load_sn rfl _ rfl w.heap.size rfl p X5.out.at'.hp ?_) | (refine wpList_load_rq rfl _ rfl (w.heap.size + 1) rfl r X5.out.at'.hr ?_) | fail)
  refine (cA.out _).mono ?_
  rintro e w6 ⟨rfl, hb⟩
  have X6 := hidG (X5.out.below hb)
  have HN6 := hidG (heap_alloc_new w6 (.cells zeroS.arr 31))
  clear hb x0 x1 x2 cA
  go_wp2_with (first | (refine wpList_store_sn rfl _ _ rfl w6.heap.size rfl S1 zeroS rfl HN6.out ?_; intro w7 hh hg; have X7 := hidG (X6.out.new hg); have x0 := X7.out.at'.x0; have x1 := X7.out.at'.x1; have x2 := X7.out.at'.x2; clear hh hg) | (refine wpList_load_sn rfl _ rfl w.heap.size rfl p X7.out.at'.hp ?_) | (refine wpList_load_rq rfl _ rfl w1.heap.size rfl le (X7.out.more _ (.tail _ (.head _))) ?_) | fail)
  refine (cB.out _).mono ?_
  rintro e w8 ⟨rfl, hb⟩
  have X8 := hidG (X7.out.below hb)
  have HN8 := hidG (heap_alloc_new w8 (.cells zeroS.arr 31))
  clear hb x0 x1 x2 cB
  go_wp2_with (first | (refine wpList_store_sn rfl _ _ rfl w8.heap.size rfl S2 zeroS rfl HN8.out ?_; intro w9 hh hg; have X9 := hidG (X8.out.new hg); have x0 := X9.out.at'.x0; have x1 := X9.out.at'.x1; have x2 := X9.out.at'.x2; clear hh hg) | (refine wpList_load_sn rfl _ rfl w.heap.size rfl p X9.out.at'.hp ?_) | (refine wpList_load_rq rfl _ rfl w3.heap.size rfl fe (X9.out.more _ (.head _)) ?_) | fail)
  refine (cC.out _).mono ?_
  rintro e w10 ⟨rfl, hb⟩
  have X10 := hidG (X9.out.below hb)
  have HN10 := hidG (heap_alloc_new w10 (.cells zeroS.arr 31))
  clear hb x0 x1 x2 cC
  go_wp2_with (first | (refine wpList_store_sn rfl _ _ rfl w10.heap.size rfl S3 zeroS rfl HN10.out ?_; intro w11 hh hg; have X11 := hidG (X10.out.new hg); have x0 := X11.out.at'.x0; have x1 := X11.out.at'.x1; have x2 := X11.out.at'.x2; clear hh hg) | (refine wpList_load_sn rfl _ rfl w.heap.size rfl p X11.out.at'.hp ?_) | (refine wpList_load_rq rfl _ rfl (w.heap.size + 1) rfl r X11.out.at'.hr ?_) | fail)
  refine (cD.out _ (HS.out.below X11.out.bel)).mono ?_
  rintro e w12 ⟨rfl, hb⟩
  have X12 := hidG (X11.out.below hb)
  have HN12 := hidG (heap_alloc_new w12 (.cells zeroS.arr 31))
  clear hb x0 x1 x2 cD
  go_wp2_with (first | (refine wpList_store_sn rfl _ _ rfl w12.heap.size rfl S4 zeroS rfl HN12.out ?_; intro w13 hh hg; have X13 := hidG (X12.out.new hg); have x0 := X13.out.at'.x0; have x1 := X13.out.at'.x1; have x2 := X13.out.at'.x2; clear hh hg) | (refine wpList_load_sn rfl _ rfl w.heap.size rfl p X13.out.at'.hp ?_) | (refine wpList_load_rq rfl _ rfl w1.heap.size rfl le (X13.out.more _ (.tail _ (.head _))) ?_) | fail)
  refine (cE.out _ (HS.out.below X13.out.bel)).mono ?_
  rintro e w14 ⟨rfl, hb⟩
  have X14 := hidG (X13.out.below hb)
  have HN14 := hidG (heap_alloc_new w14 (.cells zeroS.arr 31))
  clear hb x0 x1 x2 cE
  go_upto_region 12 with (first | (refine wpList_store_sn rfl _ _ rfl w14.heap.size rfl S5 zeroS rfl HN14.out ?_; intro w15 hh hg; have X15 := hidG (X14.out.new hg); have k4 : w15.cell? ⟨w.heap.size + 1, 4, none⟩ = some (nu r.life) := by { rw [cell_of_row w15 _ 4 _ _ _ X15.out.at'.hr]; rfl }; clear hh hg) | fail)
  have g1 := fun o x c => err_guard o x c A
  have g2 := fun o x c => err_guard o x c B
  have g3 := fun o x c => err_guard o x c C
  have g4 := fun o x c => err_guard o x c D
  have g5 := fun o x c => err_guard o x c E
  have eA := err_eq A
  have nB := err_ne B
  have nC := err_ne C
  have nD := err_ne D
  have eE := err_eq E
  by_cases hD : D = 0
  · rw [bneY hD] at nD
    by_cases hl : 1 < r.life
    · rw [beqY (HFDE.out hD hl)] at eE
      by_cases hA : A = 0
      · rw [beqY hA] at eA
        rw [bneY (HFAB.out hA hl)] at nB
        rw [bneY (HFAC.out hA)] at nC
        clear hA hD
        go_wp2
        go_ret
        exact ⟨rfl, X15.out.bel⟩
      · rw [beqN hA] at eA
        clear hA hD
        go_wp2
        go_ret
        exact ⟨rfl, X15.out.bel⟩
    · have hl2 : r.life ≤ 1 := by omega
      by_cases hA : A = 0
      · rw [beqY hA] at eA
        rw [bneY (HFAC.out hA)] at nC
        clear hA hD
        go_wp2
        go_ret
        exact ⟨rfl, X15.out.bel⟩
      · rw [beqN hA] at eA
        clear hA hD
        go_wp2
        go_ret
        exact ⟨rfl, X15.out.bel⟩
  · rw [bneN hD] at nD
    by_cases hA : A = 0
    · rw [beqY hA] at eA
      rw [bneY (HFAC.out hA)] at nC
      by_cases hl : 1 < r.life
      · rw [bneY (HFAB.out hA hl)] at nB
        clear hA hD
        go_wp2
        go_ret
        exact ⟨rfl, X15.out.bel⟩
      · clear hA hD
        go_wp2
        go_ret
        exact ⟨rfl, X15.out.bel⟩
    · rw [beqN hA] at eA
      clear hA hD
      go_wp2
      go_ret
      exact ⟨rfl, X15.out.bel⟩
end Gr
end Go.Proofs.YtbgggekkkcefcaaDoor
