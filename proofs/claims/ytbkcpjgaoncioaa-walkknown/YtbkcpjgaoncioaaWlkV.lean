/- The program's walk: a session alone in a block; held, isTop. -/
import Derived.Test.YtbkcpjgaoncioaaWlkS
import Derived.Test.YtbkcpjgaoncioaaArnA
import Derived.WalkMore
import Derived.Laws.ResultCell
namespace Go.Proofs.Ytbkcpjgaoncioaa
set_option linter.ambiguousOpen false
open Go.RowKit
namespace Wk
open An Ft Lv
set_option linter.unusedSimpArgs false
set_option linter.unusedVariables false

theorem size_sesQ : (Try.prog.info? 50).map (·.size) = some 12 := by kernel_rfl

@[reducible] def sesQ : Array Value := #[.int .i64 0, .int .i64 0, .int .i64 0, .int .i64 0, .int .i64 0, .string ⟨#[]⟩, .string ⟨#[]⟩, .int .u64 0, .int .i64 0, .int .i64 0, .int .i64 0, .int .i64 0]

theorem ses_len (x : Ses) : x.cells.length = 12 := rfl

theorem ses_oneQ (x : Ses) : ∀ u ∈ x.cells, u.oneCell' = true := by
  intro u hu
  simp [Ses.cells] at hu
  rcases hu with rfl | rfl | rfl | rfl | rfl | rfl | rfl | rfl | rfl | rfl | rfl | rfl <;> rfl

/-- As a value. -/
@[reducible] def sesV (x : Ses) : Value := .agg x.cells.toArray

/-- A session lies alone in a block. -/
def LoneS (w : World) (b : Nat) (x : Ses) : Prop := w.heap[b]? = some (.cells x.cells.toArray 50)

theorem loneS_zero (w : World) : LoneS (w.alloc (.cells sesQ 50)) w.heap.size ses0 := heap_alloc_new _ _

theorem loneS_new (w : World) (x : Ses) : LoneS (w.alloc (.cells x.cells.toArray 50)) w.heap.size x := heap_alloc_new _ _

theorem all_oneS (x : Ses) : x.cells.toArray.all (·.oneCell') = true := all_oneCell_toArray (ses_oneQ x)

theorem LoneS.lt {w : World} {b : Nat} {x : Ses} (h : LoneS w b x) : b < w.heap.size := (Array.getElem?_eq_some_iff.1 h).1

theorem LoneS.below {w w' : World} {b : Nat} {x : Ses} (h : LoneS w b x) (hb : Below w.heap.size w w') : LoneS w' b x := (hb.block b h.lt).trans h

theorem LoneS.grown {w w' : World} {b : Nat} {x : Ses} (h : LoneS w b x) {r : Nat} (hg : w.grownBy w' (some r)) (hn : r ≠ b) : LoneS w' b x := (hg.block b h.lt (fun e => hn (Option.some.inj e).symm)).trans h

theorem lnl_grown {w w' : World} {b : Nat} {us ub : Int} (h : Lnl w b us ub) {r : Nat} (hg : w.grownBy w' (some r)) (hn : r ≠ b) : Lnl w' b us ub := (hg.block b h.lt (fun e => hn (Option.some.inj e).symm)).trans h

set_option maxRecDepth 100000 in
theorem wpList_store_loneS {ops : Array Oper} {rest : List Oper} {op : Oper} {a : Act} {w : World} {Q : Exit → Act → World → Prop} (hgd : op.guard = none) (x y : Operand) (ho : op.op = .store 50 x y)
    (b : Nat) (hx : a.eval x = .pointer (some ⟨b, 0, none⟩)) (s : Ses) (hy : a.eval y = .agg s.cells.toArray) (z : Ses) (hz : LoneS w b z)
    (h : ∀ w', LoneS w' b s → w.grownBy w' (some b) → w'.heap.size = w.heap.size → wpList Try.prog ops Q rest (a.put op.dst undef) w') : wpList Try.prog ops Q (op :: rest) a w := by
  refine wpList_plain hgd fun K hK => ?_
  have hrun := run_storeVar_row (P := Try.prog) w b _ 50 z.cells.toArray s.cells.toArray hz size_sesQ rfl (all_oneS s)
  have hk := hK _ _ (h (w.setRow b s.cells.toArray) (setRow_heap w b _ _ _ _ hz) ⟨rfl, rfl, rfl, by simp, fun k hk hn => setRow_other _ _ _ _ (fun e => hn (by rw [e]))⟩ (by simp))
  unfold Oper.wp execOp
  simp only [ho, hx, hy, Instr.storeAt, Instr.sureAddr, Sem.run_bind, Sem.run_pure, Result.andThen_ok, hrun]
  exact hk

set_option maxRecDepth 100000 in
theorem wpList_load_ses {ops : Array Oper} {rest : List Oper} {op : Oper} {a : Act} {w : World} {Q : Exit → Act → World → Prop} (hgd : op.guard = none) (x : Operand) (ho : op.op = .load 50 x)
    (b o : Nat) (hx : a.eval x = .pointer (some ⟨b, o, none⟩)) (s : Ses) (hr : w.rangeAt b o s.cells)
    (h : wpList Try.prog ops Q rest (a.put op.dst (.agg s.cells.toArray)) w) : wpList Try.prog ops Q (op :: rest) a w :=
  wpList_load_mid hgd 50 x ho b o hx s.cells _ hr Try.underlying50 rfl size_sesQ h

theorem LoneS.range {w : World} {b : Nat} {y : Ses} (h : LoneS w b y) : w.rangeAt b 0 y.cells := fun j v hv => by
  rw [Nat.zero_add, cell_of_row w b j _ _ _ h]
  simpa using hv

theorem lone_ses {w : World} {b : Nat} {x : Slt} (h : Lone w b x) : w.rangeAt b 5 x.s.cells := fun j v hv => by
  have hj : j < 12 := (List.getElem?_eq_some_iff.1 hv).1
  have := h.range (5 + j) v (by
    rw [← hv]
    unfold Slt.cells Ses.cells
    rw [Nat.add_comm 5 j]
    rfl)
  rw [Nat.zero_add] at this
  exact this

theorem LoneS.up {w : World} {b : Nat} {y : Ses} (h : LoneS w b y) : w.rangeAt b 2 [nu y.us, nu y.ub] := fun j v hv => by
  have hj : j < 2 := (List.getElem?_eq_some_iff.1 hv).1
  have := h.range (2 + j) v (by
    rw [← hv]
    rcases j with _ | _ | j
    · rfl
    · rfl
    · omega)
  rw [Nat.zero_add] at this
  exact this

theorem results_ses {fn : Func} {p u : Tmp} (h : fn.results = #[.cell p 50, .tmp u]) (tmps : Array Value) (w : World) (g : Nat) (x : Ses) (hp : tmps.getD p undef = .pointer (some ⟨g, 0, none⟩)) (hg : LoneS w g x) :
    (results fn tmps).run Try.prog w = .ok (.tuple #[sesV x, tmps.getD u undef]) w := by
  rw [results_cell_tmp h, hp]
  simp only [asAddr, Sem.run_pure, Result.andThen_ok, run_loadVar_row w g _ 50 _ _ _ hg Try.underlying50 rfl size_sesQ]

/-- What held tells. -/
def heldS (S : List Slt) (us ub : Int) : Ses := if hold S us ub then (atW S us).s else ses0

section
variable {Rep : World → Nat → (Nat → Prop) → Arn → Prop}

set_option maxRecDepth 100000 in
theorem isTop_p (x : Ses) (w : World) : Calls Try.prog 29 #[sesV x] w fun e w' => e = .returned (.bool (x.ub == 0)) ∧ Below w.heap.size w w' := by
  obtain ⟨W0, hW0⟩ : ∃ W0, w.alloc (.cells x.cells.toArray 50) = W0 := ⟨_, rfl⟩
  have hB : Below w.heap.size w W0 := by rw [← hW0]; exact (Below.refl _ _).alloc (Nat.le_refl _) _
  have hS : LoneS W0 w.heap.size x := by rw [← hW0]; exact loneS_new w x
  have q3 : W0.cell? ⟨w.heap.size, 3, none⟩ = some (nu x.ub) := hS.range 3 _ rfl
  have HB := Hid.mk' hB
  have HW0 := Hid.mk' hW0
  clear hB hS hW0
  go_enter Try.func29, Try.ntmps29
  go_upto_region 1 with fail
  rw [HW0.out]
  go_wp2
  go_ret
  exact ⟨rfl, HB.out⟩

set_option maxRecDepth 100000 in
set_option maxHeartbeats 2000000 in
theorem held_p (H : KeepC Rep) (G : GetU Rep) (w : World) (p : Nat) (F : Nat → Prop) (A : Arn) (us ub : Int) (h : Rep w p F A) (hg : An.Good A) :
    Calls Try.prog 28 #[ptr p, lkU us ub] w fun e w' => e = .returned (.tuple #[sesV (heldS A.sl us ub), .bool (decide (hold A.sl us ub))]) ∧ Below w.heap.size w w' := by
  obtain ⟨W0, hW0⟩ : ∃ W0, w.alloc (.cells #[nu us, nu ub] 33) = W0 := ⟨_, rfl⟩
  obtain ⟨W1, hW1⟩ : ∃ W1, W0.alloc (.cells sesQ 50) = W1 := ⟨_, rfl⟩
  have hB0 : Below w.heap.size w W0 := by rw [← hW0]; exact (Below.refl _ _).alloc (Nat.le_refl _) _
  have hB1 : Below w.heap.size w W1 := by rw [← hW1]; exact hB0.alloc hB0.size _
  have hL0 : Lnl W0 w.heap.size us ub := by rw [← hW0]; exact lnl_new w us ub
  have hL1 : Lnl W1 w.heap.size us ub := by rw [← hW1]; exact (heap_alloc_old _ _ hL0.lt).trans hL0
  have hS1 : LoneS W1 W0.heap.size ses0 := by rw [← hW1]; exact loneS_zero W0
  have hs0 : W0.heap.size = w.heap.size + 1 := by rw [← hW0]; simp
  rw [hs0] at hS1
  obtain ⟨lb, hlb⟩ : ∃ lb, w.heap.size = lb := ⟨_, rfl⟩
  obtain ⟨rb, hrb⟩ : ∃ rb, w.heap.size + 1 = rb := ⟨_, rfl⟩
  rw [hrb] at hS1
  rw [hlb] at hL1
  have hlr : lb ≠ rb := by omega
  have hle : w.heap.size ≤ rb := by omega
  have HW0 := Hid.mk' hW0
  have HW1 := Hid.mk' hW1
  have HLB := Hid.mk' hlb
  have HRB := Hid.mk' hrb
  have HB1 := Hid.mk' hB1
  have HL1 := Hid.mk' hL1
  have HS1 := Hid.mk' hS1
  obtain ⟨x0, x1, _⟩ := hL1.cells
  by_cases h1 : ub < 1
  · have hn : ¬ hold A.sl us ub := fun hh => by have := hh.2.1; omega
    rw [decide_eq_false hn]
    unfold heldS
    rw [if_neg hn]
    clear h hg hB0 hB1 hL0 hL1 hS1 hW0 hW1 hlb hrb hn hs0
    go_enter Try.func28, Try.ntmps28
    go_upto_region 1 with fail
    rw [HW0.out, HW1.out, HRB.out, HLB.out]
    go_wp2_with (first | (refine wpList_store_loneS rfl _ _ rfl rb rfl ses0 rfl _ HS1.out ?_; intro w2 hl2 hg2 hs2; have HL := Hid.mk' hl2; have HB2 : Hid (Below w.heap.size w w2) := (HB1.out.grown hg2 HB1.out.size (fun r e => by cases e; exact hle)); clear hl2 hg2 hs2) | fail)
    refine bodyPost_ret (results_ses rfl _ _ rb ses0 rfl HL.out) rfl ?_
    exact ⟨rfl, HB2.out⟩
  · have c2 := Hid.mk' (G W1 p F A us (H.below h hB1) hg)
    unfold Arn.atE at c2
    obtain ⟨x, hx⟩ : ∃ x, A.at us = x := ⟨_, rfl⟩
    rw [hx] at c2
    obtain ⟨r, hr0⟩ : ∃ r, decide (hold A.sl us ub) = r := ⟨_, rfl⟩
    have hr : r = true ↔ hold A.sl us ub := by rw [← hr0]; exact decide_eq_true_iff
    obtain ⟨v, hv0⟩ : ∃ v, heldS A.sl us ub = v := ⟨_, rfl⟩
    have hv : v = if r = true then x.s else ses0 := by
      rw [← hv0, heldS, ← hr0]
      by_cases hh : hold A.sl us ub
      · rw [if_pos hh, decide_eq_true hh, if_pos rfl, ← hx, Arn.at, if_pos hh.1]
        rfl
      · rw [if_neg hh, decide_eq_false hh, if_neg (by decide)]
    rw [hr0, hv0]
    by_cases ht : there us
    · rw [if_pos ht] at c2
      have e0 : errE 0 = .nilIface := rfl
      rw [e0] at c2
      have hxa : atW A.sl us = x := by rw [← hx, Arn.at, if_pos ht]; rfl
      have hr2 : r = (x.used && !x.dead && (x.s.birth == ub)) := by
        rw [Bool.eq_iff_iff, hr, hold, hxa]
        simp
        constructor
        · rintro ⟨_, _, a1, a2, a3⟩
          exact ⟨⟨a1, a2⟩, a3⟩
        · rintro ⟨⟨a1, a2⟩, a3⟩
          exact ⟨ht, by omega, a1, a2, a3⟩
      clear h hg hB0 hB1 hL0 hS1 hW0 hW1 hlb hrb hs0 hr hx hxa ht hr0 hv0 e0
      by_cases hU : x.used = true
      · by_cases hD : x.dead = true
        · obtain rfl : r = false := by rw [hr2]; simp [hU, hD]
          rw [if_neg (by decide)] at hv
          subst hv
          clear hr2
          go_enter Try.func28, Try.ntmps28
          go_upto_region 1 with fail
          rw [HW0.out, HW1.out, HRB.out, HLB.out]
          go_wp2_with fail
          refine c2.out.mono ?_
          rintro e w1 ⟨rfl, hb1⟩
          have HB2 : Hid (Below w.heap.size w w1) := HB1.out.trans (hb1.mono HB1.out.size)
          have HS2 := Hid.mk' (HS1.out.below hb1)
          have HL2 := Hid.mk' (HL1.out.below hb1)
          have hs2 := HS2.out.lt
          have hl2 := HL2.out.lt
          have HZ := Hid.mk' (lone_zero w1)
          have HBZ : Hid (Below w.heap.size w (w1.alloc (.cells sltZ 52))) := HB2.out.alloc HB2.out.size _
          have HSZ : Hid (LoneS (w1.alloc (.cells sltZ 52)) rb ses0) := (heap_alloc_old _ _ hs2).trans HS2.out
          have HLZ : Hid (Lnl (w1.alloc (.cells sltZ 52)) lb us ub) := (heap_alloc_old _ _ hl2).trans HL2.out
          clear hb1 c2 x0 x1 hL1
          go_wp2_with (first | (refine wpList_store_lone rfl _ _ rfl w1.heap.size rfl x rfl slt0 HZ.out ?_; intro w2 hl2 hg2 hs2; have HX2 := Hid.mk' hl2; have HB3 : Hid (Below w.heap.size w w2) := (HBZ.out.grown hg2 HBZ.out.size (fun r e => by cases e; exact HB2.out.size)); have HS3 : Hid (LoneS w2 rb ses0) := HSZ.out.grown hg2 (by omega); have HL3 : Hid (Lnl w2 lb us ub) := lnl_grown HLZ.out hg2 (by omega); clear hl2 hg2 hs2; have hc2 := HX2.out.cells; rw [hU, hD] at hc2; obtain ⟨y0, y1, _, _, _, _, y6, _⟩ := hc2; obtain ⟨x0, x1, _⟩ := HL3.out.cells; clear HZ HBZ HSZ HLZ HB2 HS2 HL2) | (refine wpList_store_loneS rfl _ _ rfl rb rfl ses0 rfl _ HS3.out ?_; intro w3 hl3 hg3 hs3; have HR := Hid.mk' hl3; have HB4 : Hid (Below w.heap.size w w3) := (HB3.out.grown hg3 HB3.out.size (fun r e => by cases e; exact hle)); clear hl3 hg3 hs3) | fail)
          refine bodyPost_ret (results_ses rfl _ _ rb _ rfl HR.out) rfl ?_
          exact ⟨rfl, HB4.out⟩
        · have hD' : x.dead = false := by simpa using hD
          by_cases hN : x.s.birth = ub
          · have hN' : (!(x.s.birth == ub)) = false := by simp [hN]
            have hN2 : (x.s.birth == ub) = true := by simp [hN]
            obtain rfl : r = true := by rw [hr2]; simp [hU, hD', hN]
            rw [if_pos rfl] at hv
            subst hv
            clear hr2 hD hN
            go_enter Try.func28, Try.ntmps28
            go_upto_region 1 with fail
            rw [HW0.out, HW1.out, HRB.out, HLB.out]
            go_wp2_with fail
            refine c2.out.mono ?_
            rintro e w1 ⟨rfl, hb1⟩
            have HB2 : Hid (Below w.heap.size w w1) := HB1.out.trans (hb1.mono HB1.out.size)
            have HS2 := Hid.mk' (HS1.out.below hb1)
            have HL2 := Hid.mk' (HL1.out.below hb1)
            have hs2 := HS2.out.lt
            have hl2 := HL2.out.lt
            have HZ := Hid.mk' (lone_zero w1)
            have HBZ : Hid (Below w.heap.size w (w1.alloc (.cells sltZ 52))) := HB2.out.alloc HB2.out.size _
            have HSZ : Hid (LoneS (w1.alloc (.cells sltZ 52)) rb ses0) := (heap_alloc_old _ _ hs2).trans HS2.out
            have HLZ : Hid (Lnl (w1.alloc (.cells sltZ 52)) lb us ub) := (heap_alloc_old _ _ hl2).trans HL2.out
            clear hb1 c2 x0 x1 hL1
            go_wp2_with (first | (refine wpList_store_lone rfl _ _ rfl w1.heap.size rfl x rfl slt0 HZ.out ?_; intro w2 hl2 hg2 hs2; have HX2 := Hid.mk' hl2; have HB3 : Hid (Below w.heap.size w w2) := (HBZ.out.grown hg2 HBZ.out.size (fun r e => by cases e; exact HB2.out.size)); have HS3 : Hid (LoneS w2 rb ses0) := HSZ.out.grown hg2 (by omega); have HL3 : Hid (Lnl w2 lb us ub) := lnl_grown HLZ.out hg2 (by omega); clear hl2 hg2 hs2; have hc2 := HX2.out.cells; rw [hU, hD'] at hc2; obtain ⟨y0, y1, _, _, _, _, y6, _⟩ := hc2; obtain ⟨x0, x1, _⟩ := HL3.out.cells; clear HZ HBZ HSZ HLZ HB2 HS2 HL2) | (refine wpList_load_ses rfl _ rfl w1.heap.size 5 rfl x.s (lone_ses HX2.out) ?_) | (refine wpList_store_loneS rfl _ _ rfl rb rfl x.s rfl _ HS3.out ?_; intro w3 hl3 hg3 hs3; have HR := Hid.mk' hl3; have HB4 : Hid (Below w.heap.size w w3) := (HB3.out.grown hg3 HB3.out.size (fun r e => by cases e; exact hle)); clear hl3 hg3 hs3) | fail)
            refine bodyPost_ret (results_ses rfl _ _ rb _ rfl HR.out) rfl ?_
            exact ⟨rfl, HB4.out⟩
          · have hN' : (!(x.s.birth == ub)) = true := by simp [hN]
            have hN2 : (x.s.birth == ub) = false := by simp [hN]
            obtain rfl : r = false := by rw [hr2]; simp [hU, hD', hN]
            rw [if_neg (by decide)] at hv
            subst hv
            clear hr2 hD hN
            go_enter Try.func28, Try.ntmps28
            go_upto_region 1 with fail
            rw [HW0.out, HW1.out, HRB.out, HLB.out]
            go_wp2_with fail
            refine c2.out.mono ?_
            rintro e w1 ⟨rfl, hb1⟩
            have HB2 : Hid (Below w.heap.size w w1) := HB1.out.trans (hb1.mono HB1.out.size)
            have HS2 := Hid.mk' (HS1.out.below hb1)
            have HL2 := Hid.mk' (HL1.out.below hb1)
            have hs2 := HS2.out.lt
            have hl2 := HL2.out.lt
            have HZ := Hid.mk' (lone_zero w1)
            have HBZ : Hid (Below w.heap.size w (w1.alloc (.cells sltZ 52))) := HB2.out.alloc HB2.out.size _
            have HSZ : Hid (LoneS (w1.alloc (.cells sltZ 52)) rb ses0) := (heap_alloc_old _ _ hs2).trans HS2.out
            have HLZ : Hid (Lnl (w1.alloc (.cells sltZ 52)) lb us ub) := (heap_alloc_old _ _ hl2).trans HL2.out
            clear hb1 c2 x0 x1 hL1
            go_wp2_with (first | (refine wpList_store_lone rfl _ _ rfl w1.heap.size rfl x rfl slt0 HZ.out ?_; intro w2 hl2 hg2 hs2; have HX2 := Hid.mk' hl2; have HB3 : Hid (Below w.heap.size w w2) := (HBZ.out.grown hg2 HBZ.out.size (fun r e => by cases e; exact HB2.out.size)); have HS3 : Hid (LoneS w2 rb ses0) := HSZ.out.grown hg2 (by omega); have HL3 : Hid (Lnl w2 lb us ub) := lnl_grown HLZ.out hg2 (by omega); clear hl2 hg2 hs2; have hc2 := HX2.out.cells; rw [hU, hD'] at hc2; obtain ⟨y0, y1, _, _, _, _, y6, _⟩ := hc2; obtain ⟨x0, x1, _⟩ := HL3.out.cells; clear HZ HBZ HSZ HLZ HB2 HS2 HL2) | (refine wpList_store_loneS rfl _ _ rfl rb rfl ses0 rfl _ HS3.out ?_; intro w3 hl3 hg3 hs3; have HR := Hid.mk' hl3; have HB4 : Hid (Below w.heap.size w w3) := (HB3.out.grown hg3 HB3.out.size (fun r e => by cases e; exact hle)); clear hl3 hg3 hs3) | fail)
            refine bodyPost_ret (results_ses rfl _ _ rb _ rfl HR.out) rfl ?_
            exact ⟨rfl, HB4.out⟩
      · have hU' : x.used = false := by simpa using hU
        obtain rfl : r = false := by rw [hr2]; simp [hU']
        rw [if_neg (by decide)] at hv
        subst hv
        clear hr2 hU
        go_enter Try.func28, Try.ntmps28
        go_upto_region 1 with fail
        rw [HW0.out, HW1.out, HRB.out, HLB.out]
        go_wp2_with fail
        refine c2.out.mono ?_
        rintro e w1 ⟨rfl, hb1⟩
        have HB2 : Hid (Below w.heap.size w w1) := HB1.out.trans (hb1.mono HB1.out.size)
        have HS2 := Hid.mk' (HS1.out.below hb1)
        have HL2 := Hid.mk' (HL1.out.below hb1)
        have hs2 := HS2.out.lt
        have hl2 := HL2.out.lt
        have HZ := Hid.mk' (lone_zero w1)
        have HBZ : Hid (Below w.heap.size w (w1.alloc (.cells sltZ 52))) := HB2.out.alloc HB2.out.size _
        have HSZ : Hid (LoneS (w1.alloc (.cells sltZ 52)) rb ses0) := (heap_alloc_old _ _ hs2).trans HS2.out
        have HLZ : Hid (Lnl (w1.alloc (.cells sltZ 52)) lb us ub) := (heap_alloc_old _ _ hl2).trans HL2.out
        clear hb1 c2 x0 x1 hL1
        go_wp2_with (first | (refine wpList_store_lone rfl _ _ rfl w1.heap.size rfl x rfl slt0 HZ.out ?_; intro w2 hl2 hg2 hs2; have HX2 := Hid.mk' hl2; have HB3 : Hid (Below w.heap.size w w2) := (HBZ.out.grown hg2 HBZ.out.size (fun r e => by cases e; exact HB2.out.size)); have HS3 : Hid (LoneS w2 rb ses0) := HSZ.out.grown hg2 (by omega); have HL3 : Hid (Lnl w2 lb us ub) := lnl_grown HLZ.out hg2 (by omega); clear hl2 hg2 hs2; have hc2 := HX2.out.cells; rw [hU'] at hc2; obtain ⟨y0, y1, _, _, _, _, y6, _⟩ := hc2; obtain ⟨x0, x1, _⟩ := HL3.out.cells; clear HZ HBZ HSZ HLZ HB2 HS2 HL2) | (refine wpList_store_loneS rfl _ _ rfl rb rfl ses0 rfl _ HS3.out ?_; intro w3 hl3 hg3 hs3; have HR := Hid.mk' hl3; have HB4 : Hid (Below w.heap.size w w3) := (HB3.out.grown hg3 HB3.out.size (fun r e => by cases e; exact hle)); clear hl3 hg3 hs3) | fail)
        refine bodyPost_ret (results_ses rfl _ _ rb _ rfl HR.out) rfl ?_
        exact ⟨rfl, HB4.out⟩
    · rw [if_neg ht] at c2
      obtain rfl : r = false := by
        cases r with
        | false => rfl
        | true => exact absurd (hr.1 rfl).1 ht
      rw [if_neg (by decide)] at hv
      subst hv
      have e1 : errE 1 = .iface 75 (.int .i64 1) := rfl
      rw [e1] at c2
      clear h hg hB0 hB1 hL0 hS1 hW0 hW1 hlb hrb hs0 hr hx ht hr0 hv0 e1
      go_enter Try.func28, Try.ntmps28
      go_upto_region 1 with fail
      rw [HW0.out, HW1.out, HRB.out, HLB.out]
      go_wp2_with fail
      refine c2.out.mono ?_
      rintro e w1 ⟨rfl, hb1⟩
      have HB2 : Hid (Below w.heap.size w w1) := HB1.out.trans (hb1.mono HB1.out.size)
      have HS2 := Hid.mk' (HS1.out.below hb1)
      have HL2 := Hid.mk' (HL1.out.below hb1)
      have hs2 := HS2.out.lt
      have hl2 := HL2.out.lt
      have HZ := Hid.mk' (lone_zero w1)
      have HBZ : Hid (Below w.heap.size w (w1.alloc (.cells sltZ 52))) := HB2.out.alloc HB2.out.size _
      have HSZ : Hid (LoneS (w1.alloc (.cells sltZ 52)) rb ses0) := (heap_alloc_old _ _ hs2).trans HS2.out
      have HLZ : Hid (Lnl (w1.alloc (.cells sltZ 52)) lb us ub) := (heap_alloc_old _ _ hl2).trans HL2.out
      clear hb1 c2 x0 x1 hL1
      go_wp2_with (first | (refine wpList_store_lone rfl _ _ rfl w1.heap.size rfl x rfl slt0 HZ.out ?_; intro w2 hl2 hg2 hs2; have HX2 := Hid.mk' hl2; have HB3 : Hid (Below w.heap.size w w2) := (HBZ.out.grown hg2 HBZ.out.size (fun r e => by cases e; exact HB2.out.size)); have HS3 : Hid (LoneS w2 rb ses0) := HSZ.out.grown hg2 (by omega); have HL3 : Hid (Lnl w2 lb us ub) := lnl_grown HLZ.out hg2 (by omega); clear hl2 hg2 hs2; have hc2 := HX2.out.cells; skip; obtain ⟨x0, x1, _⟩ := HL3.out.cells; clear HZ HBZ HSZ HLZ HB2 HS2 HL2) | (refine wpList_store_loneS rfl _ _ rfl rb rfl ses0 rfl _ HS3.out ?_; intro w3 hl3 hg3 hs3; have HR := Hid.mk' hl3; have HB4 : Hid (Below w.heap.size w w3) := (HB3.out.grown hg3 HB3.out.size (fun r e => by cases e; exact hle)); clear hl3 hg3 hs3) | fail)
      refine bodyPost_ret (results_ses rfl _ _ rb _ rfl HR.out) rfl ?_
      exact ⟨rfl, HB4.out⟩
end
end Wk
end Go.Proofs.Ytbkcpjgaoncioaa
