/- The document's walk: Holds, Up, Lives, Path. -/
import Derived.Test.YtbkcpjgaoncioaaWlkP
import Derived.Test.YtbkcpjgaoncioaaArnU
import Derived.Deep.RegionHeld3
import Derived.Lib.SliceRun
import Derived.RangeFuncBox
namespace Go.Proofs.Ytbkcpjgaoncioaa
set_option linter.ambiguousOpen false
open Go.RowKit
namespace Wk
open An Ft Lv
set_option linter.unusedSimpArgs false
set_option linter.unusedVariables false

/-- A link as a value. -/
@[reducible] def lkU (us ub : Int) : Value := .agg #[nu us, nu ub]

@[reducible] def I64 (i : Int) : Prop := -9223372036854775808 ≤ i ∧ i ≤ 9223372036854775807

/-- A link in a block of its own. -/
def Lnl (w : World) (b : Nat) (us ub : Int) : Prop := w.heap[b]? = some (.cells #[nu us, nu ub] 33)

theorem lnl_new (w : World) (us ub : Int) : Lnl (w.alloc (.cells #[nu us, nu ub] 33)) w.heap.size us ub := heap_alloc_new _ _

theorem Lnl.cells {w : World} {b : Nat} {us ub : Int} (h : Lnl w b us ub) : w.cell? ⟨b, 0, none⟩ = some (nu us) ∧ w.cell? ⟨b, 1, none⟩ = some (nu ub) ∧ ∀ i, w.frozen? ⟨b, i, none⟩ = false := by
  unfold Lnl at h
  refine ⟨by simp [World.cell?, h], by simp [World.cell?, h], fun i => by simp [World.frozen?, h]⟩

theorem Lnl.lt {w : World} {b : Nat} {us ub : Int} (h : Lnl w b us ub) : b < w.heap.size := (Array.getElem?_eq_some_iff.1 h).1

theorem Lnl.below {w w' : World} {b : Nat} {us ub : Int} (h : Lnl w b us ub) (hb : Below w.heap.size w w') : Lnl w' b us ub := (hb.block b h.lt).trans h

theorem Lnl.keep {w w' : World} {b : Nat} {us ub : Int} (h : Lnl w b us ub) {F : Nat → Prop} (hk : Keep F w w') (hn : ¬ F b) : Lnl w' b us ub := (hk.block b h.lt hn).trans h

theorem size_lnl : (Try.prog.info? 33).map (·.size) = some 2 := by kernel_rfl

set_option maxRecDepth 100000 in
theorem wpList_store_lnl {ops : Array Oper} {rest : List Oper} {op : Oper} {a : Act} {w : World} {Q : Exit → Act → World → Prop} (hgd : op.guard = none) (x y : Operand) (ho : op.op = .store 33 x y)
    (b : Nat) (hx : a.eval x = .pointer (some ⟨b, 0, none⟩)) (p n : Int) (hy : a.eval y = .agg #[nu p, nu n]) (p0 n0 : Int) (hz : Lnl w b p0 n0)
    (h : ∀ w', Lnl w' b p n → w.grownBy w' (some b) → w'.heap.size = w.heap.size → wpList Try.prog ops Q rest (a.put op.dst undef) w') : wpList Try.prog ops Q (op :: rest) a w := by
  refine wpList_plain hgd fun K hK => ?_
  have hrun := run_storeVar_row (P := Try.prog) w b _ 33 #[nu p0, nu n0] #[nu p, nu n] hz size_lnl rfl (all_oneCell_toArray (cs := [nu p, nu n]) (by simp [Value.oneCell']))
  have hk := hK _ _ (h (w.setRow b #[nu p, nu n]) (setRow_heap w b _ _ _ _ hz) ⟨rfl, rfl, rfl, by simp, fun k hk hn => setRow_other _ _ _ _ (fun e => hn (by rw [e]))⟩ (by simp))
  unfold Oper.wp execOp
  simp only [ho, hx, hy, Instr.storeAt, Instr.sureAddr, Sem.run_bind, Sem.run_pure, Result.andThen_ok, hrun]
  exact hk

theorem Lnl.range {w : World} {b : Nat} {p n : Int} (h : Lnl w b p n) : w.rangeAt b 0 [nu p, nu n] := fun j v hv => by
  rw [Nat.zero_add, cell_of_row w b j _ _ _ h]
  simpa using hv

set_option maxRecDepth 100000 in
theorem wpList_load_lnl {ops : Array Oper} {rest : List Oper} {op : Oper} {a : Act} {w : World} {Q : Exit → Act → World → Prop} (hgd : op.guard = none) (x : Operand) (ho : op.op = .load 33 x)
    (b o : Nat) (hx : a.eval x = .pointer (some ⟨b, o, none⟩)) (p n : Int) (hr : w.rangeAt b o [nu p, nu n])
    (h : wpList Try.prog ops Q rest (a.put op.dst (.agg #[nu p, nu n])) w) : wpList Try.prog ops Q (op :: rest) a w :=
  wpList_load_mid hgd 33 x ho b o hx [nu p, nu n] _ hr Try.underlying33 rfl size_lnl h


theorem lone_open {w : World} {b : Nat} {x : Slt} (h : Lone w b x) (o : Nat) : w.frozen? ⟨b, o, none⟩ = false := by
  unfold Lone at h
  simp [World.frozen?, h]

theorem lone_there {w : World} {b : Nat} {x : Slt} (h : Lone w b x) : w.there b 0 17 := fun j hj => by
  rw [Nat.zero_add, cell_of_row w b j _ _ _ h]
  have : x.cells.toArray.size = 17 := by simp [Slt.len]
  exact ⟨by simp [this, hj], lone_open h j⟩

theorem lone_cells {w : World} {b : Nat} {y : Slt} (h : Lone w b y) (x : Slt) : Lone (w.setCells b 0 x.cells) b x := by
  obtain ⟨C', e1, e2⟩ := heap_setCells b _ x.cells 0 w y.cells.toArray h (by simp [Slt.len])
  unfold Lone
  rw [e1]
  refine congrArg (fun c => some (Obj.cells c 52 (0, 0))) (Array.toList_inj.1 ?_)
  rw [e2, Slt.len]
  simp [Slt.len]

theorem range_blk {w w' : World} {b o : Nat} {cs : List Value} (h : w.rangeAt b o cs) (hb : w'.heap[b]? = w.heap[b]?) : w'.rangeAt b o cs := fun j v hv => by
  have := h j v hv
  unfold World.cell? at this ⊢
  rw [hb]
  exact this

section
variable {base : Nat} {w : World} {g b cap : Nat} {fv : Value} {A : Arn}

/-- What is read of a slot. -/
theorem read_slot (h : RAn base w g (.slice (some ⟨b, 0, none⟩) 32 cap) fv A) (hl : A.sl.length = 32) (k : Nat) (hk : k < 32) : w.rangeAt b (k * 17) (atW A.sl k).cells ∧ b < w.heap.size := by
  obtain ⟨b', cap', e, _, _, hr, hb⟩ := h.slot hl k hk
  simp only [Value.slice.injEq, Option.some.injEq, Addr.mk.injEq, and_true, true_and] at e
  obtain ⟨rfl, rfl⟩ := e
  exact ⟨hr, hb⟩
end

set_option maxRecDepth 100000 in
set_option maxHeartbeats 2000000 in
theorem holds_ref (base : Nat) (w : World) (g b cap : Nat) (fv : Value) (A : Arn) (us ub : Int) (h : RAn base w g (.slice (some ⟨b, 0, none⟩) 32 cap) fv A) (hl : A.sl.length = 32) (hcc : 32 ≤ cap ∧ cap ≤ 9223372036854775807) :
    Calls Try.prog 38 #[ptr g, lkU us ub] w fun e w' => e = .returned (.bool (decide (hold A.sl us ub))) ∧ Below w.heap.size w w' := by
  obtain ⟨hc1, hc2⟩ := hcc
  have hB0 : Below w.heap.size w (w.alloc (.cells #[nu us, nu ub] 33)) := (Below.refl _ _).alloc (Nat.le_refl _) _
  have hL0 := lnl_new w us ub
  obtain ⟨lb, hlb⟩ : ∃ lb, w.heap.size = lb := ⟨_, rfl⟩
  obtain ⟨W0, hW0⟩ : ∃ W0, w.alloc (.cells #[nu us, nu ub] 33) = W0 := ⟨_, rfl⟩
  rw [hW0] at hB0 hL0
  rw [hlb] at hL0
  have HW0 := Hid.mk' hW0
  have HLB := Hid.mk' hlb
  have HB0 := Hid.mk' hB0
  have c1 := Hid.mk' (there_ref us W0)
  obtain ⟨x0, x1, _⟩ := hL0.cells
  obtain ⟨r, hr0⟩ : ∃ r, decide (hold A.sl us ub) = r := ⟨_, rfl⟩
  rw [hr0]
  have hr : r = true ↔ hold A.sl us ub := by rw [← hr0]; exact decide_eq_true_iff
  clear hr0
  unfold hold at hr
  by_cases ht : there us
  · rw [decide_eq_true ht] at c1
    by_cases h1 : ub < 1
    · obtain rfl : r = false := by
        cases r with
        | false => rfl
        | true => have := (hr.1 rfl).2.1; omega
      clear h hl hB0 hL0 hW0 hlb hr ht
      go_enter Try.func38, Try.ntmps38
      go_upto_region 1 with fail
      rw [HW0.out, HLB.out]
      go_wp2_with (first | (go_at_call 37; refine c1.out.mono ?_; rintro e w1 ⟨rfl, hw1⟩; subst w1) | fail)
      go_ret
      exact ⟨rfl, HB0.out⟩
    · obtain ⟨k, rfl⟩ : ∃ k : Nat, us = (k : Int) := ⟨us.toNat, by omega⟩
      have hk : k < 32 := by omega
      have h' := h.below hB0
      obtain ⟨hrg, hbl⟩ := read_slot h' hl k hk
      have q0 := h'.cells.1
      obtain ⟨x, hx⟩ : ∃ x, atW A.sl k = x := ⟨_, rfl⟩
      rw [hx] at hrg hr
      have hgl : g < W0.heap.size := h'.glt
      have hkI : (k : Int) < 32 := by omega
      have hk0 : (0 : Int) ≤ (k : Int) := by omega
      have hnl := hL0.lt
      have HKR : Hid (∀ wx, Below W0.heap.size W0 wx → wx.cell? ⟨g, 0, none⟩ = some (.slice (some ⟨b, 0, none⟩) 32 cap) ∧ wx.cell? ⟨lb, 0, none⟩ = some (nu k) ∧ wx.rangeAt b (k * 17) x.cells) := fun wx hb => ⟨(hb.cell (p := ⟨g, 0, none⟩) hgl).trans q0, (hb.cell (p := ⟨lb, 0, none⟩) hnl).trans x0, range_blk hrg (hb.block b hbl)⟩
      have HX1 : Hid (∀ wx, Below W0.heap.size W0 wx → wx.cell? ⟨lb, 1, none⟩ = some (nu ub)) := fun wx hb => (hb.cell (p := ⟨lb, 1, none⟩) hnl).trans x1
      have hr2 : (x.used = true → x.dead = false → r = (x.s.birth == ub)) ∧ (x.used = false → r = false) ∧ (x.dead = true → r = false) := by
        refine ⟨fun a1 a2 => ?_, fun a1 => ?_, fun a1 => ?_⟩
        · rw [Bool.eq_iff_iff, hr]
          exact ⟨fun z => by simpa using z.2.2.2.2, fun z => ⟨ht, by omega, a1, a2, by simpa using z⟩⟩
        · cases r with
          | false => rfl
          | true => rw [a1] at hr; simp at hr
        · cases r with
          | false => rfl
          | true => rw [a1] at hr; simp at hr
      clear hr h h' hl hB0 hL0 hlb hW0 ht hx hbl hgl hnl hrg
      go_enter Try.func38, Try.ntmps38
      go_upto_region 1 with fail
      rw [HW0.out, HLB.out]
      go_upto_region 3 with (first | (go_at_call 37; refine c1.out.mono ?_; rintro e w1 ⟨rfl, hw1⟩; subst w1) | fail)
      clear c1 q0 x0 x1
      have hS0 := HKR.out W0 (Below.refl _ _)
      have hB1 : Below W0.heap.size W0 ((W0.alloc (.cells sltZ 52)).drew) := ((Below.refl _ _).alloc (Nat.le_refl _) _).drew
      have hS1 := HKR.out _ hB1
      have HZ : Hid (Lone ((W0.alloc (.cells sltZ 52)).drew) W0.heap.size slt0) := lone_zero W0
      have HTH := Hid.mk' (lone_there HZ.out)
      have HL3 : Hid (Lone (((W0.alloc (.cells sltZ 52)).drew).setCells W0.heap.size 0 x.cells) W0.heap.size x) := lone_cells HZ.out x
      have hB2 : Below W0.heap.size W0 (((W0.alloc (.cells sltZ 52)).drew).setCells W0.heap.size 0 x.cells) := hB1.grown (grown_setCells _ x.cells 0 _) hB1.size (fun r e => by cases e; exact Nat.le_refl _)
      have hS2 := HKR.out _ hB2
      have hx1 := HX1.out _ hB2
      have HB3 : Hid (Below w.heap.size w (((W0.alloc (.cells sltZ 52)).drew).setCells W0.heap.size 0 x.cells)) := HB0.out.trans (hB2.mono HB0.out.size)
      clear hB1 hB2
      refine wp_region_held_drew (S := fun w' => w'.cell? ⟨g, 0, none⟩ = some (.slice (some ⟨b, 0, none⟩) 32 cap) ∧ w'.cell? ⟨lb, 0, none⟩ = some (nu k) ∧ w'.rangeAt b (k * 17) x.cells) (by kernel_rfl) hS0 (fun hHeld => ?_)
      refine wpAnyH_take (i := 0) (v := ?_) rfl (by kernel_rfl) (by kernel_rfl) (by kernel_rfl) (fun _ _ _ h => h) (Or.inl ⟨by rfl, ?_⟩) hHeld ?_
      rotate_left
      · (intro w' hS'; have hq1 := hS'.1; have hq2 := hS'.2.1; go_simp <;> with_reducible rfl)
      simp only [Act.put, List.getElem_toArray, List.getElem_cons_succ, List.getElem_cons_zero, List.setIfInBounds_toArray, List.set]
      refine wpAnyH_take (i := 1) (v := ?_) rfl (by kernel_rfl) (by kernel_rfl) (by kernel_rfl) (fun _ _ _ h => h) (Or.inl ⟨by rfl, ?_⟩) hHeld ?_
      rotate_left
      · (intro w' hS'; have hq1 := hS'.1; have hq2 := hS'.2.1; go_simp <;> with_reducible rfl)
      simp only [Act.put, List.getElem_toArray, List.getElem_cons_succ, List.getElem_cons_zero, List.setIfInBounds_toArray, List.set]
      refine wpAnyH_take (i := 2) (v := ?_) rfl (by kernel_rfl) (by kernel_rfl) (by kernel_rfl) (fun _ _ _ h => h) (Or.inl ⟨by rfl, ?_⟩) hHeld ?_
      rotate_left
      · (intro w' hS'; have hq1 := hS'.1; have hq2 := hS'.2.1; go_simp <;> with_reducible rfl)
      simp only [Act.put, List.getElem_toArray, List.getElem_cons_succ, List.getElem_cons_zero, List.setIfInBounds_toArray, List.set]
      refine wpAnyH_take (i := 3) (v := ?_) rfl (by kernel_rfl) (by kernel_rfl) (by kernel_rfl) (fun _ _ _ h => h) (Or.inl ⟨by rfl, ?_⟩) hHeld ?_
      rotate_left
      · (intro w' hS'; have hq1 := hS'.1; have hq2 := hS'.2.1; go_simp <;> with_reducible rfl)
      simp only [Act.put, List.getElem_toArray, List.getElem_cons_succ, List.getElem_cons_zero, List.setIfInBounds_toArray, List.set]
      refine wpAnyH_take (i := 4) (v := ?_) rfl (by kernel_rfl) (by kernel_rfl) (by kernel_rfl) (fun _ _ _ h => h) (Or.inl ⟨by rfl, ?_⟩) hHeld ?_
      rotate_left
      · (intro w' hS'; have hq1 := hS'.1; have hq2 := hS'.2.1; go_simp <;> with_reducible rfl)
      simp only [Act.put, List.getElem_toArray, List.getElem_cons_succ, List.getElem_cons_zero, List.setIfInBounds_toArray, List.set]
      refine wpAnyH_take (i := 5) (v := ?_) rfl (by kernel_rfl) (by kernel_rfl) (by kernel_rfl) (fun _ _ _ h => h) (Or.inl ⟨by rfl, ?_⟩) hHeld ?_
      rotate_left
      · (intro w' hS'; have hq1 := hS'.1; have hq2 := hS'.2.1; go_simp <;> with_reducible rfl)
      simp only [Act.put, List.getElem_toArray, List.getElem_cons_succ, List.getElem_cons_zero, List.setIfInBounds_toArray, List.set]
      refine wpAnyH_take (i := 6) (v := ?_) rfl (by kernel_rfl) (by kernel_rfl) (by kernel_rfl) (fun _ _ _ h => h) (Or.inl ⟨by rfl, ?_⟩) hHeld ?_
      rotate_left
      · (intro w' hS'; have hq1 := hS'.1; have hq2 := hS'.2.1; go_simp <;> with_reducible rfl)
      simp only [Act.put, List.getElem_toArray, List.getElem_cons_succ, List.getElem_cons_zero, List.setIfInBounds_toArray, List.set]
      refine wpAnyH_take (i := 7) (v := _) rfl (by kernel_rfl) (by kernel_rfl) (by kernel_rfl) (fun _ _ _ h => h) (yieldsIf_load_mid (by rfl) 52 _ rfl b (k * 17) rfl x.cells _ (fun w' h => h.2.2) Try.underlying52 rfl size_slt) hHeld ?_
      simp only [Act.put, List.getElem_toArray, List.getElem_cons_succ, List.getElem_cons_zero, List.setIfInBounds_toArray, List.set]
      refine wpAnyH_ready (rs := [8]) (by kernel_rfl) (by simp) ?_
      refine AllReadyH.cons rfl (fun K hK => ?_) AllReadyH.nil
      go_simp
      refine hK.out _ _ hS1 (fun hHeld => ?_)
      clear hK K
      refine wpAnyH_ready (rs := [9]) (by kernel_rfl) (by simp) ?_
      refine AllReadyH.cons rfl (fun K hK => ?_) AllReadyH.nil
      rw [if_pos (by rfl)]
      simp only [List.getElem_toArray, List.getElem_cons_succ, List.getElem_cons_zero]
      refine wp_store_mid 52 _ _ rfl W0.heap.size 0 x.cells.toArray rfl rfl HTH.out size_slt (all_one x) ?_
      refine hK.out _ _ hS2 (fun hHeld => ?_)
      clear hK K
      refine wpAnyH_done (by kernel_rfl) ?_ _
      clear hHeld hS0 hS1 hS2 HTH HZ
      generalize ((W0.alloc (.cells sltZ 52)).drew).setCells W0.heap.size 0 x.cells = w3 at *
      generalize W0.heap.size = sb at *
      have y0 := HL3.out.cells.1
      have y1 := HL3.out.cells.2.1
      have y6 := HL3.out.cells.2.2.2.2.2.2.1
      cases hu : x.used with
      | false =>
        obtain rfl := hr2.2.1 hu
        rw [hu] at y0
        clear hr2 HKR HX1
        go_wp2
        go_ret
        exact ⟨rfl, HB3.out⟩
      | true =>
        rw [hu] at y0
        cases hd : x.dead with
        | true =>
          obtain rfl := hr2.2.2 hd
          rw [hd] at y1
          clear hr2 HKR HX1
          go_wp2
          go_ret
          exact ⟨rfl, HB3.out⟩
        | false =>
          obtain rfl := hr2.1 hu hd
          rw [hd] at y1
          clear hr2 HKR HX1
          go_wp2
          go_ret
          exact ⟨rfl, HB3.out⟩
  · obtain rfl : r = false := by
      cases r with
      | false => rfl
      | true => exact absurd (hr.1 rfl).1 ht
    rw [decide_eq_false ht] at c1
    clear h hl hB0 hL0 hW0 hlb hr ht
    go_enter Try.func38, Try.ntmps38
    go_upto_region 1 with fail
    rw [HW0.out, HLB.out]
    go_wp2_with (first | (go_at_call 37; refine c1.out.mono ?_; rintro e w1 ⟨rfl, hw1⟩; subst w1) | fail)
    go_ret
    exact ⟨rfl, HB0.out⟩

theorem lnl_set {w : World} {b : Nat} {us ub : Int} (h : Lnl w b us ub) (us' ub' : Int) : Lnl ((w.setCell ⟨b, 0, none⟩ (nu us')).setCell ⟨b, 1, none⟩ (nu ub')) b us' ub' := by
  have h1 : (w.setCell ⟨b, 0, none⟩ (nu us')).heap[b]? = some (.cells (#[nu us, nu ub].setIfInBounds 0 (nu us')) 33) := by
    unfold Lnl at h
    rw [heap_setCell_same _ b 0 _ _ _ h]
  unfold Lnl
  rw [heap_setCell_same _ b 1 _ _ _ h1]
  rfl

theorem own_notlink {w : World} {base n lb : Nat} {v : Value} {xs : List Value} {us ub : Int} (h : w.ownsRow base 3 1 v n xs) (hl : Lnl w lb us ub) : v.ownBlock ≠ some lb := fun e => by
  obtain ⟨c, hc, _⟩ := own_cellsT h e
  unfold Lnl at hl
  rw [hc] at hl
  simp at hl

/-- Amid Up: the link that is next, the slots so far. -/
structure Us (w0 w : World) (S : List Slt) (lb : Nat) (full : List Nat × Bool) (i : Nat) (pre : List Nat) (v : Value) (s b : Int) : Prop where
  bel : Below w0.heap.size w0 w
  ln : Lnl w lb s b
  own : w.ownsRow w0.heap.size 3 1 v i (pre.map nun)
  len : pre.length = i
  eq : full = (pre ++ (up (7 - i) S s b).1, (up (7 - i) S s b).2)

set_option maxRecDepth 100000 in
set_option maxHeartbeats 4000000 in
theorem up_ref (base : Nat) (w : World) (g b cap : Nat) (fv : Value) (A : Arn) (us ub : Int) (h : RAn base w g (.slice (some ⟨b, 0, none⟩) 32 cap) fv A) (hl : A.sl.length = 32) (hcc : 32 ≤ cap ∧ cap ≤ 9223372036854775807) :
    Calls Try.prog 30 #[ptr g, lkU us ub] w fun e w' => ∃ a c, e = .returned (.tuple #[.slice a (up 7 A.sl us ub).1.length c, .bool (up 7 A.sl us ub).2]) ∧ w'.ownsRow w.heap.size 3 1 (.slice a (up 7 A.sl us ub).1.length c) (up 7 A.sl us ub).1.length ((up 7 A.sl us ub).1.map nun) ∧ Below w.heap.size w w' := by
  obtain ⟨i0, ji, hz0, hz1, hz2⟩ := info_parts info_int
  obtain ⟨hc1, hc2⟩ := id hcc
  have hB0 : Below w.heap.size w (w.alloc (.cells #[nu us, nu ub] 33)) := (Below.refl _ _).alloc (Nat.le_refl _) _
  have hL0 := lnl_new w us ub
  obtain ⟨lb, hlb⟩ : ∃ lb, w.heap.size = lb := ⟨_, rfl⟩
  obtain ⟨W0, hW0⟩ : ∃ W0, w.alloc (.cells #[nu us, nu ub] 33) = W0 := ⟨_, rfl⟩
  rw [hW0] at hB0 hL0
  rw [hlb] at hL0
  have HW0 := Hid.mk' hW0
  have HLB := Hid.mk' hlb
  have hle : w.heap.size ≤ lb := by omega
  obtain ⟨full, hfull⟩ : ∃ full, up 7 A.sl us ub = full := ⟨_, rfl⟩
  rw [hfull]
  have HU0 : Hid (Us w W0 A.sl lb full 0 [] (.slice none 0 0) us ub) := ⟨hB0, hL0, World.ownsRow_nil _ _ _ _, rfl, by rw [← hfull]; rfl⟩
  have cH : Hid (∀ wx s b', Below w.heap.size w wx → Lnl wx lb s b' → Calls Try.prog 38 #[ptr g, lkU s b'] wx fun e w' => e = .returned (.bool (decide (hold A.sl s b'))) ∧ Below wx.heap.size wx w') := fun wx s b' hb _ => holds_ref base wx g b cap fv A s b' (h.keep (Keep.of_below (F := fun _ => False) hb) (fun _ _ h => h)) hl hcc
  have cR : Hid (∀ wx (k : Nat), k < 32 → Below w.heap.size w wx → wx.cell? ⟨g, 0, none⟩ = some (.slice (some ⟨b, 0, none⟩) 32 cap) ∧ wx.cell? ⟨b, k * 17 + 7, none⟩ = some (nu (atW A.sl k).s.us) ∧ wx.cell? ⟨b, k * 17 + 8, none⟩ = some (nu (atW A.sl k).s.ub)) := fun wx k hk hb => by
    have h' := h.keep (Keep.of_below (F := fun _ => False) hb) (fun _ _ h => h)
    obtain ⟨hr, _⟩ := read_slot h' hl k hk
    exact ⟨h'.cells.1, hr 7 _ rfl, hr 8 _ rfl⟩
  clear h hl hB0 hL0 hW0 hlb hfull
  go_enter Try.func30, Try.ntmps30
  go_upto_region 1 with fail
  rw [HW0.out, HLB.out]
  go_wp2
  go_loopw [6, 7] (fun pv iv wr => ∃ (i : Nat) (a : Option Addr) (c : Nat), i ≤ 7 ∧ iv = nun i ∧ pv = .slice a i c ∧ Hid (∃ pre s b', Us w wr A.sl lb full i pre (.slice a i c) s b')) (fun _ iv _ => 7 - (intOf iv).toNat)
  case atStart => exact ⟨0, none, 0, by omega, rfl, rfl, [], us, ub, HU0.out⟩
  case round =>
    obtain ⟨i, a, c, hi, rfl, rfl, HR⟩ := hrel
    obtain ⟨pre, s, b', hU⟩ := HR.out
    clear HR HU0
    by_cases h7 : i = 7
    · have hfin : full = (pre, false) := by
        rw [hU.eq, h7]
        simp [up]
      have HF := Hid.mk' hfin
      have HO := Hid.mk' hU.own
      have HLn := Hid.mk' hU.len
      have HB := Hid.mk' hU.bel
      subst h7
      clear hU hfin cH cR
      go_wp2
      go_ret2
      rw [HF.out]
      dsimp only
      rw [HLn.out]
      exact ⟨_, _, rfl, HO.out, HB.out⟩
    · have h6 : i ≤ 6 := by omega
      have h6I : (i : Int) ≤ 6 := by omega
      obtain ⟨f, hf⟩ : ∃ f, 7 - i = f + 1 := ⟨6 - i, by omega⟩
      have hf2 : 7 - (i + 1) = f := by omega
      have hEq := hU.eq
      rw [hf] at hEq
      obtain ⟨x0, x1, xf⟩ := hU.ln.cells
      have c1 := Hid.mk' (cH.out wr s b' hU.bel hU.ln)
      by_cases hh : hold A.sl s b'
      · simp only [decide_eq_true hh] at c1
        have ht := hh.1
        obtain ⟨k, rfl⟩ : ∃ k : Nat, s = (k : Int) := ⟨s.toNat, by omega⟩
        have hk : k < 32 := by omega
        have hkI : (k : Int) < 32 := by omega
        have hk0 : (0 : Int) ≤ (k : Int) := by omega
        have HU := Hid.mk' hU
        have HEq := Hid.mk' hEq
        have HH := Hid.mk' hh
        clear hU hEq hh ht
        go_wp2_with fail
        refine c1.out.mono ?_
        rintro e w2 ⟨rfl, hb2⟩
        have HO2 := Hid.mk' ((Keep.of_below (F := fun _ => False) hb2).own HU.out.own (fun _ _ h => h))
        have HB2 : Hid (Below w.heap.size w w2) := HU.out.bel.trans (hb2.mono HU.out.bel.size)
        have HL2 := Hid.mk' (HU.out.ln.below hb2)
        have hs2 := HB2.out.size
        clear hb2 c1 x0 x1 xf
        obtain ⟨x0, x1, xf⟩ := HL2.out.cells
        go_upto_region 8 with (first | (at_builtin;  refine wpList_append_own _ rfl _ _ 35 rfl w.heap.size 3 i0 (.int .i64 0) 1 8 Try.underlying35 ji hz0 hz1 hz2 rfl (by decide) _ _ _ rfl (HO2.out.alloc _) ⟨w2.heap.size, 0, none⟩ 1 1 [nun k] rfl rfl (cell_one_new _ _ _) (by simp [Value.oneCell']) (by unfold maxLen; omega) (by omega) (by simp; omega) ?_; intro v3 w3 ho3 hg3 _; have hb3 : Below w.heap.size w w3 := Below.grown (HB2.out.alloc HB2.out.size _) hg3 (by have := HB2.out.size; simp; omega) (fun k hk => (HO2.out.lt k hk).1); have HL3 : Hid (Lnl w3 lb (k : Int) b') := ((hg3.block lb (by rw [World.size_alloc]; have := HL2.out.lt; omega) (fun e => own_notlink HO2.out HL2.out e.symm)).trans ((heap_alloc_old _ _ HL2.out.lt).trans HL2.out)); obtain ⟨g3, c3, rfl⟩ := ownsRow_succ ho3; have HO3 := Hid.mk' ho3; have HB3 := Hid.mk' hb3; clear ho3 hg3 hb3) | fail)
        clear x0 x1 xf HO2 HB2 HL2
        obtain ⟨x0, x1, xf⟩ := HL3.out.cells
        have xf0 := xf 0
        have xf1 := xf 1
        obtain ⟨q0, q7, q8⟩ := cR.out w3 k hk HB3.out
        obtain ⟨us', hus⟩ : ∃ us', (atW A.sl k).s.us = us' := ⟨_, rfl⟩
        obtain ⟨ub', hub⟩ : ∃ ub', (atW A.sl k).s.ub = ub' := ⟨_, rfl⟩
        rw [hus] at q7
        rw [hub] at q8
        have HL4 : Hid (Lnl (((w3.setCell ⟨lb, 0, none⟩ (nu us')).setCell ⟨lb, 1, none⟩ (nu ub')).drew) lb us' ub') := lnl_set HL3.out us' ub'
        have HO4 : Hid ((((w3.setCell ⟨lb, 0, none⟩ (nu us')).setCell ⟨lb, 1, none⟩ (nu ub')).drew).ownsRow w.heap.size 3 1 (.slice (some ⟨g3, 0, none⟩) (i + 1) c3) (i + 1) ((pre ++ [k]).map nun)) := by
          have hn := own_notlink HO3.out HL3.out
          have h4 := Nm.own_setOther (Nm.own_setOther HO3.out ⟨lb, 0, none⟩ (nu us') hn) ⟨lb, 1, none⟩ (nu ub') hn
          show World.ownsRow _ _ _ _ _ _ _
          rw [List.map_append]
          exact h4
        have HB4 : Hid (Below w.heap.size w (((w3.setCell ⟨lb, 0, none⟩ (nu us')).setCell ⟨lb, 1, none⟩ (nu ub')).drew)) := ((HB3.out.setCell (p := ⟨lb, 0, none⟩) hle _).setCell (p := ⟨lb, 1, none⟩) hle _).drew
        clear xf HL3 HO3 HB3
        go_region
        clear x0 x1 xf0 xf1 q0 q7 q8
        generalize ((w3.setCell ⟨lb, 0, none⟩ (nu us')).setCell ⟨lb, 1, none⟩ (nu ub')).drew = w4 at *
        obtain ⟨x0, x1, _⟩ := HL4.out.cells
        have HLn := Hid.mk' HU.out.len
        by_cases h0 : ub' = 0
        · have hb0 : (ub' == 0) = true := by simpa using h0
          have HF : Hid (full = (pre ++ [k], true)) := by
            have := HEq.out
            rw [up_top f A.sl k b' HH.out (by rw [hub]; exact h0)] at this
            show _ = _
            simpa using this
          clear HEq HH HU hus hub h0
          go_wp2
          go_ret2
          rw [HF.out]
          dsimp only
          rw [List.length_append, HLn.out, List.length_singleton]
          exact ⟨_, _, rfl, HO4.out, HB4.out⟩
        · have hb0 : (ub' == 0) = false := by simpa using h0
          have HF : Hid (full = (pre ++ [k] ++ (up (7 - (i + 1)) A.sl us' ub').1, (up (7 - (i + 1)) A.sl us' ub').2)) := by
            have := HEq.out
            rw [up_on f A.sl k b' HH.out (by rw [hub]; exact h0), hus, hub] at this
            show _ = _
            rw [hf2]
            simpa using this
          clear HEq HH HU hus hub h0
          go_wp2
          go_roundw
          case rel => exact ⟨i + 1, _, c3, by omega, by go_num, rfl, pre ++ [k], us', ub', HB4.out, HL4.out, HO4.out, by simp [HLn.out], HF.out⟩
          case measure => simp [intOf]; omega
      · simp only [decide_eq_false hh] at c1
        have HF : Hid (full = (pre, false)) := by
          rw [up_no f A.sl s b' hh] at hEq
          show _ = _
          simpa using hEq
        have HU := Hid.mk' hU
        clear hU hEq hh
        go_wp2_with fail
        refine c1.out.mono ?_
        rintro e w2 ⟨rfl, hb2⟩
        have HO2 := Hid.mk' ((Keep.of_below (F := fun _ => False) hb2).own HU.out.own (fun _ _ h => h))
        have HB2 : Hid (Below w.heap.size w w2) := HU.out.bel.trans (hb2.mono HU.out.bel.size)
        have HLn := Hid.mk' HU.out.len
        clear hb2 c1 HU
        go_wp2
        go_ret2
        rw [HF.out]
        dsimp only
        rw [HLn.out]
        exact ⟨_, _, rfl, HO2.out, HB2.out⟩
end Wk
end Go.Proofs.Ytbkcpjgaoncioaa
