import Derived.Test.YthabnombfbehkaaDoorTreE
/- The program's trees: what is wrong with a slot, whether a parent is there, the last one of a ring, how slots are hung. -/
namespace Go.Proofs.YthabnombfbehkaaDoor
set_option linter.ambiguousOpen false
open Go.RowKit
namespace Tr
open An Rg Ft Lv
set_option linter.unusedSimpArgs false
set_option linter.unusedVariables false

set_option maxRecDepth 100000 in
theorem isRoot_p (us ub : Int) (w : World) : Calls Tryd.prog 24 #[lkU us ub] w fun e w' => e = .returned (.bool (ub == 0)) ∧ Below w.heap.size w w' := by
  have HB : Hid (Below w.heap.size w (w.alloc (.cells #[nu us, nu ub] 48))) := (Below.refl _ _).alloc (Nat.le_refl _) _
  go_enter Tryd.func24, Tryd.ntmps24
  go_wp2
  go_ret
  exact ⟨rfl, HB.out⟩

/-- What is wrong with a parent. -/
def parE (S : List Slt) (i us ub : Int) : Nat := if ¬ there us then 1 else if us = i then 9 else if ¬ isUp S us ub then 10 else 0

section
variable {Rep : World → Nat → (Nat → Prop) → Arn → Prop}

set_option maxRecDepth 100000 in
set_option maxHeartbeats 1000000 in
theorem checkUsed_p (C : ArC Rep) (w : World) (p q : Nat) (F : Nat → Prop) (A : Arn) (l i : Int) (h : RepT Rep w p q F A l) (hg : An.Good A) :
    Calls Tryd.prog 22 #[ptr q, nu i] w fun e w' => e = .returned (errE (usedE A.sl i)) ∧ Below w.heap.size w w' := by
  have cs := Hid.mk' (slot_p C w p q F A l i h hg)
  unfold usedE
  by_cases ht : there i
  · rw [if_neg (fun z => z ht), decide_eq_true ht, at_there ht] at *
    obtain ⟨x, hx⟩ : ∃ x, at' A.sl i = x := ⟨_, rfl⟩
    rw [hx] at cs ⊢
    cases hu : x.used with
    | true =>
      rw [if_pos rfl]
      clear h hg ht hx
      go_enter Tryd.func22, Tryd.ntmps22
      go_wp2_with fail
      refine cs.out.mono ?_
      rintro e w1 ⟨rfl, hb1⟩
      have HB1 := Hid.mk' hb1
      have HZ := Hid.mk' (lone_zero w1)
      have HBZ : Hid (Below w.heap.size w (w1.alloc (.cells sltZ 54))) := HB1.out.alloc HB1.out.size _
      clear hb1
      go_wp2_with (first | (refine wpList_store_lone rfl _ _ rfl w1.heap.size rfl x rfl slt0 HZ.out ?_; intro w2 hl2 hg2 hs2; have HB2 : Hid (Below w.heap.size w w2) := (HBZ.out.grown hg2 HBZ.out.size (fun r e => by cases e; exact HB1.out.size)); have hc0 := hl2.cells.1; rw [hu] at hc0; clear hl2 hg2 hs2) | fail)
      go_ret
      exact ⟨rfl, HB2.out⟩
    | false =>
      rw [if_neg (by decide)]
      clear h hg ht hx
      go_enter Tryd.func22, Tryd.ntmps22
      go_wp2_with fail
      refine cs.out.mono ?_
      rintro e w1 ⟨rfl, hb1⟩
      have HB1 := Hid.mk' hb1
      have HZ := Hid.mk' (lone_zero w1)
      have HBZ : Hid (Below w.heap.size w (w1.alloc (.cells sltZ 54))) := HB1.out.alloc HB1.out.size _
      clear hb1
      go_wp2_with (first | (refine wpList_store_lone rfl _ _ rfl w1.heap.size rfl x rfl slt0 HZ.out ?_; intro w2 hl2 hg2 hs2; have HB2 : Hid (Below w.heap.size w w2) := (HBZ.out.grown hg2 HBZ.out.size (fun r e => by cases e; exact HB1.out.size)); have hc0 := hl2.cells.1; rw [hu] at hc0; clear hl2 hg2 hs2) | fail)
      go_ret
      exact ⟨rfl, HB2.out⟩
  · rw [if_pos ht, decide_eq_false ht] at *
    generalize A.at i = x at *
    clear h hg ht
    go_enter Tryd.func22, Tryd.ntmps22
    go_wp2_with fail
    refine cs.out.mono ?_
    rintro e w1 ⟨rfl, hb1⟩
    have HB1 := Hid.mk' hb1
    have HZ := Hid.mk' (lone_zero w1)
    have HBZ : Hid (Below w.heap.size w (w1.alloc (.cells sltZ 54))) := HB1.out.alloc HB1.out.size _
    clear hb1
    go_wp2_with (first | (refine wpList_store_lone rfl _ _ rfl w1.heap.size rfl x rfl slt0 HZ.out ?_; intro w2 hl2 hg2 hs2; have HB2 : Hid (Below w.heap.size w w2) := (HBZ.out.grown hg2 HBZ.out.size (fun r e => by cases e; exact HB1.out.size)); clear hl2 hg2 hs2) | fail)
    go_ret
    exact ⟨rfl, HB2.out⟩

set_option maxRecDepth 100000 in
set_option maxHeartbeats 1000000 in
theorem isThere_p (C : ArC Rep) (w : World) (p q : Nat) (F : Nat → Prop) (A : Arn) (l us ub : Int) (h : RepT Rep w p q F A l) (hg : An.Good A) :
    Calls Tryd.prog 25 #[ptr q, lkU us ub] w fun e w' => e = .returned (.bool (decide (isUp A.sl us ub))) ∧ Below w.heap.size w w' := by
  have hB0 : Below w.heap.size w (w.alloc (.cells #[nu us, nu ub] 48)) := (Below.refl _ _).alloc (Nat.le_refl _) _
  have hL0 := lnl_new w us ub
  obtain ⟨lb, hlb⟩ : ∃ lb, w.heap.size = lb := ⟨_, rfl⟩
  obtain ⟨W0, hW0⟩ : ∃ W0, w.alloc (.cells #[nu us, nu ub] 48) = W0 := ⟨_, rfl⟩
  rw [hW0] at hB0 hL0
  rw [hlb] at hL0
  have HW0 := Hid.mk' hW0
  have HLB := Hid.mk' hlb
  have HB0 := Hid.mk' hB0
  have HL0 := Hid.mk' hL0
  have hlt : lb < W0.heap.size := hL0.lt
  have cs := Hid.mk' (slot_h C w p q F A l us h hg W0 hB0)
  have HLK : Hid (∀ wx, Below w.heap.size w wx → Below W0.heap.size W0 wx → Lnl wx lb us ub) := fun wx _ hb => HL0.out.below hb
  have cs : Hid (Calls Tryd.prog 23 #[ptr q, nu us] W0 fun e w' => e = .returned (.tuple #[(A.at us).v, .bool (decide (there us))]) ∧ Below w.heap.size w w' ∧ Lnl w' lb us ub) := by
    refine (slot_p C W0 p q F A l us (h.below C.keep hB0) hg).mono ?_
    rintro e w' ⟨rfl, hb'⟩
    exact ⟨rfl, hB0.trans (hb'.mono hB0.size), HL0.out.below hb'⟩
  have x0 := hL0.cells.1
  clear HLK
  obtain ⟨r, hr0⟩ : ∃ r, decide (isUp A.sl us ub) = r := ⟨_, rfl⟩
  rw [hr0]
  have hr : r = true ↔ (there us ∧ (at' A.sl us).used = true ∧ (at' A.sl us).s.birth = ub) := by rw [← hr0]; exact decide_eq_true_iff
  clear hr0
  by_cases ht : there us
  · rw [decide_eq_true ht, at_there ht] at cs
    obtain ⟨x, hx⟩ : ∃ x, at' A.sl us = x := ⟨_, rfl⟩
    rw [hx] at cs hr
    cases hu : x.used with
    | true =>
      have hr2 : r = (x.s.birth == ub) := by
        rw [Bool.eq_iff_iff, hr]
        exact ⟨fun z => by simpa using z.2.2, fun z => ⟨ht, hu, by simpa using z⟩⟩
      subst hr2
      clear h hg ht hx hB0 hL0 hW0 hlb hr HL0
      go_enter Tryd.func25, Tryd.ntmps25
      go_upto_region 1 with fail
      rw [HW0.out, HLB.out]
      go_wp2_with fail
      refine cs.out.mono ?_
      rintro e w1 ⟨rfl, hb1, hn1⟩
      have HB1 := Hid.mk' hb1
      have HN1 := Hid.mk' hn1
      have hlb1 : lb < w1.heap.size := hn1.lt
      have HZ := Hid.mk' (lone_zero w1)
      have HBZ : Hid (Below w.heap.size w (w1.alloc (.cells sltZ 54))) := HB1.out.alloc HB1.out.size _
      have HNZ : Hid (Lnl (w1.alloc (.cells sltZ 54)) lb us ub) := (heap_alloc_old _ _ hlb1).trans hn1
      clear hb1 hn1 x0
      go_wp2_with (first | (refine wpList_store_lone rfl _ _ rfl w1.heap.size rfl x rfl slt0 HZ.out ?_; intro w2 hl2 hg2 hs2; have HB2 : Hid (Below w.heap.size w w2) := (HBZ.out.grown hg2 HBZ.out.size (fun r e => by cases e; exact HB1.out.size)); have HN2 : Hid (Lnl w2 lb us ub) := ((hg2.block _ HNZ.out.lt (fun e => by have := Option.some.inj e; omega)).trans HNZ.out); have hc0 := hl2.cells.1; rw [hu] at hc0; have hc6 := hl2.cells.2.2.2.2.2.2.1; have hx1 := HN2.out.cells.2.1; clear hl2; clear hg2 hs2) | fail)
      go_ret
      exact ⟨rfl, HB2.out⟩
    | false =>
      have hr2 : r = false := by
        cases r with
        | false => rfl
        | true => rw [hu] at hr; simp at hr
      subst hr2
      clear h hg ht hx hB0 hL0 hW0 hlb hr HL0
      go_enter Tryd.func25, Tryd.ntmps25
      go_upto_region 1 with fail
      rw [HW0.out, HLB.out]
      go_wp2_with fail
      refine cs.out.mono ?_
      rintro e w1 ⟨rfl, hb1, hn1⟩
      have HB1 := Hid.mk' hb1
      have HN1 := Hid.mk' hn1
      have hlb1 : lb < w1.heap.size := hn1.lt
      have HZ := Hid.mk' (lone_zero w1)
      have HBZ : Hid (Below w.heap.size w (w1.alloc (.cells sltZ 54))) := HB1.out.alloc HB1.out.size _
      have HNZ : Hid (Lnl (w1.alloc (.cells sltZ 54)) lb us ub) := (heap_alloc_old _ _ hlb1).trans hn1
      clear hb1 hn1 x0
      go_wp2_with (first | (refine wpList_store_lone rfl _ _ rfl w1.heap.size rfl x rfl slt0 HZ.out ?_; intro w2 hl2 hg2 hs2; have HB2 : Hid (Below w.heap.size w w2) := (HBZ.out.grown hg2 HBZ.out.size (fun r e => by cases e; exact HB1.out.size)); have HN2 : Hid (Lnl w2 lb us ub) := ((hg2.block _ HNZ.out.lt (fun e => by have := Option.some.inj e; omega)).trans HNZ.out); have hc0 := hl2.cells.1; rw [hu] at hc0; clear hl2; clear hg2 hs2) | fail)
      go_ret
      exact ⟨rfl, HB2.out⟩
  · rw [decide_eq_false ht] at cs
    have hr2 : r = false := by
      cases r with
      | false => rfl
      | true => exact absurd (hr.1 rfl).1 ht
    subst hr2
    generalize A.at us = x at *
    clear h hg ht hB0 hL0 hW0 hlb hr HL0
    go_enter Tryd.func25, Tryd.ntmps25
    go_upto_region 1 with fail
    rw [HW0.out, HLB.out]
    go_wp2_with fail
    refine cs.out.mono ?_
    rintro e w1 ⟨rfl, hb1, hn1⟩
    have HB1 := Hid.mk' hb1
    have HN1 := Hid.mk' hn1
    have hlb1 : lb < w1.heap.size := hn1.lt
    have HZ := Hid.mk' (lone_zero w1)
    have HBZ : Hid (Below w.heap.size w (w1.alloc (.cells sltZ 54))) := HB1.out.alloc HB1.out.size _
    have HNZ : Hid (Lnl (w1.alloc (.cells sltZ 54)) lb us ub) := (heap_alloc_old _ _ hlb1).trans hn1
    clear hb1 hn1 x0
    go_wp2_with (first | (refine wpList_store_lone rfl _ _ rfl w1.heap.size rfl x rfl slt0 HZ.out ?_; intro w2 hl2 hg2 hs2; have HB2 : Hid (Below w.heap.size w w2) := (HBZ.out.grown hg2 HBZ.out.size (fun r e => by cases e; exact HB1.out.size)); have HN2 : Hid (Lnl w2 lb us ub) := ((hg2.block _ HNZ.out.lt (fun e => by have := Option.some.inj e; omega)).trans HNZ.out); clear hl2; clear hg2 hs2) | fail)
    go_ret
    exact ⟨rfl, HB2.out⟩

set_option maxRecDepth 100000 in
set_option maxHeartbeats 1000000 in
theorem checkParent_p (C : ArC Rep) (w : World) (p q : Nat) (F : Nat → Prop) (A : Arn) (l i us ub : Int) (h : RepT Rep w p q F A l) (hg : An.Good A) :
    Calls Tryd.prog 43 #[ptr q, nu i, lkU us ub] w fun e w' => e = .returned (errE (parE A.sl i us ub)) ∧ Below w.heap.size w w' := by
  have hB0 : Below w.heap.size w (w.alloc (.cells #[nu us, nu ub] 48)) := (Below.refl _ _).alloc (Nat.le_refl _) _
  have hL0 := lnl_new w us ub
  obtain ⟨lb, hlb⟩ : ∃ lb, w.heap.size = lb := ⟨_, rfl⟩
  obtain ⟨W0, hW0⟩ : ∃ W0, w.alloc (.cells #[nu us, nu ub] 48) = W0 := ⟨_, rfl⟩
  rw [hW0] at hB0 hL0
  rw [hlb] at hL0
  have HW0 := Hid.mk' hW0
  have HLB := Hid.mk' hlb
  have HB0 := Hid.mk' hB0
  have HL0 := Hid.mk' hL0
  have hlt : lb < W0.heap.size := hL0.lt
  have cs : Hid (Calls Tryd.prog 23 #[ptr q, nu us] W0 fun e w' => e = .returned (.tuple #[(A.at us).v, .bool (decide (there us))]) ∧ Below w.heap.size w w' ∧ Lnl w' lb us ub) := by
    refine (slot_p C W0 p q F A l us (h.below C.keep hB0) hg).mono ?_
    rintro e w' ⟨rfl, hb'⟩
    exact ⟨rfl, hB0.trans (hb'.mono hB0.size), HL0.out.below hb'⟩
  have cT : Hid (∀ wx, Below w.heap.size w wx → Calls Tryd.prog 25 #[ptr q, lkU us ub] wx fun e w' => e = .returned (.bool (decide (isUp A.sl us ub))) ∧ Below w.heap.size w w') := fun wx hb => by
    refine (isThere_p C wx p q F A l us ub (h.below C.keep hb) hg).mono ?_
    rintro e w' ⟨rfl, hb'⟩
    exact ⟨rfl, hb.trans (hb'.mono hb.size)⟩
  have x0 := hL0.cells.1
  unfold parE
  generalize A.at us = x at *
  by_cases ht : there us
  · rw [decide_eq_true ht] at cs
    rw [if_neg (fun z => z ht)]
    by_cases hi : us = i
    · rw [if_pos hi]
      have hb : (us == i) = true := by simpa using hi
      clear h hg ht hB0 hL0 hW0 hlb HL0 cT hi
      go_enter Tryd.func43, Tryd.ntmps43
      go_upto_region 1 with fail
      rw [HW0.out, HLB.out]
      go_wp2_with fail
      refine cs.out.mono ?_
      rintro e w1 ⟨rfl, hb1, hn1⟩
      have HB1 := Hid.mk' hb1
      have HN1 := Hid.mk' hn1
      have hlb1 : lb < w1.heap.size := hn1.lt
      have HZ := Hid.mk' (lone_zero w1)
      have HBZ : Hid (Below w.heap.size w (w1.alloc (.cells sltZ 54))) := HB1.out.alloc HB1.out.size _
      have HNZ : Hid (Lnl (w1.alloc (.cells sltZ 54)) lb us ub) := (heap_alloc_old _ _ hlb1).trans hn1
      clear hb1 hn1 x0
      go_wp2_with (first | (refine wpList_store_lone rfl _ _ rfl w1.heap.size rfl x rfl slt0 HZ.out ?_; intro w2 hl2 hg2 hs2; have HB2 : Hid (Below w.heap.size w w2) := (HBZ.out.grown hg2 HBZ.out.size (fun r e => by cases e; exact HB1.out.size)); have HN2 : Hid (Lnl w2 lb us ub) := ((hg2.block _ HNZ.out.lt (fun e => by have := Option.some.inj e; omega)).trans HNZ.out); have hx0 := HN2.out.cells.1; clear hl2; clear hg2 hs2) | fail)
      go_ret
      exact ⟨rfl, HB2.out⟩
    · rw [if_neg hi]
      have hb : (us == i) = false := by simpa using hi
      by_cases hp : isUp A.sl us ub
      · rw [if_neg (fun z => z hp)]
        simp only [decide_eq_true hp] at cT
        clear h hg ht hB0 hL0 hW0 hlb HL0 hi hp
        go_enter Tryd.func43, Tryd.ntmps43
        go_upto_region 1 with fail
        rw [HW0.out, HLB.out]
        go_wp2_with fail
        refine cs.out.mono ?_
        rintro e w1 ⟨rfl, hb1, hn1⟩
        have HB1 := Hid.mk' hb1
        have HN1 := Hid.mk' hn1
        have hlb1 : lb < w1.heap.size := hn1.lt
        have HZ := Hid.mk' (lone_zero w1)
        have HBZ : Hid (Below w.heap.size w (w1.alloc (.cells sltZ 54))) := HB1.out.alloc HB1.out.size _
        have HNZ : Hid (Lnl (w1.alloc (.cells sltZ 54)) lb us ub) := (heap_alloc_old _ _ hlb1).trans hn1
        clear hb1 hn1 x0
        go_wp2_with (first | (refine wpList_store_lone rfl _ _ rfl w1.heap.size rfl x rfl slt0 HZ.out ?_; intro w2 hl2 hg2 hs2; have HB2 : Hid (Below w.heap.size w w2) := (HBZ.out.grown hg2 HBZ.out.size (fun r e => by cases e; exact HB1.out.size)); have HN2 : Hid (Lnl w2 lb us ub) := ((hg2.block _ HNZ.out.lt (fun e => by have := Option.some.inj e; omega)).trans HNZ.out); have hx0 := HN2.out.cells.1; have hx1 := HN2.out.cells.2.1; clear hl2; clear hg2 hs2) | fail)
        refine (cT.out _ HB2.out).mono ?_
        rintro e w3 ⟨rfl, hb3⟩
        have HB3 := Hid.mk' hb3
        clear hb3
        go_wp2
        go_ret
        exact ⟨rfl, HB3.out⟩
      · rw [if_pos hp]
        simp only [decide_eq_false hp] at cT
        clear h hg ht hB0 hL0 hW0 hlb HL0 hi hp
        go_enter Tryd.func43, Tryd.ntmps43
        go_upto_region 1 with fail
        rw [HW0.out, HLB.out]
        go_wp2_with fail
        refine cs.out.mono ?_
        rintro e w1 ⟨rfl, hb1, hn1⟩
        have HB1 := Hid.mk' hb1
        have HN1 := Hid.mk' hn1
        have hlb1 : lb < w1.heap.size := hn1.lt
        have HZ := Hid.mk' (lone_zero w1)
        have HBZ : Hid (Below w.heap.size w (w1.alloc (.cells sltZ 54))) := HB1.out.alloc HB1.out.size _
        have HNZ : Hid (Lnl (w1.alloc (.cells sltZ 54)) lb us ub) := (heap_alloc_old _ _ hlb1).trans hn1
        clear hb1 hn1 x0
        go_wp2_with (first | (refine wpList_store_lone rfl _ _ rfl w1.heap.size rfl x rfl slt0 HZ.out ?_; intro w2 hl2 hg2 hs2; have HB2 : Hid (Below w.heap.size w w2) := (HBZ.out.grown hg2 HBZ.out.size (fun r e => by cases e; exact HB1.out.size)); have HN2 : Hid (Lnl w2 lb us ub) := ((hg2.block _ HNZ.out.lt (fun e => by have := Option.some.inj e; omega)).trans HNZ.out); have hx0 := HN2.out.cells.1; have hx1 := HN2.out.cells.2.1; clear hl2; clear hg2 hs2) | fail)
        refine (cT.out _ HB2.out).mono ?_
        rintro e w3 ⟨rfl, hb3⟩
        have HB3 := Hid.mk' hb3
        clear hb3
        go_wp2
        go_ret
        exact ⟨rfl, HB3.out⟩
  · rw [decide_eq_false ht] at cs
    rw [if_pos ht]
    clear h hg ht hB0 hL0 hW0 hlb HL0 cT
    go_enter Tryd.func43, Tryd.ntmps43
    go_upto_region 1 with fail
    rw [HW0.out, HLB.out]
    go_wp2_with fail
    refine cs.out.mono ?_
    rintro e w1 ⟨rfl, hb1, hn1⟩
    have HB1 := Hid.mk' hb1
    have HN1 := Hid.mk' hn1
    have hlb1 : lb < w1.heap.size := hn1.lt
    have HZ := Hid.mk' (lone_zero w1)
    have HBZ : Hid (Below w.heap.size w (w1.alloc (.cells sltZ 54))) := HB1.out.alloc HB1.out.size _
    have HNZ : Hid (Lnl (w1.alloc (.cells sltZ 54)) lb us ub) := (heap_alloc_old _ _ hlb1).trans hn1
    clear hb1 hn1 x0
    go_wp2_with (first | (refine wpList_store_lone rfl _ _ rfl w1.heap.size rfl x rfl slt0 HZ.out ?_; intro w2 hl2 hg2 hs2; have HB2 : Hid (Below w.heap.size w w2) := (HBZ.out.grown hg2 HBZ.out.size (fun r e => by cases e; exact HB1.out.size)); have HN2 : Hid (Lnl w2 lb us ub) := ((hg2.block _ HNZ.out.lt (fun e => by have := Option.some.inj e; omega)).trans HNZ.out); clear hl2; clear hg2 hs2) | fail)
    go_ret
    exact ⟨rfl, HB2.out⟩

set_option maxRecDepth 100000 in
set_option maxHeartbeats 1000000 in
theorem lastBelow_p (C : ArC Rep) (w : World) (p q : Nat) (F : Nat → Prop) (A : Arn) (l us ub : Int) (h : RepT Rep w p q F A l) (hg : An.Good A) (hu : ub ≠ 0 → there us) :
    Calls Tryd.prog 27 #[ptr q, lkU us ub] w fun e w' => e = .returned (nu (ringOf A.sl l us ub)) ∧ Below w.heap.size w w' := by
  have hB0 : Below w.heap.size w (w.alloc (.cells #[nu us, nu ub] 48)) := (Below.refl _ _).alloc (Nat.le_refl _) _
  have hL0 := lnl_new w us ub
  obtain ⟨lb, hlb⟩ : ∃ lb, w.heap.size = lb := ⟨_, rfl⟩
  obtain ⟨W0, hW0⟩ : ∃ W0, w.alloc (.cells #[nu us, nu ub] 48) = W0 := ⟨_, rfl⟩
  rw [hW0] at hB0 hL0
  rw [hlb] at hL0
  have HW0 := Hid.mk' hW0
  have HLB := Hid.mk' hlb
  have HB0 := Hid.mk' hB0
  have HL0 := Hid.mk' hL0
  have hlt : lb < W0.heap.size := hL0.lt
  have cr : Hid (Calls Tryd.prog 24 #[lkU us ub] W0 fun e w' => e = .returned (.bool (ub == 0)) ∧ Below w.heap.size w w' ∧ Lnl w' lb us ub ∧ RepT Rep w' p q F A l) := by
    refine (isRoot_p us ub W0).mono ?_
    rintro e w' ⟨rfl, hb'⟩
    exact ⟨rfl, hB0.trans (hb'.mono hB0.size), HL0.out.below hb', (h.below C.keep hB0).below C.keep hb'⟩
  have x0 := hL0.cells.1
  have x1 := hL0.cells.2.1
  unfold ringOf
  by_cases h0 : ub = 0
  · rw [if_pos h0]
    have hb : (ub == 0) = true := by simpa using h0
    rw [hb] at cr
    clear h hg hB0 hL0 hW0 hlb HL0 hu h0
    go_enter Tryd.func27, Tryd.ntmps27
    go_upto_region 1 with fail
    rw [HW0.out, HLB.out]
    go_wp2_with fail
    refine cr.out.mono ?_
    rintro e w1 ⟨rfl, hb1, _, hr1⟩
    have HB1 := Hid.mk' hb1
    have hc1 := hr1.cells.2.1
    clear hb1 hr1 x0 x1
    go_wp2
    go_ret
    exact ⟨rfl, HB1.out⟩
  · rw [if_neg h0]
    have hb : (ub == 0) = false := by simpa using h0
    rw [hb] at cr
    have ht := hu h0
    have cs : Hid (∀ wx, RepT Rep wx p q F A l → Below w.heap.size w wx → Lnl wx lb us ub → Calls Tryd.prog 23 #[ptr q, nu us] wx fun e w' => e = .returned (.tuple #[(at' A.sl us).v, .bool true]) ∧ Below w.heap.size w w' ∧ Lnl w' lb us ub) := fun wx hr hb hn => by
      have := slot_p C wx p q F A l us hr hg
      rw [decide_eq_true ht, at_there ht] at this
      refine this.mono ?_
      rintro e w' ⟨rfl, hb'⟩
      exact ⟨rfl, hb.trans (hb'.mono hb.size), hn.below hb'⟩
    generalize at' A.sl us = x at *
    clear h hg hB0 hL0 hW0 hlb HL0 hu h0 ht
    go_enter Tryd.func27, Tryd.ntmps27
    go_upto_region 1 with fail
    rw [HW0.out, HLB.out]
    go_wp2_with fail
    refine cr.out.mono ?_
    rintro e w0 ⟨rfl, hb0, hn0, hr0⟩
    have HB0' := Hid.mk' hb0
    have HN0 := Hid.mk' hn0
    have HR0 := Hid.mk' hr0
    have hy0 := hn0.cells.1
    clear hb0 hn0 hr0 x1
    go_wp2_with fail
    refine (cs.out _ HR0.out HB0'.out HN0.out).mono ?_
    clear hy0
    rintro e w1 ⟨rfl, hb1, hn1⟩
    have HB1 := Hid.mk' hb1
    have HN1 := Hid.mk' hn1
    have hlb1 : lb < w1.heap.size := hn1.lt
    have HZ := Hid.mk' (lone_zero w1)
    have HBZ : Hid (Below w.heap.size w (w1.alloc (.cells sltZ 54))) := HB1.out.alloc HB1.out.size _
    have HNZ : Hid (Lnl (w1.alloc (.cells sltZ 54)) lb us ub) := (heap_alloc_old _ _ hlb1).trans hn1
    clear hb1 hn1 x0
    go_wp2_with (first | (refine wpList_store_lone rfl _ _ rfl w1.heap.size rfl x rfl slt0 HZ.out ?_; intro w2 hl2 hg2 hs2; have HB2 : Hid (Below w.heap.size w w2) := (HBZ.out.grown hg2 HBZ.out.size (fun r e => by cases e; exact HB1.out.size)); have HN2 : Hid (Lnl w2 lb us ub) := ((hg2.block _ HNZ.out.lt (fun e => by have := Option.some.inj e; omega)).trans HNZ.out); have hc2 := hl2.cells.2.2.1; clear hl2; clear hg2 hs2) | fail)
    go_ret
    exact ⟨rfl, HB2.out⟩
end
end Tr
end Go.Proofs.YthabnombfbehkaaDoor
