/- TreF, TreJ, in one text. -/
import Derived.Test.YthabnombfbehkaaTreE
/- The program's trees: what is wrong with a slot, whether a parent is there, the last one of a ring, how slots are hung. -/
namespace Go.Proofs.Ythabnombfbehkaa
set_option linter.ambiguousOpen false
open Go.RowKit
namespace Tr
open An Rg Ft Lv
set_option linter.unusedSimpArgs false
set_option linter.unusedVariables false

set_option maxRecDepth 100000 in
theorem isRoot_p (us ub : Int) (w : World) : Calls Try.prog 24 #[lkU us ub] w fun e w' => e = .returned (.bool (ub == 0)) ∧ Below w.heap.size w w' := by
  have HB : Hid (Below w.heap.size w (w.alloc (.cells #[nu us, nu ub] 43))) := (Below.refl _ _).alloc (Nat.le_refl _) _
  go_enter Try.func24, Try.ntmps24
  go_wp2
  go_ret
  exact ⟨rfl, HB.out⟩

/-- What is wrong with a parent. -/
def parE (S : List Slt) (i us ub : Int) : Nat := if ¬ there us then 1 else if us = i then 9 else if ¬ isUp S us ub then 10 else 0

section
variable {Rep : World → Nat → (Nat → Prop) → Arn → Prop}

set_option maxRecDepth 100000 in
set_option maxHeartbeats 1000000 in
theorem checkUsed_p (C : ArC Rep) (w : World) (p q : Nat) (F : Nat → Prop) (A : Arn) (l i : Int) (h : RepT Rep w p q F A l) (hg : An.Good A) :
    Calls Try.prog 22 #[ptr q, nu i] w fun e w' => e = .returned (errE (usedE A.sl i)) ∧ Below w.heap.size w w' := by
  have cs := Hid.mk' (slot_p C w p q F A l i h hg)
  unfold usedE
  by_cases ht : there i
  · rw [if_neg (fun z => z ht), decide_eq_true ht, at_there ht] at *
    obtain ⟨x, hx⟩ : ∃ x, at' A.sl i = x := ⟨_, rfl⟩
    rw [hx] at cs ⊢
    cases hu : x.used with
    | true =>
      rw [if_pos rfl]
      clear h hg ht hx
      go_enter Try.func22, Try.ntmps22
      go_wp2_with fail
      refine cs.out.mono ?_
      rintro e w1 ⟨rfl, hb1⟩
      have HB1 := Hid.mk' hb1
      have HZ := Hid.mk' (lone_zero w1)
      have HBZ : Hid (Below w.heap.size w (w1.alloc (.cells sltZ 49))) := HB1.out.alloc HB1.out.size _
      clear hb1
      go_wp2_with (first | (refine wpList_store_lone rfl _ _ rfl w1.heap.size rfl x rfl slt0 HZ.out ?_; intro w2 hl2 hg2 hs2; have HB2 : Hid (Below w.heap.size w w2) := (HBZ.out.grown hg2 HBZ.out.size (fun r e => by cases e; exact HB1.out.size)); have hc0 := hl2.cells.1; rw [hu] at hc0; clear hl2 hg2 hs2) | fail)
      go_ret
      exact ⟨rfl, HB2.out⟩
    | false =>
      rw [if_neg (by decide)]
      clear h hg ht hx
      go_enter Try.func22, Try.ntmps22
      go_wp2_with fail
      refine cs.out.mono ?_
      rintro e w1 ⟨rfl, hb1⟩
      have HB1 := Hid.mk' hb1
      have HZ := Hid.mk' (lone_zero w1)
      have HBZ : Hid (Below w.heap.size w (w1.alloc (.cells sltZ 49))) := HB1.out.alloc HB1.out.size _
      clear hb1
      go_wp2_with (first | (refine wpList_store_lone rfl _ _ rfl w1.heap.size rfl x rfl slt0 HZ.out ?_; intro w2 hl2 hg2 hs2; have HB2 : Hid (Below w.heap.size w w2) := (HBZ.out.grown hg2 HBZ.out.size (fun r e => by cases e; exact HB1.out.size)); have hc0 := hl2.cells.1; rw [hu] at hc0; clear hl2 hg2 hs2) | fail)
      go_ret
      exact ⟨rfl, HB2.out⟩
  · rw [if_pos ht, decide_eq_false ht] at *
    generalize A.at i = x at *
    clear h hg ht
    go_enter Try.func22, Try.ntmps22
    go_wp2_with fail
    refine cs.out.mono ?_
    rintro e w1 ⟨rfl, hb1⟩
    have HB1 := Hid.mk' hb1
    have HZ := Hid.mk' (lone_zero w1)
    have HBZ : Hid (Below w.heap.size w (w1.alloc (.cells sltZ 49))) := HB1.out.alloc HB1.out.size _
    clear hb1
    go_wp2_with (first | (refine wpList_store_lone rfl _ _ rfl w1.heap.size rfl x rfl slt0 HZ.out ?_; intro w2 hl2 hg2 hs2; have HB2 : Hid (Below w.heap.size w w2) := (HBZ.out.grown hg2 HBZ.out.size (fun r e => by cases e; exact HB1.out.size)); clear hl2 hg2 hs2) | fail)
    go_ret
    exact ⟨rfl, HB2.out⟩

set_option maxRecDepth 100000 in
set_option maxHeartbeats 1000000 in
theorem isThere_p (C : ArC Rep) (w : World) (p q : Nat) (F : Nat → Prop) (A : Arn) (l us ub : Int) (h : RepT Rep w p q F A l) (hg : An.Good A) :
    Calls Try.prog 25 #[ptr q, lkU us ub] w fun e w' => e = .returned (.bool (decide (isUp A.sl us ub))) ∧ Below w.heap.size w w' := by
  have hB0 : Below w.heap.size w (w.alloc (.cells #[nu us, nu ub] 43)) := (Below.refl _ _).alloc (Nat.le_refl _) _
  have hL0 := lnl_new w us ub
  obtain ⟨lb, hlb⟩ : ∃ lb, w.heap.size = lb := ⟨_, rfl⟩
  obtain ⟨W0, hW0⟩ : ∃ W0, w.alloc (.cells #[nu us, nu ub] 43) = W0 := ⟨_, rfl⟩
  rw [hW0] at hB0 hL0
  rw [hlb] at hL0
  have HW0 := Hid.mk' hW0
  have HLB := Hid.mk' hlb
  have HB0 := Hid.mk' hB0
  have HL0 := Hid.mk' hL0
  have hlt : lb < W0.heap.size := hL0.lt
  have cs := Hid.mk' (slot_h C w p q F A l us h hg W0 hB0)
  have HLK : Hid (∀ wx, Below w.heap.size w wx → Below W0.heap.size W0 wx → Lnl wx lb us ub) := fun wx _ hb => HL0.out.below hb
  have cs : Hid (Calls Try.prog 23 #[ptr q, nu us] W0 fun e w' => e = .returned (.tuple #[(A.at us).v, .bool (decide (there us))]) ∧ Below w.heap.size w w' ∧ Lnl w' lb us ub) := by
    refine (slot_p C W0 p q F A l us (h.below C.keep hB0) hg).mono ?_
    rintro e w' ⟨rfl, hb'⟩
    exact ⟨rfl, hB0.trans (hb'.mono hB0.size), HL0.out.below hb'⟩
  have x0 := hL0.cells.1
  clear HLK
  obtain ⟨r, hr0⟩ : ∃ r, decide (isUp A.sl us ub) = r := ⟨_, rfl⟩
  rw [hr0]
  have hr : r = true ↔ (there us ∧ (at' A.sl us).used = true ∧ (at' A.sl us).s.birth = ub) := by rw [← hr0]; exact decide_eq_true_iff
  clear hr0
  by_cases ht : there us
  · rw [decide_eq_true ht, at_there ht] at cs
    obtain ⟨x, hx⟩ : ∃ x, at' A.sl us = x := ⟨_, rfl⟩
    rw [hx] at cs hr
    cases hu : x.used with
    | true =>
      have hr2 : r = (x.s.birth == ub) := by
        rw [Bool.eq_iff_iff, hr]
        exact ⟨fun z => by simpa using z.2.2, fun z => ⟨ht, hu, by simpa using z⟩⟩
      subst hr2
      clear h hg ht hx hB0 hL0 hW0 hlb hr HL0
      go_enter Try.func25, Try.ntmps25
      go_upto_region 1 with fail
      rw [HW0.out, HLB.out]
      go_wp2_with fail
      refine cs.out.mono ?_
      rintro e w1 ⟨rfl, hb1, hn1⟩
      have HB1 := Hid.mk' hb1
      have HN1 := Hid.mk' hn1
      have hlb1 : lb < w1.heap.size := hn1.lt
      have HZ := Hid.mk' (lone_zero w1)
      have HBZ : Hid (Below w.heap.size w (w1.alloc (.cells sltZ 49))) := HB1.out.alloc HB1.out.size _
      have HNZ : Hid (Lnl (w1.alloc (.cells sltZ 49)) lb us ub) := (heap_alloc_old _ _ hlb1).trans hn1
      clear hb1 hn1 x0
      go_wp2_with (first | (refine wpList_store_lone rfl _ _ rfl w1.heap.size rfl x rfl slt0 HZ.out ?_; intro w2 hl2 hg2 hs2; have HB2 : Hid (Below w.heap.size w w2) := (HBZ.out.grown hg2 HBZ.out.size (fun r e => by cases e; exact HB1.out.size)); have HN2 : Hid (Lnl w2 lb us ub) := ((hg2.block _ HNZ.out.lt (fun e => by have := Option.some.inj e; omega)).trans HNZ.out); have hc0 := hl2.cells.1; rw [hu] at hc0; have hc6 := hl2.cells.2.2.2.2.2.2.1; have hx1 := HN2.out.cells.2.1; clear hl2; clear hg2 hs2) | fail)
      go_ret
      exact ⟨rfl, HB2.out⟩
    | false =>
      have hr2 : r = false := by
        cases r with
        | false => rfl
        | true => rw [hu] at hr; simp at hr
      subst hr2
      clear h hg ht hx hB0 hL0 hW0 hlb hr HL0
      go_enter Try.func25, Try.ntmps25
      go_upto_region 1 with fail
      rw [HW0.out, HLB.out]
      go_wp2_with fail
      refine cs.out.mono ?_
      rintro e w1 ⟨rfl, hb1, hn1⟩
      have HB1 := Hid.mk' hb1
      have HN1 := Hid.mk' hn1
      have hlb1 : lb < w1.heap.size := hn1.lt
      have HZ := Hid.mk' (lone_zero w1)
      have HBZ : Hid (Below w.heap.size w (w1.alloc (.cells sltZ 49))) := HB1.out.alloc HB1.out.size _
      have HNZ : Hid (Lnl (w1.alloc (.cells sltZ 49)) lb us ub) := (heap_alloc_old _ _ hlb1).trans hn1
      clear hb1 hn1 x0
      go_wp2_with (first | (refine wpList_store_lone rfl _ _ rfl w1.heap.size rfl x rfl slt0 HZ.out ?_; intro w2 hl2 hg2 hs2; have HB2 : Hid (Below w.heap.size w w2) := (HBZ.out.grown hg2 HBZ.out.size (fun r e => by cases e; exact HB1.out.size)); have HN2 : Hid (Lnl w2 lb us ub) := ((hg2.block _ HNZ.out.lt (fun e => by have := Option.some.inj e; omega)).trans HNZ.out); have hc0 := hl2.cells.1; rw [hu] at hc0; clear hl2; clear hg2 hs2) | fail)
      go_ret
      exact ⟨rfl, HB2.out⟩
  · rw [decide_eq_false ht] at cs
    have hr2 : r = false := by
      cases r with
      | false => rfl
      | true => exact absurd (hr.1 rfl).1 ht
    subst hr2
    generalize A.at us = x at *
    clear h hg ht hB0 hL0 hW0 hlb hr HL0
    go_enter Try.func25, Try.ntmps25
    go_upto_region 1 with fail
    rw [HW0.out, HLB.out]
    go_wp2_with fail
    refine cs.out.mono ?_
    rintro e w1 ⟨rfl, hb1, hn1⟩
    have HB1 := Hid.mk' hb1
    have HN1 := Hid.mk' hn1
    have hlb1 : lb < w1.heap.size := hn1.lt
    have HZ := Hid.mk' (lone_zero w1)
    have HBZ : Hid (Below w.heap.size w (w1.alloc (.cells sltZ 49))) := HB1.out.alloc HB1.out.size _
    have HNZ : Hid (Lnl (w1.alloc (.cells sltZ 49)) lb us ub) := (heap_alloc_old _ _ hlb1).trans hn1
    clear hb1 hn1 x0
    go_wp2_with (first | (refine wpList_store_lone rfl _ _ rfl w1.heap.size rfl x rfl slt0 HZ.out ?_; intro w2 hl2 hg2 hs2; have HB2 : Hid (Below w.heap.size w w2) := (HBZ.out.grown hg2 HBZ.out.size (fun r e => by cases e; exact HB1.out.size)); have HN2 : Hid (Lnl w2 lb us ub) := ((hg2.block _ HNZ.out.lt (fun e => by have := Option.some.inj e; omega)).trans HNZ.out); clear hl2; clear hg2 hs2) | fail)
    go_ret
    exact ⟨rfl, HB2.out⟩

set_option maxRecDepth 100000 in
set_option maxHeartbeats 1000000 in
theorem checkParent_p (C : ArC Rep) (w : World) (p q : Nat) (F : Nat → Prop) (A : Arn) (l i us ub : Int) (h : RepT Rep w p q F A l) (hg : An.Good A) :
    Calls Try.prog 43 #[ptr q, nu i, lkU us ub] w fun e w' => e = .returned (errE (parE A.sl i us ub)) ∧ Below w.heap.size w w' := by
  have hB0 : Below w.heap.size w (w.alloc (.cells #[nu us, nu ub] 43)) := (Below.refl _ _).alloc (Nat.le_refl _) _
  have hL0 := lnl_new w us ub
  obtain ⟨lb, hlb⟩ : ∃ lb, w.heap.size = lb := ⟨_, rfl⟩
  obtain ⟨W0, hW0⟩ : ∃ W0, w.alloc (.cells #[nu us, nu ub] 43) = W0 := ⟨_, rfl⟩
  rw [hW0] at hB0 hL0
  rw [hlb] at hL0
  have HW0 := Hid.mk' hW0
  have HLB := Hid.mk' hlb
  have HB0 := Hid.mk' hB0
  have HL0 := Hid.mk' hL0
  have hlt : lb < W0.heap.size := hL0.lt
  have cs : Hid (Calls Try.prog 23 #[ptr q, nu us] W0 fun e w' => e = .returned (.tuple #[(A.at us).v, .bool (decide (there us))]) ∧ Below w.heap.size w w' ∧ Lnl w' lb us ub) := by
    refine (slot_p C W0 p q F A l us (h.below C.keep hB0) hg).mono ?_
    rintro e w' ⟨rfl, hb'⟩
    exact ⟨rfl, hB0.trans (hb'.mono hB0.size), HL0.out.below hb'⟩
  have cT : Hid (∀ wx, Below w.heap.size w wx → Calls Try.prog 25 #[ptr q, lkU us ub] wx fun e w' => e = .returned (.bool (decide (isUp A.sl us ub))) ∧ Below w.heap.size w w') := fun wx hb => by
    refine (isThere_p C wx p q F A l us ub (h.below C.keep hb) hg).mono ?_
    rintro e w' ⟨rfl, hb'⟩
    exact ⟨rfl, hb.trans (hb'.mono hb.size)⟩
  have x0 := hL0.cells.1
  unfold parE
  generalize A.at us = x at *
  by_cases ht : there us
  · rw [decide_eq_true ht] at cs
    rw [if_neg (fun z => z ht)]
    by_cases hi : us = i
    · rw [if_pos hi]
      have hb : (us == i) = true := by simpa using hi
      clear h hg ht hB0 hL0 hW0 hlb HL0 cT hi
      go_enter Try.func43, Try.ntmps43
      go_upto_region 1 with fail
      rw [HW0.out, HLB.out]
      go_wp2_with fail
      refine cs.out.mono ?_
      rintro e w1 ⟨rfl, hb1, hn1⟩
      have HB1 := Hid.mk' hb1
      have HN1 := Hid.mk' hn1
      have hlb1 : lb < w1.heap.size := hn1.lt
      have HZ := Hid.mk' (lone_zero w1)
      have HBZ : Hid (Below w.heap.size w (w1.alloc (.cells sltZ 49))) := HB1.out.alloc HB1.out.size _
      have HNZ : Hid (Lnl (w1.alloc (.cells sltZ 49)) lb us ub) := (heap_alloc_old _ _ hlb1).trans hn1
      clear hb1 hn1 x0
      go_wp2_with (first | (refine wpList_store_lone rfl _ _ rfl w1.heap.size rfl x rfl slt0 HZ.out ?_; intro w2 hl2 hg2 hs2; have HB2 : Hid (Below w.heap.size w w2) := (HBZ.out.grown hg2 HBZ.out.size (fun r e => by cases e; exact HB1.out.size)); have HN2 : Hid (Lnl w2 lb us ub) := ((hg2.block _ HNZ.out.lt (fun e => by have := Option.some.inj e; omega)).trans HNZ.out); have hx0 := HN2.out.cells.1; clear hl2; clear hg2 hs2) | fail)
      go_ret
      exact ⟨rfl, HB2.out⟩
    · rw [if_neg hi]
      have hb : (us == i) = false := by simpa using hi
      by_cases hp : isUp A.sl us ub
      · rw [if_neg (fun z => z hp)]
        simp only [decide_eq_true hp] at cT
        clear h hg ht hB0 hL0 hW0 hlb HL0 hi hp
        go_enter Try.func43, Try.ntmps43
        go_upto_region 1 with fail
        rw [HW0.out, HLB.out]
        go_wp2_with fail
        refine cs.out.mono ?_
        rintro e w1 ⟨rfl, hb1, hn1⟩
        have HB1 := Hid.mk' hb1
        have HN1 := Hid.mk' hn1
        have hlb1 : lb < w1.heap.size := hn1.lt
        have HZ := Hid.mk' (lone_zero w1)
        have HBZ : Hid (Below w.heap.size w (w1.alloc (.cells sltZ 49))) := HB1.out.alloc HB1.out.size _
        have HNZ : Hid (Lnl (w1.alloc (.cells sltZ 49)) lb us ub) := (heap_alloc_old _ _ hlb1).trans hn1
        clear hb1 hn1 x0
        go_wp2_with (first | (refine wpList_store_lone rfl _ _ rfl w1.heap.size rfl x rfl slt0 HZ.out ?_; intro w2 hl2 hg2 hs2; have HB2 : Hid (Below w.heap.size w w2) := (HBZ.out.grown hg2 HBZ.out.size (fun r e => by cases e; exact HB1.out.size)); have HN2 : Hid (Lnl w2 lb us ub) := ((hg2.block _ HNZ.out.lt (fun e => by have := Option.some.inj e; omega)).trans HNZ.out); have hx0 := HN2.out.cells.1; have hx1 := HN2.out.cells.2.1; clear hl2; clear hg2 hs2) | fail)
        refine (cT.out _ HB2.out).mono ?_
        rintro e w3 ⟨rfl, hb3⟩
        have HB3 := Hid.mk' hb3
        clear hb3
        go_wp2
        go_ret
        exact ⟨rfl, HB3.out⟩
      · rw [if_pos hp]
        simp only [decide_eq_false hp] at cT
        clear h hg ht hB0 hL0 hW0 hlb HL0 hi hp
        go_enter Try.func43, Try.ntmps43
        go_upto_region 1 with fail
        rw [HW0.out, HLB.out]
        go_wp2_with fail
        refine cs.out.mono ?_
        rintro e w1 ⟨rfl, hb1, hn1⟩
        have HB1 := Hid.mk' hb1
        have HN1 := Hid.mk' hn1
        have hlb1 : lb < w1.heap.size := hn1.lt
        have HZ := Hid.mk' (lone_zero w1)
        have HBZ : Hid (Below w.heap.size w (w1.alloc (.cells sltZ 49))) := HB1.out.alloc HB1.out.size _
        have HNZ : Hid (Lnl (w1.alloc (.cells sltZ 49)) lb us ub) := (heap_alloc_old _ _ hlb1).trans hn1
        clear hb1 hn1 x0
        go_wp2_with (first | (refine wpList_store_lone rfl _ _ rfl w1.heap.size rfl x rfl slt0 HZ.out ?_; intro w2 hl2 hg2 hs2; have HB2 : Hid (Below w.heap.size w w2) := (HBZ.out.grown hg2 HBZ.out.size (fun r e => by cases e; exact HB1.out.size)); have HN2 : Hid (Lnl w2 lb us ub) := ((hg2.block _ HNZ.out.lt (fun e => by have := Option.some.inj e; omega)).trans HNZ.out); have hx0 := HN2.out.cells.1; have hx1 := HN2.out.cells.2.1; clear hl2; clear hg2 hs2) | fail)
        refine (cT.out _ HB2.out).mono ?_
        rintro e w3 ⟨rfl, hb3⟩
        have HB3 := Hid.mk' hb3
        clear hb3
        go_wp2
        go_ret
        exact ⟨rfl, HB3.out⟩
  · rw [decide_eq_false ht] at cs
    rw [if_pos ht]
    clear h hg ht hB0 hL0 hW0 hlb HL0 cT
    go_enter Try.func43, Try.ntmps43
    go_upto_region 1 with fail
    rw [HW0.out, HLB.out]
    go_wp2_with fail
    refine cs.out.mono ?_
    rintro e w1 ⟨rfl, hb1, hn1⟩
    have HB1 := Hid.mk' hb1
    have HN1 := Hid.mk' hn1
    have hlb1 : lb < w1.heap.size := hn1.lt
    have HZ := Hid.mk' (lone_zero w1)
    have HBZ : Hid (Below w.heap.size w (w1.alloc (.cells sltZ 49))) := HB1.out.alloc HB1.out.size _
    have HNZ : Hid (Lnl (w1.alloc (.cells sltZ 49)) lb us ub) := (heap_alloc_old _ _ hlb1).trans hn1
    clear hb1 hn1 x0
    go_wp2_with (first | (refine wpList_store_lone rfl _ _ rfl w1.heap.size rfl x rfl slt0 HZ.out ?_; intro w2 hl2 hg2 hs2; have HB2 : Hid (Below w.heap.size w w2) := (HBZ.out.grown hg2 HBZ.out.size (fun r e => by cases e; exact HB1.out.size)); have HN2 : Hid (Lnl w2 lb us ub) := ((hg2.block _ HNZ.out.lt (fun e => by have := Option.some.inj e; omega)).trans HNZ.out); clear hl2; clear hg2 hs2) | fail)
    go_ret
    exact ⟨rfl, HB2.out⟩

set_option maxRecDepth 100000 in
set_option maxHeartbeats 1000000 in
theorem lastBelow_p (C : ArC Rep) (w : World) (p q : Nat) (F : Nat → Prop) (A : Arn) (l us ub : Int) (h : RepT Rep w p q F A l) (hg : An.Good A) (hu : ub ≠ 0 → there us) :
    Calls Try.prog 27 #[ptr q, lkU us ub] w fun e w' => e = .returned (nu (ringOf A.sl l us ub)) ∧ Below w.heap.size w w' := by
  have hB0 : Below w.heap.size w (w.alloc (.cells #[nu us, nu ub] 43)) := (Below.refl _ _).alloc (Nat.le_refl _) _
  have hL0 := lnl_new w us ub
  obtain ⟨lb, hlb⟩ : ∃ lb, w.heap.size = lb := ⟨_, rfl⟩
  obtain ⟨W0, hW0⟩ : ∃ W0, w.alloc (.cells #[nu us, nu ub] 43) = W0 := ⟨_, rfl⟩
  rw [hW0] at hB0 hL0
  rw [hlb] at hL0
  have HW0 := Hid.mk' hW0
  have HLB := Hid.mk' hlb
  have HB0 := Hid.mk' hB0
  have HL0 := Hid.mk' hL0
  have hlt : lb < W0.heap.size := hL0.lt
  have cr : Hid (Calls Try.prog 24 #[lkU us ub] W0 fun e w' => e = .returned (.bool (ub == 0)) ∧ Below w.heap.size w w' ∧ Lnl w' lb us ub ∧ RepT Rep w' p q F A l) := by
    refine (isRoot_p us ub W0).mono ?_
    rintro e w' ⟨rfl, hb'⟩
    exact ⟨rfl, hB0.trans (hb'.mono hB0.size), HL0.out.below hb', (h.below C.keep hB0).below C.keep hb'⟩
  have x0 := hL0.cells.1
  have x1 := hL0.cells.2.1
  unfold ringOf
  by_cases h0 : ub = 0
  · rw [if_pos h0]
    have hb : (ub == 0) = true := by simpa using h0
    rw [hb] at cr
    clear h hg hB0 hL0 hW0 hlb HL0 hu h0
    go_enter Try.func27, Try.ntmps27
    go_upto_region 1 with fail
    rw [HW0.out, HLB.out]
    go_wp2_with fail
    refine cr.out.mono ?_
    rintro e w1 ⟨rfl, hb1, _, hr1⟩
    have HB1 := Hid.mk' hb1
    have hc1 := hr1.cells.2.1
    clear hb1 hr1 x0 x1
    go_wp2
    go_ret
    exact ⟨rfl, HB1.out⟩
  · rw [if_neg h0]
    have hb : (ub == 0) = false := by simpa using h0
    rw [hb] at cr
    have ht := hu h0
    have cs : Hid (∀ wx, RepT Rep wx p q F A l → Below w.heap.size w wx → Lnl wx lb us ub → Calls Try.prog 23 #[ptr q, nu us] wx fun e w' => e = .returned (.tuple #[(at' A.sl us).v, .bool true]) ∧ Below w.heap.size w w' ∧ Lnl w' lb us ub) := fun wx hr hb hn => by
      have := slot_p C wx p q F A l us hr hg
      rw [decide_eq_true ht, at_there ht] at this
      refine this.mono ?_
      rintro e w' ⟨rfl, hb'⟩
      exact ⟨rfl, hb.trans (hb'.mono hb.size), hn.below hb'⟩
    generalize at' A.sl us = x at *
    clear h hg hB0 hL0 hW0 hlb HL0 hu h0 ht
    go_enter Try.func27, Try.ntmps27
    go_upto_region 1 with fail
    rw [HW0.out, HLB.out]
    go_wp2_with fail
    refine cr.out.mono ?_
    rintro e w0 ⟨rfl, hb0, hn0, hr0⟩
    have HB0' := Hid.mk' hb0
    have HN0 := Hid.mk' hn0
    have HR0 := Hid.mk' hr0
    have hy0 := hn0.cells.1
    clear hb0 hn0 hr0 x1
    go_wp2_with fail
    refine (cs.out _ HR0.out HB0'.out HN0.out).mono ?_
    clear hy0
    rintro e w1 ⟨rfl, hb1, hn1⟩
    have HB1 := Hid.mk' hb1
    have HN1 := Hid.mk' hn1
    have hlb1 : lb < w1.heap.size := hn1.lt
    have HZ := Hid.mk' (lone_zero w1)
    have HBZ : Hid (Below w.heap.size w (w1.alloc (.cells sltZ 49))) := HB1.out.alloc HB1.out.size _
    have HNZ : Hid (Lnl (w1.alloc (.cells sltZ 49)) lb us ub) := (heap_alloc_old _ _ hlb1).trans hn1
    clear hb1 hn1 x0
    go_wp2_with (first | (refine wpList_store_lone rfl _ _ rfl w1.heap.size rfl x rfl slt0 HZ.out ?_; intro w2 hl2 hg2 hs2; have HB2 : Hid (Below w.heap.size w w2) := (HBZ.out.grown hg2 HBZ.out.size (fun r e => by cases e; exact HB1.out.size)); have HN2 : Hid (Lnl w2 lb us ub) := ((hg2.block _ HNZ.out.lt (fun e => by have := Option.some.inj e; omega)).trans HNZ.out); have hc2 := hl2.cells.2.2.1; clear hl2; clear hg2 hs2) | fail)
    go_ret
    exact ⟨rfl, HB2.out⟩
end
end Tr
end Go.Proofs.Ythabnombfbehkaa
/- The program's trees: how the last one of a ring is told, how a slot is hung. -/
namespace Go.Proofs.Ythabnombfbehkaa
set_option linter.ambiguousOpen false
open Go.RowKit
namespace Tr
open An Rg Ft Lv
set_option linter.unusedSimpArgs false
set_option linter.unusedVariables false

theorem putE (A : Arn) (i : Int) (y : Slt) (ht : there i) : A.put i y = (0, ⟨A.sl.set i.toNat y, A.fr, A.wr + 1⟩) := if_pos ht

section
variable {Rep : World → Nat → (Nat → Prop) → Arn → Prop}

/-- Put, with what lies above. -/
theorem put_h (C : ArC Rep) (w : World) (p q : Nat) (F : Nat → Prop) (A : Arn) (l i : Int) (y : Slt) (h : RepT Rep w p q F A l) (hg : An.Good A) (hwr : A.wr ≤ 1000000000) (ht : there i) (wx : World) (hb : Below w.heap.size w wx) (sb : Nat) (hs : w.heap.size ≤ sb) (hl : Lone wx sb y) :
    Calls Try.prog 20 #[ptr p, nu i, y.v] wx fun e w' => e = .returned .nilIface ∧ (Lone w' sb y ∧ w'.cell? ⟨q, 0, none⟩ = some (ptr p) ∧ ∀ lb us ub, w.heap.size ≤ lb → Lnl wx lb us ub → Lnl w' lb us ub) ∧ Hid (LeftT (RepT Rep) w w' p q F ⟨A.sl.set i.toNat y, A.fr, A.wr + 1⟩ l) := by
  have h' := h.below C.keep hb
  obtain ⟨Fa, h1, h2, h3, rfl⟩ := h'
  have hlt : ∀ k, Fa k → k < w.heap.size := fun k hk => h.lt C.keep k (.inr hk)
  have := C.put wx p Fa A i y h1 hg hwr
  rw [putE A i y ht] at this
  refine this.mono ?_
  rintro e w' ⟨rfl, hL⟩
  have hT := leftT_below hb (leftT_of h2 h3 hL)
  obtain ⟨G, g1, g2, g3⟩ := hL
  refine ⟨rfl, ⟨(g2.block sb (Array.getElem?_eq_some_iff.1 hl).1 (fun e => by have := hlt sb e; omega)).trans hl, ?_, fun lb us ub hlb hn => hn.keep g2 (fun e => by have := hlt lb e; omega)⟩, hT⟩
  exact Tre.cells (l := l) ((g2.block q h2.lt h3).trans h2) |>.1

set_option maxRecDepth 100000 in
set_option maxHeartbeats 1000000 in
theorem setLast_p (C : ArC Rep) (w : World) (p q : Nat) (F : Nat → Prop) (A : Arn) (l us ub v : Int) (h : RepT Rep w p q F A l) (hg : An.Good A) (hwr : A.wr ≤ 1000000000) (hu : ub ≠ 0 → there us) :
    Calls Try.prog 28 #[ptr q, lkU us ub, nu v] w fun e w' => (∃ u, e = .returned u) ∧ LeftT (RepT Rep) w w' p q F (if ub = 0 then A else ⟨setK A.sl us v, A.fr, A.wr + 1⟩) (if ub = 0 then v else l) := by
  have hB0 : Below w.heap.size w (w.alloc (.cells #[nu us, nu ub] 43)) := (Below.refl _ _).alloc (Nat.le_refl _) _
  have hL0 := lnl_new w us ub
  obtain ⟨lb, hlb⟩ : ∃ lb, w.heap.size = lb := ⟨_, rfl⟩
  obtain ⟨W0, hW0⟩ : ∃ W0, w.alloc (.cells #[nu us, nu ub] 43) = W0 := ⟨_, rfl⟩
  rw [hW0] at hB0 hL0
  rw [hlb] at hL0
  have HW0 := Hid.mk' hW0
  have HLB := Hid.mk' hlb
  have HB0 := Hid.mk' hB0
  have HL0 := Hid.mk' hL0
  have hlt : lb < W0.heap.size := hL0.lt
  have cr : Hid (Calls Try.prog 24 #[lkU us ub] W0 fun e w' => e = .returned (.bool (ub == 0)) ∧ Below w.heap.size w w' ∧ Lnl w' lb us ub ∧ RepT Rep w' p q F A l) := by
    refine (isRoot_p us ub W0).mono ?_
    rintro e w' ⟨rfl, hb'⟩
    exact ⟨rfl, hB0.trans (hb'.mono hB0.size), HL0.out.below hb', (h.below C.keep hB0).below C.keep hb'⟩
  have x0 := hL0.cells.1
  have x1 := hL0.cells.2.1
  by_cases h0 : ub = 0
  · rw [if_pos h0, if_pos h0]
    have hb : (ub == 0) = true := by simpa using h0
    rw [hb] at cr
    have HEN : Hid (∀ wx, RepT Rep wx p q F A l → Below w.heap.size w wx → LeftT (RepT Rep) w (wx.setCell ⟨q, 1, none⟩ (nu v)) p q F A v) := fun wx h1 h2 => leftT_below h2 (leftT_last C.keep h1 v)
    clear h hg hB0 hL0 hW0 hlb HL0 hu h0
    go_enter Try.func28, Try.ntmps28
    go_upto_region 1 with fail
    rw [HW0.out, HLB.out]
    go_wp2_with fail
    refine cr.out.mono ?_
    rintro e w1 ⟨rfl, hb1, _, hr1⟩
    have HL1 := Hid.mk' (HEN.out w1 hr1 hb1)
    obtain ⟨_, hc1, hf⟩ := hr1.cells
    have hf1 := hf 1
    clear hb1 hr1 x0 x1 HEN hf
    go_wp2
    refine bodyPost_ret (results_none rfl _ _ _) rfl ?_
    exact ⟨⟨_, rfl⟩, HL1.out⟩
  · rw [if_neg h0, if_neg h0]
    have hb : (ub == 0) = false := by simpa using h0
    rw [hb] at cr
    have ht := hu h0
    have cs : Hid (∀ wx, RepT Rep wx p q F A l → Below w.heap.size w wx → Lnl wx lb us ub → Calls Try.prog 23 #[ptr q, nu us] wx fun e w' => e = .returned (.tuple #[(at' A.sl us).v, .bool true]) ∧ Below w.heap.size w w' ∧ Lnl w' lb us ub) := fun wx hr hb hn => by
      have := slot_p C wx p q F A l us hr hg
      rw [decide_eq_true ht, at_there ht] at this
      refine this.mono ?_
      rintro e w' ⟨rfl, hb'⟩
      exact ⟨rfl, hb.trans (hb'.mono hb.size), hn.below hb'⟩
    obtain ⟨x, hx⟩ : ∃ x, at' A.sl us = x := ⟨_, rfl⟩
    rw [hx] at cs
    have cP : Hid (∀ wx sb, Below w.heap.size w wx → w.heap.size ≤ sb → Lone wx sb { x with kids := v } → Lnl wx lb us ub → Calls Try.prog 20 #[ptr p, nu us, ({ x with kids := v } : Slt).v] wx fun e w' => e = .returned .nilIface ∧ (Lone w' sb { x with kids := v } ∧ w'.cell? ⟨q, 0, none⟩ = some (ptr p) ∧ w'.cell? ⟨lb, 0, none⟩ = some (nu us)) ∧ Hid (LeftT (RepT Rep) w w' p q F ⟨setK A.sl us v, A.fr, A.wr + 1⟩ l)) := fun wx sb hb hs hl hn => by
      refine (put_h C w p q F A l us { x with kids := v } h hg hwr ht wx hb sb hs hl).mono ?_
      rintro e w' ⟨rfl, ⟨g1, g2, g3⟩, g4⟩
      refine ⟨rfl, ⟨g1, g2, (g3 lb us ub (by omega) hn).cells.1⟩, ?_⟩
      unfold setK
      rw [hx]
      exact g4
    have cQ : Hid (∀ wx, Below w.heap.size w wx → wx.cell? ⟨q, 0, none⟩ = some (ptr p)) := fun wx hb => (h.below C.keep hb).cells.1
    have hle : w.heap.size ≤ lb := by omega
    clear h hg hB0 hL0 hW0 hlb HL0 hu h0 ht hx hwr
    go_enter Try.func28, Try.ntmps28
    go_upto_region 1 with fail
    rw [HW0.out, HLB.out]
    go_wp2_with fail
    refine cr.out.mono ?_
    rintro e w0 ⟨rfl, hb0, hn0, hr0⟩
    have HB0' := Hid.mk' hb0
    have HN0 := Hid.mk' hn0
    have HR0 := Hid.mk' hr0
    have hy0 := hn0.cells.1
    clear hb0 hn0 hr0 x1
    go_wp2_with fail
    refine (cs.out _ HR0.out HB0'.out HN0.out).mono ?_
    clear hy0
    rintro e w1 ⟨rfl, hb1, hn1⟩
    have HB1 := Hid.mk' hb1
    have HN1 := Hid.mk' hn1
    have hlb1 : lb < w1.heap.size := hn1.lt
    have HZ := Hid.mk' (lone_zero w1)
    have HBZ : Hid (Below w.heap.size w (w1.alloc (.cells sltZ 49))) := HB1.out.alloc HB1.out.size _
    have HNZ : Hid (Lnl (w1.alloc (.cells sltZ 49)) lb us ub) := (heap_alloc_old _ _ hlb1).trans hn1
    clear hb1 hn1 x0
    go_upto_region 5 with (first | (refine wpList_store_lone rfl _ _ rfl w1.heap.size rfl x rfl slt0 HZ.out ?_; intro w2 hl2 hg2 hs2; have HB2 : Hid (Below w.heap.size w w2) := (HBZ.out.grown hg2 HBZ.out.size (fun r e => by cases e; exact HB1.out.size)); have HN2 : Hid (Lnl w2 lb us ub) := ((hg2.block _ HNZ.out.lt (fun e => by have := Option.some.inj e; omega)).trans HNZ.out); have HLN := Hid.mk' hl2; have hc2 := hl2.cells.2.2.1; have hf2 := lone_open hl2 2; clear hl2; clear hg2 hs2) | fail)
    obtain ⟨sb, hsb⟩ : ∃ sb, w1.heap.size = sb := ⟨_, rfl⟩
    have hles : w.heap.size ≤ sb := by have := HB1.out.size; omega
    have hne : lb ≠ sb := by omega
    rw [hsb] at HLN
    simp only [hsb]
    have HL3 : Hid (Lone ((w2.setCell ⟨sb, 2, none⟩ (nu v)).drew) sb { x with kids := v }) := lone_kids HLN.out v
    have HB3 : Hid (Below w.heap.size w ((w2.setCell ⟨sb, 2, none⟩ (nu v)).drew)) := (HB2.out.setCell (p := ⟨sb, 2, none⟩) hles _).drew
    have HN3 : Hid (Lnl ((w2.setCell ⟨sb, 2, none⟩ (nu v)).drew) lb us ub) := (Below.heap_setCell w2 ⟨sb, 2, none⟩ (nu v) lb hne).trans HN2.out
    have hS : Lone (w2.setCell ⟨sb, 2, none⟩ (nu v)) sb { x with kids := v } ∧ (w2.setCell ⟨sb, 2, none⟩ (nu v)).cell? ⟨q, 0, none⟩ = some (ptr p) ∧ (w2.setCell ⟨sb, 2, none⟩ (nu v)).cell? ⟨lb, 0, none⟩ = some (nu us) := ⟨HL3.out, cQ.out _ (HB2.out.setCell (p := ⟨sb, 2, none⟩) hles _), HN3.out.cells.1⟩
    have c5 := Hid.mk' (cP.out _ sb HB3.out hles HL3.out HN3.out)
    clear cP cQ HL3 HN3 HB3 HLN HB2 HN2 HZ HBZ HNZ HB1 HN1 hsb
    refine wp_region_held_drew (S := fun w' => Lone w' sb { x with kids := v } ∧ w'.cell? ⟨q, 0, none⟩ = some (ptr p) ∧ w'.cell? ⟨lb, 0, none⟩ = some (nu us)) (by kernel_rfl) hS (fun hHeld => ?_)
    refine wpAnyH_take (i := 0) (v := ?_) rfl (by kernel_rfl) (by kernel_rfl) (by kernel_rfl) (fun _ _ _ h => h) (Or.inl ⟨by rfl, ?_⟩) hHeld ?_
    rotate_left
    · (intro w' hS'; have hq1 := hS'.2.1; have hq2 := hS'.2.2; go_simp <;> with_reducible rfl)
    simp only [Act.put, List.getElem_toArray, List.getElem_cons_succ, List.getElem_cons_zero, List.setIfInBounds_toArray, List.set]
    refine wpAnyH_take (i := 1) (v := ?_) rfl (by kernel_rfl) (by kernel_rfl) (by kernel_rfl) (fun _ _ _ h => h) (Or.inl ⟨by rfl, ?_⟩) hHeld ?_
    rotate_left
    · (intro w' hS'; have hq1 := hS'.2.1; have hq2 := hS'.2.2; go_simp <;> with_reducible rfl)
    simp only [Act.put, List.getElem_toArray, List.getElem_cons_succ, List.getElem_cons_zero, List.setIfInBounds_toArray, List.set]
    refine wpAnyH_take (i := 2) (v := ?_) rfl (by kernel_rfl) (by kernel_rfl) (by kernel_rfl) (fun _ _ _ h => h) (Or.inl ⟨by rfl, ?_⟩) hHeld ?_
    rotate_left
    · (intro w' hS'; have hq1 := hS'.2.1; have hq2 := hS'.2.2; go_simp <;> with_reducible rfl)
    simp only [Act.put, List.getElem_toArray, List.getElem_cons_succ, List.getElem_cons_zero, List.setIfInBounds_toArray, List.set]
    refine wpAnyH_take (i := 3) (v := ?_) rfl (by kernel_rfl) (by kernel_rfl) (by kernel_rfl) (fun _ _ _ h => h) (Or.inl ⟨by rfl, ?_⟩) hHeld ?_
    rotate_left
    · (intro w' hS'; have hq1 := hS'.2.1; have hq2 := hS'.2.2; go_simp <;> with_reducible rfl)
    simp only [Act.put, List.getElem_toArray, List.getElem_cons_succ, List.getElem_cons_zero, List.setIfInBounds_toArray, List.set]
    refine wpAnyH_take (i := 4) (v := ?_) rfl (by kernel_rfl) (by kernel_rfl) (by kernel_rfl) (fun _ _ _ h => h) (Or.inl ⟨by rfl, ?_⟩) hHeld ?_
    rotate_left
    · (intro w' hS'; have hq1 := hS'.2.1; have hq2 := hS'.2.2; go_simp <;> with_reducible rfl)
    simp only [Act.put, List.getElem_toArray, List.getElem_cons_succ, List.getElem_cons_zero, List.setIfInBounds_toArray, List.set]
    refine wpAnyH_take (i := 5) (v := ?_) rfl (by kernel_rfl) (by kernel_rfl) (by kernel_rfl) (fun _ _ _ h => h) (Or.inl ⟨by rfl, ?_⟩) hHeld ?_
    rotate_left
    · (intro w' hS'; have hq1 := hS'.2.1; have hq2 := hS'.2.2; go_simp <;> with_reducible rfl)
    simp only [Act.put, List.getElem_toArray, List.getElem_cons_succ, List.getElem_cons_zero, List.setIfInBounds_toArray, List.set]
    refine wpAnyH_take (i := 6) (v := _) rfl (by kernel_rfl) (by kernel_rfl) (by kernel_rfl) (fun _ _ _ h => h) (yieldsIf_load_mid (by rfl) 49 _ rfl sb 0 rfl ({ x with kids := v } : Slt).cells _ (fun w' h => h.1.range) Try.underlying49 rfl size_slt) hHeld ?_
    simp only [Act.put, List.getElem_toArray, List.getElem_cons_succ, List.getElem_cons_zero, List.setIfInBounds_toArray, List.set]
    refine wpAnyH_ready (rs := [7]) (by kernel_rfl) (by simp) ?_
    refine AllReadyH.cons rfl (fun K hK => ?_) AllReadyH.nil
    go_simp
    refine c5.out.mono ?_
    rintro e w5 ⟨rfl, hS5, hQ5⟩
    go_wp2_with fail
    refine hK.out _ _ hS5 (fun hHeld => ?_)
    clear hK K
    refine wpAnyH_done (by kernel_rfl) ?_ _
    clear hHeld hS5
    go_wp2
    go_end0
    exact ⟨⟨_, rfl⟩, hQ5.out⟩

set_option maxRecDepth 100000 in
set_option maxHeartbeats 1000000 in
theorem hang_p (C : ArC Rep) (w : World) (p q : Nat) (F : Nat → Prop) (A : Arn) (l i us ub : Int) (h : RepT Rep w p q F A l) (hg : An.Good A) (hwr : A.wr ≤ 1000000000) (ht : there i) :
    Calls Try.prog 44 #[ptr q, nu i, lkU us ub] w fun e w' => (∃ u, e = .returned u) ∧ LeftT (RepT Rep) w w' p q F ⟨setU (setK A.sl i (-1)) i us ub, A.fr, A.wr + 1⟩ l := by
  have hB0 : Below w.heap.size w (w.alloc (.cells #[nu us, nu ub] 43)) := (Below.refl _ _).alloc (Nat.le_refl _) _
  have hL0 := lnl_new w us ub
  obtain ⟨lb, hlb⟩ : ∃ lb, w.heap.size = lb := ⟨_, rfl⟩
  obtain ⟨W0, hW0⟩ : ∃ W0, w.alloc (.cells #[nu us, nu ub] 43) = W0 := ⟨_, rfl⟩
  rw [hW0] at hB0 hL0
  rw [hlb] at hL0
  have HW0 := Hid.mk' hW0
  have HLB := Hid.mk' hlb
  have HB0 := Hid.mk' hB0
  have HL0 := Hid.mk' hL0
  have hlt : lb < W0.heap.size := hL0.lt
  have cs : Hid (Calls Try.prog 23 #[ptr q, nu i] W0 fun e w' => e = .returned (.tuple #[(at' A.sl i).v, .bool true]) ∧ Below w.heap.size w w' ∧ Lnl w' lb us ub) := by
    have := slot_p C W0 p q F A l i (h.below C.keep hB0) hg
    rw [decide_eq_true ht, at_there ht] at this
    refine this.mono ?_
    rintro e w' ⟨rfl, hb'⟩
    exact ⟨rfl, hB0.trans (hb'.mono hB0.size), HL0.out.below hb'⟩
  have x0 := hL0.cells.1
  obtain ⟨x, hx⟩ : ∃ x, at' A.sl i = x := ⟨_, rfl⟩
  rw [hx] at cs
  obtain ⟨y, hy⟩ : ∃ y : Slt, hung { x with kids := -1 } us ub = y := ⟨_, rfl⟩
  have hset : setU (setK A.sl i (-1)) i us ub = A.sl.set i.toNat y := by
    have hl := hg.len
    have ha : at' (setK A.sl i (-1)) i = { at' A.sl i with kids := -1 } := by
      unfold at' setK at'
      rw [List.getD_eq_getElem?_getD, List.getElem?_set, if_pos rfl, if_pos (by omega)]
      rfl
    unfold setU
    rw [ha, hx, hy]
    unfold setK
    rw [List.set_set]
  rw [hset]
  have cP : Hid (∀ wx sb, Below w.heap.size w wx → w.heap.size ≤ sb → Lone wx sb y → Calls Try.prog 20 #[ptr p, nu i, y.v] wx fun e w' => e = .returned .nilIface ∧ (Lone w' sb y ∧ w'.cell? ⟨q, 0, none⟩ = some (ptr p)) ∧ Hid (LeftT (RepT Rep) w w' p q F ⟨A.sl.set i.toNat y, A.fr, A.wr + 1⟩ l)) := fun wx sb hb hs hl => by
    refine (put_h C w p q F A l i y h hg hwr ht wx hb sb hs hl).mono ?_
    rintro e w' ⟨rfl, ⟨g1, g2, g3⟩, g4⟩
    exact ⟨rfl, ⟨g1, g2⟩, g4⟩
  have cQ : Hid (∀ wx, Below w.heap.size w wx → wx.cell? ⟨q, 0, none⟩ = some (ptr p)) := fun wx hb => (h.below C.keep hb).cells.1
  have HY := Hid.mk' hy
  have hle : w.heap.size ≤ lb := by omega
  clear h hg hB0 hL0 hW0 hlb HL0 ht hx hwr hset hy
  go_enter Try.func44, Try.ntmps44
  go_upto_region 1 with fail
  rw [HW0.out, HLB.out]
  go_wp2_with fail
  refine cs.out.mono ?_
  rintro e w1 ⟨rfl, hb1, hn1⟩
  have HB1 := Hid.mk' hb1
  have HN1 := Hid.mk' hn1
  have hlb1 : lb < w1.heap.size := hn1.lt
  have HZ := Hid.mk' (lone_zero w1)
  have HBZ : Hid (Below w.heap.size w (w1.alloc (.cells sltZ 49))) := HB1.out.alloc HB1.out.size _
  have HNZ : Hid (Lnl (w1.alloc (.cells sltZ 49)) lb us ub) := (heap_alloc_old _ _ hlb1).trans hn1
  clear hb1 hn1 x0
  go_upto_region 3 with (first | (refine wpList_store_lone rfl _ _ rfl w1.heap.size rfl x rfl slt0 HZ.out ?_; intro w2 hl2 hg2 hs2; have HB2 : Hid (Below w.heap.size w w2) := (HBZ.out.grown hg2 HBZ.out.size (fun r e => by cases e; exact HB1.out.size)); have HN2 : Hid (Lnl w2 lb us ub) := ((hg2.block _ HNZ.out.lt (fun e => by have := Option.some.inj e; omega)).trans HNZ.out); have HLN := Hid.mk' hl2; have hf2 := lone_open hl2 2; have hc2 := hl2.cells.2.2.1; clear hl2; clear hg2 hs2) | fail)
  obtain ⟨sb, hsb⟩ : ∃ sb, w1.heap.size = sb := ⟨_, rfl⟩
  have hles : w.heap.size ≤ sb := by have := HB1.out.size; omega
  have hne : lb ≠ sb := by omega
  rw [hsb] at HLN
  simp only [hsb]
  have HL3 : Hid (Lone (w2.setCell ⟨sb, 2, none⟩ (nu (-1))) sb { x with kids := -1 }) := lone_kids HLN.out (-1)
  have HB3 : Hid (Below w.heap.size w (w2.setCell ⟨sb, 2, none⟩ (nu (-1)))) := HB2.out.setCell (p := ⟨sb, 2, none⟩) hles _
  have HN3 : Hid (Lnl (w2.setCell ⟨sb, 2, none⟩ (nu (-1))) lb us ub) := (Below.heap_setCell w2 ⟨sb, 2, none⟩ (nu (-1)) lb hne).trans HN2.out
  clear HLN HB2 HN2 HZ HBZ HNZ HN1 hsb hf2 hc2
  generalize w2.setCell ⟨sb, 2, none⟩ (nu (-1)) = w3 at *
  obtain ⟨z0, z1, _⟩ := HN3.out.cells
  have z7 := HL3.out.cells.2.2.2.2.2.2.2.1
  have z8 := HL3.out.cells.2.2.2.2.2.2.2.2.1
  have zf7 := lone_open HL3.out 7
  have zf8 := lone_open HL3.out 8
  have HL4 : Hid (Lone ((w3.setCell ⟨sb, 7, none⟩ (nu us)).setCell ⟨sb, 8, none⟩ (nu ub)) sb y) := by have := lone_up HL3.out us ub; rw [HY.out] at this; exact this
  have HB4 : Hid (Below w.heap.size w ((w3.setCell ⟨sb, 7, none⟩ (nu us)).setCell ⟨sb, 8, none⟩ (nu ub))) := (HB3.out.setCell (p := ⟨sb, 7, none⟩) hles _).setCell (p := ⟨sb, 8, none⟩) hles _
  go_upto_region 4 with fail
  clear z0 z1 z7 z8 zf7 zf8 HL3 HB3 HN3
  generalize (w3.setCell ⟨sb, 7, none⟩ (nu us)).setCell ⟨sb, 8, none⟩ (nu ub) = w4 at *
  have hS : Lone w4 sb y ∧ w4.cell? ⟨q, 0, none⟩ = some (ptr p) := ⟨HL4.out, cQ.out _ HB4.out⟩
  have c5 := Hid.mk' (cP.out w4.drew sb HB4.out.drew hles HL4.out)
  clear cP cQ HL4 HB4 HB1
  refine wp_region_held_drew (S := fun w' => Lone w' sb y ∧ w'.cell? ⟨q, 0, none⟩ = some (ptr p)) (by kernel_rfl) hS (fun hHeld => ?_)
  refine wpAnyH_take (i := 0) (v := ?_) rfl (by kernel_rfl) (by kernel_rfl) (by kernel_rfl) (fun _ _ _ h => h) (Or.inl ⟨by rfl, ?_⟩) hHeld ?_
  rotate_left
  · (intro w' hS'; have hq1 := hS'.2; go_simp <;> with_reducible rfl)
  simp only [Act.put, List.getElem_toArray, List.getElem_cons_succ, List.getElem_cons_zero, List.setIfInBounds_toArray, List.set]
  refine wpAnyH_take (i := 1) (v := ?_) rfl (by kernel_rfl) (by kernel_rfl) (by kernel_rfl) (fun _ _ _ h => h) (Or.inl ⟨by rfl, ?_⟩) hHeld ?_
  rotate_left
  · (intro w' hS'; have hq1 := hS'.2; go_simp <;> with_reducible rfl)
  simp only [Act.put, List.getElem_toArray, List.getElem_cons_succ, List.getElem_cons_zero, List.setIfInBounds_toArray, List.set]
  refine wpAnyH_take (i := 2) (v := ?_) rfl (by kernel_rfl) (by kernel_rfl) (by kernel_rfl) (fun _ _ _ h => h) (Or.inl ⟨by rfl, ?_⟩) hHeld ?_
  rotate_left
  · (intro w' hS'; have hq1 := hS'.2; go_simp <;> with_reducible rfl)
  simp only [Act.put, List.getElem_toArray, List.getElem_cons_succ, List.getElem_cons_zero, List.setIfInBounds_toArray, List.set]
  refine wpAnyH_take (i := 3) (v := ?_) rfl (by kernel_rfl) (by kernel_rfl) (by kernel_rfl) (fun _ _ _ h => h) (Or.inl ⟨by rfl, ?_⟩) hHeld ?_
  rotate_left
  · (intro w' hS'; have hq1 := hS'.2; go_simp <;> with_reducible rfl)
  simp only [Act.put, List.getElem_toArray, List.getElem_cons_succ, List.getElem_cons_zero, List.setIfInBounds_toArray, List.set]
  refine wpAnyH_take (i := 4) (v := ?_) rfl (by kernel_rfl) (by kernel_rfl) (by kernel_rfl) (fun _ _ _ h => h) (Or.inl ⟨by rfl, ?_⟩) hHeld ?_
  rotate_left
  · (intro w' hS'; have hq1 := hS'.2; go_simp <;> with_reducible rfl)
  simp only [Act.put, List.getElem_toArray, List.getElem_cons_succ, List.getElem_cons_zero, List.setIfInBounds_toArray, List.set]
  refine wpAnyH_take (i := 5) (v := _) rfl (by kernel_rfl) (by kernel_rfl) (by kernel_rfl) (fun _ _ _ h => h) (yieldsIf_load_mid (by rfl) 49 _ rfl sb 0 rfl y.cells _ (fun w' h => h.1.range) Try.underlying49 rfl size_slt) hHeld ?_
  simp only [Act.put, List.getElem_toArray, List.getElem_cons_succ, List.getElem_cons_zero, List.setIfInBounds_toArray, List.set]
  refine wpAnyH_ready (rs := [6]) (by kernel_rfl) (by simp) ?_
  refine AllReadyH.cons rfl (fun K hK => ?_) AllReadyH.nil
  go_simp
  refine c5.out.mono ?_
  rintro e w5 ⟨rfl, hS5, hQ5⟩
  go_wp2_with fail
  refine hK.out _ _ hS5 (fun hHeld => ?_)
  clear hK K
  refine wpAnyH_done (by kernel_rfl) ?_ _
  clear hHeld hS5
  go_wp2
  go_end0
  exact ⟨⟨_, rfl⟩, hQ5.out⟩
end
end Tr
end Go.Proofs.Ythabnombfbehkaa
