/- The program's walk: Lives. -/
import Derived.Test.YtbkcpjgaoncioaaWlkV
namespace Go.Proofs.Ytbkcpjgaoncioaa
set_option linter.ambiguousOpen false
open Go.RowKit
namespace Wk
open An Ft Lv
set_option linter.unusedSimpArgs false
set_option linter.unusedVariables false

/-- Amid Lives: the link that is next. -/
structure Vs (w0 w : World) (S : List Slt) (lb : Nat) (full : List Nat × Bool) (i : Nat) (pre : List Nat) (s b : Int) : Prop where
  bel : Below w0.heap.size w0 w
  ln : Lnl w lb s b
  len : pre.length = i
  eq : full = (pre ++ (up (7 - i) S s b).1, (up (7 - i) S s b).2)

section
variable {Rep : World → Nat → (Nat → Prop) → Arn → Prop}

set_option maxRecDepth 100000 in
set_option maxHeartbeats 4000000 in
theorem lives_p (H : KeepC Rep) (G : GetU Rep) (w : World) (p : Nat) (F : Nat → Prop) (A : Arn) (us ub : Int) (h : Rep w p F A) (hg : An.Good A) :
    Calls Try.prog 9 #[ptr p, lkU us ub] w fun e w' => e = .returned (.tuple #[.bool (livB A.sl us ub), nun (livN A.sl us ub)]) ∧ Below w.heap.size w w' := by
  have hB0 : Below w.heap.size w (w.alloc (.cells #[nu us, nu ub] 33)) := (Below.refl _ _).alloc (Nat.le_refl _) _
  have hL0 := lnl_new w us ub
  obtain ⟨lb, hlb⟩ : ∃ lb, w.heap.size = lb := ⟨_, rfl⟩
  obtain ⟨W0, hW0⟩ : ∃ W0, w.alloc (.cells #[nu us, nu ub] 33) = W0 := ⟨_, rfl⟩
  rw [hW0] at hB0 hL0
  rw [hlb] at hL0
  have HW0 := Hid.mk' hW0
  have HLB := Hid.mk' hlb
  have hle : w.heap.size ≤ lb := by omega
  unfold livB livN
  obtain ⟨full, hfull⟩ : ∃ full, up 7 A.sl us ub = full := ⟨_, rfl⟩
  rw [hfull]
  have HU0 : Hid (Vs w W0 A.sl lb full 0 [] us ub) := ⟨hB0, hL0, rfl, by rw [← hfull]; rfl⟩
  have cH : Hid (∀ wx s b', Below w.heap.size w wx → Calls Try.prog 28 #[ptr p, lkU s b'] wx fun e w' => e = .returned (.tuple #[sesV (heldS A.sl s b'), .bool (decide (hold A.sl s b'))]) ∧ Below wx.heap.size wx w') := fun wx s b' hb => held_p H G wx p F A s b' (H.below h hb) hg
  clear h hg hB0 hL0 hW0 hlb hfull H G
  go_enter Try.func9, Try.ntmps9
  go_upto_region 1 with fail
  rw [HW0.out, HLB.out]
  go_wp2
  go_step3
  go_wp2
  go_step3
  go_wp2
  go_loopw [6, 7] (fun lv iv wr => ∃ (i : Nat), i ≤ 6 ∧ lv = .bool false ∧ iv = nun i ∧ Hid (∃ pre s b', Vs w wr A.sl lb full i pre s b')) (fun _ iv _ => 7 - (intOf iv).toNat)
  case atStart => exact ⟨0, by omega, rfl, rfl, [], us, ub, HU0.out⟩
  case round =>
    obtain ⟨i, hi, rfl, rfl, HR⟩ := hrel
    obtain ⟨pre, s, b', hU⟩ := HR.out
    clear HR HU0
    have h6I : (i : Int) ≤ 6 := by omega
    obtain ⟨f, hf⟩ : ∃ f, 7 - i = f + 1 := ⟨6 - i, by omega⟩
    have hf2 : 7 - (i + 1) = f := by omega
    have hEq := hU.eq
    rw [hf] at hEq
    obtain ⟨x0, x1, xf⟩ := hU.ln.cells
    have c1 := Hid.mk' (cH.out wr s b' hU.bel)
    have HU := Hid.mk' hU
    by_cases hh : hold A.sl s b'
    · rw [decide_eq_true hh, heldS, if_pos hh] at c1
      obtain ⟨y, hy⟩ : ∃ y, (atW A.sl s).s = y := ⟨_, rfl⟩
      rw [hy] at c1
      have cT : Hid (∀ wx, Calls Try.prog 29 #[sesV y] wx fun e w' => e = .returned (.bool (y.ub == 0)) ∧ Below wx.heap.size wx w') := fun wx => isTop_p y wx
      have HLn := Hid.mk' hU.len
      by_cases h0 : y.ub = 0
      · have hb0 : (y.ub == 0) = true := by simpa using h0
        have HF : Hid (full = (pre ++ [s.toNat], true)) := by
          have := hEq
          rw [up_top f A.sl s b' hh (by rw [hy]; exact h0)] at this
          show _ = _
          simpa using this
        rw [hb0] at cT
        clear hU hEq hh cH hy h0 hb0
        go_wp2_with fail
        refine c1.out.mono ?_
        rintro e w2 ⟨rfl, hb2⟩
        have HB2 : Hid (Below w.heap.size w w2) := HU.out.bel.trans (hb2.mono HU.out.bel.size)
        have HL2 := Hid.mk' (HU.out.ln.below hb2)
        have hl2 := HL2.out.lt
        have HZ := Hid.mk' (loneS_zero w2)
        have HBZ : Hid (Below w.heap.size w (w2.alloc (.cells sesQ 50))) := HB2.out.alloc HB2.out.size _
        have HLZ : Hid (Lnl (w2.alloc (.cells sesQ 50)) lb s b') := (heap_alloc_old _ _ hl2).trans HL2.out
        clear hb2 c1 x0 x1 xf
        go_wp2_with (first | (refine wpList_store_loneS rfl _ _ rfl w2.heap.size rfl y rfl ses0 HZ.out ?_; intro w3 hl3 hg3 hs3; have HS3 := Hid.mk' hl3; have HB3 : Hid (Below w.heap.size w w3) := (HBZ.out.grown hg3 HBZ.out.size (fun r e => by cases e; exact HB2.out.size)); have HL3 : Hid (Lnl w3 lb s b') := lnl_grown HLZ.out hg3 (by omega); clear hl3 hg3 hs3) | (refine wpList_load_ses rfl _ rfl w2.heap.size 0 rfl y HS3.out.range ?_) | fail)
        refine (cT.out _).mono ?_
        rintro e w4 ⟨rfl, hb4⟩
        have HB4 : Hid (Below w.heap.size w w4) := HB3.out.trans (hb4.mono HB3.out.size)
        have HS4 := Hid.mk' (HS3.out.below hb4)
        have HL4 := Hid.mk' (HL3.out.below hb4)
        clear hb4 cT HB3 HS3 HL3 HZ HBZ HLZ HB2 HL2
        go_wp2
        try rw [Exit.noGoto_ret]
        go_ret2
        rw [HF.out]
        dsimp only
        rw [List.length_append, HLn.out, List.length_singleton]
        exact ⟨by simp, HB4.out⟩
      · have hb0 : (y.ub == 0) = false := by simpa using h0
        rw [hb0] at cT
        by_cases h6 : i = 6
        · subst h6
          have HF : Hid (full = (pre ++ [s.toNat], false)) := by
            have := hEq
            rw [up_on f A.sl s b' hh (by rw [hy]; exact h0), ← hf2] at this
            show _ = _
            simpa [up] using this
          clear hU hEq hh cH hy h0 hb0
          go_wp2_with fail
          refine c1.out.mono ?_
          rintro e w2 ⟨rfl, hb2⟩
          have HB2 : Hid (Below w.heap.size w w2) := HU.out.bel.trans (hb2.mono HU.out.bel.size)
          have HL2 := Hid.mk' (HU.out.ln.below hb2)
          have hl2 := HL2.out.lt
          have HZ := Hid.mk' (loneS_zero w2)
          have HBZ : Hid (Below w.heap.size w (w2.alloc (.cells sesQ 50))) := HB2.out.alloc HB2.out.size _
          have HLZ : Hid (Lnl (w2.alloc (.cells sesQ 50)) lb s b') := (heap_alloc_old _ _ hl2).trans HL2.out
          clear hb2 c1 x0 x1 xf
          go_wp2_with (first | (refine wpList_store_loneS rfl _ _ rfl w2.heap.size rfl y rfl ses0 HZ.out ?_; intro w3 hl3 hg3 hs3; have HS3 := Hid.mk' hl3; have HB3 : Hid (Below w.heap.size w w3) := (HBZ.out.grown hg3 HBZ.out.size (fun r e => by cases e; exact HB2.out.size)); have HL3 : Hid (Lnl w3 lb s b') := lnl_grown HLZ.out hg3 (by omega); clear hl3 hg3 hs3) | (refine wpList_load_ses rfl _ rfl w2.heap.size 0 rfl y HS3.out.range ?_) | fail)
          refine (cT.out _).mono ?_
          rintro e w4 ⟨rfl, hb4⟩
          have HB4 : Hid (Below w.heap.size w w4) := HB3.out.trans (hb4.mono HB3.out.size)
          have HS4 := Hid.mk' (HS3.out.below hb4)
          have HL4 := Hid.mk' (HL3.out.below hb4)
          clear hb4 cT HB3 HS3 HL3 HZ HBZ HLZ HB2 HL2
          go_wp2
          try rw [Exit.noGoto_ret]
          go_ret2
          rw [HF.out]
          dsimp only
          rw [List.length_append, HLn.out, List.length_singleton]
          exact ⟨by simp, HB4.out⟩
        · have h6b : ((i : Int) == 6) = false := by simp; omega
          have h6n : (i : Int) ≠ 6 := by omega
          have HF : Hid (full = (pre ++ [s.toNat] ++ (up (7 - (i + 1)) A.sl y.us y.ub).1, (up (7 - (i + 1)) A.sl y.us y.ub).2)) := by
            have := hEq
            rw [up_on f A.sl s b' hh (by rw [hy]; exact h0), hy] at this
            show _ = _
            rw [hf2]
            simpa using this
          clear hU hEq hh cH hy h0 hb0
          go_wp2_with fail
          refine c1.out.mono ?_
          rintro e w2 ⟨rfl, hb2⟩
          have HB2 : Hid (Below w.heap.size w w2) := HU.out.bel.trans (hb2.mono HU.out.bel.size)
          have HL2 := Hid.mk' (HU.out.ln.below hb2)
          have hl2 := HL2.out.lt
          have HZ := Hid.mk' (loneS_zero w2)
          have HBZ : Hid (Below w.heap.size w (w2.alloc (.cells sesQ 50))) := HB2.out.alloc HB2.out.size _
          have HLZ : Hid (Lnl (w2.alloc (.cells sesQ 50)) lb s b') := (heap_alloc_old _ _ hl2).trans HL2.out
          clear hb2 c1 x0 x1 xf
          go_wp2_with (first | (refine wpList_store_loneS rfl _ _ rfl w2.heap.size rfl y rfl ses0 HZ.out ?_; intro w3 hl3 hg3 hs3; have HS3 := Hid.mk' hl3; have HB3 : Hid (Below w.heap.size w w3) := (HBZ.out.grown hg3 HBZ.out.size (fun r e => by cases e; exact HB2.out.size)); have HL3 : Hid (Lnl w3 lb s b') := lnl_grown HLZ.out hg3 (by omega); clear hl3 hg3 hs3) | (refine wpList_load_ses rfl _ rfl w2.heap.size 0 rfl y HS3.out.range ?_) | fail)
          refine (cT.out _).mono ?_
          rintro e w4 ⟨rfl, hb4⟩
          have HB4 : Hid (Below w.heap.size w w4) := HB3.out.trans (hb4.mono HB3.out.size)
          have HS4 := Hid.mk' (HS3.out.below hb4)
          have HL4 := Hid.mk' (HL3.out.below hb4)
          clear hb4 cT HB3 HS3 HL3 HZ HBZ HLZ HB2 HL2
          go_wp2_with (first | (refine wpList_load_lnl rfl _ rfl w2.heap.size 2 rfl y.us y.ub HS4.out.up ?_) | (refine wpList_store_lnl rfl _ _ rfl lb rfl y.us y.ub rfl s b' HL4.out ?_; intro w5 hl5 hg5 hs5; have HL5 := Hid.mk' hl5; have HB5 : Hid (Below w.heap.size w w5) := (HB4.out.grown hg5 HB4.out.size (fun r e => by cases e; exact hle)); clear hl5 hg5 hs5) | fail)
          go_roundw
          case rel => exact ⟨i + 1, by omega, rfl, by go_num, pre ++ [s.toNat], y.us, y.ub, HB5.out, HL5.out, by simp [HLn.out], HF.out⟩
          case measure => simp [intOf]; omega
    · rw [decide_eq_false hh, heldS, if_neg hh] at c1
      rw [up_no f A.sl s b' hh] at hEq
      have HF : Hid (full = (pre, false)) := by rw [hEq]; show _ = _; simp
      clear hU hEq hh cH
      go_wp2_with fail
      refine c1.out.mono ?_
      rintro e w2 ⟨rfl, hb2⟩
      have HB2 : Hid (Below w.heap.size w w2) := HU.out.bel.trans (hb2.mono HU.out.bel.size)
      have HZ := Hid.mk' (loneS_zero w2)
      have HBZ : Hid (Below w.heap.size w (w2.alloc (.cells sesQ 50))) := HB2.out.alloc HB2.out.size _
      clear hb2 c1 x0 x1 xf
      go_wp2_with (first | (refine wpList_store_loneS rfl _ _ rfl w2.heap.size rfl ses0 rfl ses0 HZ.out ?_; intro w3 hl3 hg3 hs3; have HB3 : Hid (Below w.heap.size w w3) := (HBZ.out.grown hg3 HBZ.out.size (fun r e => by cases e; exact HB2.out.size)); clear hl3 hg3 hs3) | fail)
      rw [Exit.noGoto_ret]
      go_ret2
      rw [HF.out]
      dsimp only
      have HLn := HU.out.len
      rw [HLn]
      rw [if_neg (by decide), Nat.min_eq_left hi]
      exact ⟨rfl, HB3.out⟩
end
end Wk
end Go.Proofs.Ytbkcpjgaoncioaa
