/- The program's two calls answer as they should. -/
import Derived.Test.YtkkpcngdpnoidaaTok8f
namespace Go.Proofs.Ytkkpcngdpnoidaa
set_option linter.ambiguousOpen false
open Go.RowKit
namespace Tk
open Sm
set_option linter.unusedSimpArgs false
set_option linter.unusedVariables false

theorem rowOfForm_any (l : List UInt8) (w : World) (hl : l.length = 21) :
    Calls Try.prog 14 #[.string (tx l)] w fun e w' => (∃ Y : List UInt8, e = .returned (.tuple #[.agg (Y.map by1).toArray, .bool (formB l)]) ∧ Y.length = 15 ∧ (formB l = true → Y = yd (told l * 1048576) 15)) ∧ Below w.heap.size w w' := by
  by_cases h : byI l 0 = 116
  · exact rowOfForm_rest l w hl h
  · have hf : formB l = false := by
      unfold formB
      rw [show (byI l 0 == 116) = false from beq_eq_false_iff_ne.2 h]
      rfl
    refine (rowOfForm_first l w hl h).mono ?_
    rintro e w' ⟨rfl, hb⟩
    rw [hf]
    exact ⟨⟨_, rfl, rfl, fun h => absurd h (by decide)⟩, hb⟩

theorem prs_21 (l : List UInt8) (hl : l.length = 21) : prs l = if formB l = false then ⟨4, 0, 0, 0⟩ else if mayB ((told l / 2 ^ 92 : Nat) : Int) ((told l / 2 ^ 68 % 16777216 : Nat) : Int) = false then ⟨1, 0, 0, 0⟩ else ⟨0, told l / 2 ^ 92, told l / 2 ^ 68 % 16777216, told l / 16 % 18446744073709551616⟩ := by
  unfold prs
  rw [if_neg (by omega), if_neg (by omega)]
  by_cases h1 : byI l 0 = 116
  · rw [if_neg (by simp [h1])]
    cases h2 : ((l.drop 1).all fun c => (ix c).isSome) with
    | false =>
      rw [if_pos rfl, if_pos (by unfold formB allB; rw [h2]; simp)]
    | true =>
      rw [if_neg (by decide)]
      by_cases h3 : told l % 16 = 0
      · rw [if_neg (by simp [h3]), if_neg (c := formB l = false) (by unfold formB allB; rw [h2, h1]; simp [h3])]
      · rw [if_pos h3, if_pos (by unfold formB; simp [h3])]
  · rw [if_pos h1, if_pos (by unfold formB; rw [show (byI l 0 == 116) = false from beq_eq_false_iff_ne.2 h1]; rfl)]

theorem told_lt (l : List UInt8) (hl : l.length = 21) : told l < 32 ^ 20 := by
  have := nd_lt ((l.drop 1).map ixN) (fun d hd => by
    obtain ⟨c, _, rfl⟩ := List.mem_map.1 hd
    exact ixN_lt c)
  rw [List.length_map, List.length_drop, hl] at this
  exact this

set_option maxHeartbeats 4000000 in
set_option maxRecDepth 100000 in
theorem parse_any (l : List UInt8) (w : World) (hlm : l.length ≤ maxLen) :
    Calls Try.prog 8 #[.string (tx l)] w fun e w' => e = .returned (.tuple #[tok (prs l).s (prs l).b (prs l).t, errE (prs l).no]) ∧ Below w.heap.size w w' := by
  have h0 := Hid.mk' (TokAt.new w 0 0 0)
  have hB0 := Hid.mk' (below_new8 w (.cells #[nu 0, nu 0, u8v 0] 24))
  have hsz : (tx l).size = l.length := rfl
  unfold maxLen at hlm
  by_cases h1 : l.length < 21
  · have hr : Hid (prs l = ⟨2, 0, 0, 0⟩) := by
      show _ = _
      unfold prs
      rw [if_pos h1]
    have h1' : (l.length : Int) < 21 := by omega
    generalize tx l = b at *
    go_enter Try.func8, Try.ntmps8
    go_wp2
    refine bodyPost_ret (results_tok rfl _ _ w.heap.size 0 0 0 rfl h0.out) rfl ?_
    exact ⟨by rw [hr.out]; rfl, hB0.out⟩
  · by_cases h2 : 21 < l.length
    · have hr : Hid (prs l = ⟨3, 0, 0, 0⟩) := by
        show _ = _
        unfold prs
        rw [if_neg h1, if_pos h2]
      have h1' : ¬ (l.length : Int) < 21 := by omega
      have h2' : 21 < (l.length : Int) := by omega
      generalize tx l = b at *
      go_enter Try.func8, Try.ntmps8
      go_wp2
      refine bodyPost_ret (results_tok rfl _ _ w.heap.size 0 0 0 rfl h0.out) rfl ?_
      exact ⟨by rw [hr.out]; rfl, hB0.out⟩
    · have h21 : l.length = 21 := by omega
      obtain ⟨w1, hw1⟩ : ∃ w1, w.alloc (.cells #[nu 0, nu 0, u8v 0] 24) = w1 := ⟨_, rfl⟩
      rw [hw1] at h0 hB0
      unfold nu u8v at hw1
      have c1 := rowOfForm_any l w1 h21
      have hp := prs_21 l h21
      have hMlt := told_lt l h21
      rw [h21] at hsz
      clear h1 h2 hlm h21
      obtain ⟨q, hq⟩ : ∃ q, formB l = q := ⟨_, rfl⟩
      obtain ⟨M, hM⟩ : ∃ M, told l = M := ⟨_, rfl⟩
      rw [hq, hM] at c1 hp
      rw [hM] at hMlt
      have HP := Hid.mk' hp
      clear hp hq hM
      generalize tx l = b at *
      go_enter Try.func8, Try.ntmps8
      go_wp2_with fail
      refine c1.mono ?_
      rintro e w2 ⟨⟨Y, rfl, hYl0, hYe⟩, hb2⟩
      have hT2 := Hid.mk' (h0.out.below hb2 (Array.getElem?_eq_some_iff.1 h0.out).1)
      have hB2 := Hid.mk' (below_to' hB0.out hb2)
      have hz2 : w.heap.size < w2.heap.size := (Array.getElem?_eq_some_iff.1 hT2.out).1
      have hYl := Hid.mk' hYl0
      have HYE := Hid.mk' hYe
      have hN := Hid.mk' (new15 w2)
      have hbb := Hid.mk' (below_new8 w2 (.cells #[.int .u8 0, .int .u8 0, .int .u8 0, .int .u8 0, .int .u8 0, .int .u8 0, .int .u8 0, .int .u8 0, .int .u8 0, .int .u8 0, .int .u8 0, .int .u8 0, .int .u8 0, .int .u8 0, .int .u8 0] 42))
      have hle : Hid ((List.replicate 15 (0 : UInt8)).length = Y.length) := by
        show _ = _
        rw [hYl0]; rfl
      have hsY : Hid ((Try.prog.info? 42).map (·.size) = some Y.length) := by
        show _ = _
        rw [hYl0]; exact size15
      clear c1 hb2 hYl0 hYe h0 hB0 hw1
      cases q with
      | false =>
        have hr : Hid (prs l = ⟨4, 0, 0, 0⟩) := by
          show _ = _
          rw [HP.out, if_pos rfl]
        go_wp2_with ((with_reducible refine wpList_store_arr ?zg 42 ?zp ?zr ?zo w2.heap.size ?zx Y ?zy 42 (List.replicate 15 0) hN.out hle.out hsY.out w2 w2.heap.size hbb.out (Nat.le_refl _) ?zh); (case zg => exact rfl); (case zo => exact rfl); (case zx => exact rfl); (case zy => exact rfl); intro w3 hA3 hB3; have hT3 := Hid.mk' (hT2.out.below hB3.out hz2); have hBw := Hid.mk' (below_to' hB2.out hB3.out); obtain ⟨z0, z1, z2⟩ := tok_cells hT3.out; have hf3 := hT3.out.free; have hT4 := Hid.mk' (hT3.out.put 0 0 0); have hB4 := Hid.mk' (below_tok hBw.out w.heap.size (Nat.le_refl _) (.int .i64 0) (.int .i64 0) (.int .u64 0)))
        refine bodyPost_ret (results_tok rfl _ _ w.heap.size 0 0 0 rfl hT4.out) rfl ?_
        exact ⟨by rw [hr.out]; rfl, hB4.out⟩
      | true =>
        have hYv := HYE.out rfl
        have n1 := ny_part (M * 1048576) 0 1 (by decide)
        have n2 := ny_part (M * 1048576) 1 3 (by decide)
        have n3 := ny_part (M * 1048576) 4 8 (by decide)
        obtain ⟨p1, p2, p3, -⟩ := told_parts M hMlt
        have cT : Hid (∀ wx, Calls Try.prog 15 #[.agg (Y.map by1).toArray] wx fun e w' => e = .returned (tok ((M / 2 ^ 92 : Nat) : Int) ((M / 2 ^ 68 % 16777216 : Nat) : Int) ((M / 16 % 18446744073709551616 : Nat) : Int)) ∧ Below wx.heap.size wx w') := fun wx => by
          have := tokenOf_any Y wx hYl.out
          rw [hYv, n1, n2, n3] at this
          rw [hYv]
          simp only [show 15 - 0 - 1 = 14 from rfl, show 15 - 1 - 3 = 11 from rfl, show 15 - 4 - 8 = 3 from rfl, show (256 : Nat) ^ 1 = 256 from rfl, show (256 : Nat) ^ 3 = 16777216 from rfl, show (256 : Nat) ^ 8 = 18446744073709551616 from rfl] at this p3
          rw [show (256 : Nat) ^ 3 = 16777216 from rfl] at *
          rw [p1, p2, p3] at this
          exact this
        clear n1 n2 n3 p1 p2 p3 hYv HYE hMlt
        rw [if_neg (by decide)] at HP
        generalize M / 2 ^ 92 = xs at *
        generalize M / 2 ^ 68 % 16777216 = xb at *
        generalize M / 16 % 18446744073709551616 = xt at *
        go_wp2_with (first
          | ((with_reducible refine wpList_store_arr ?yg 42 ?yp ?yr ?yo w2.heap.size ?yx Y ?yy 42 (List.replicate 15 0) hN.out hle.out hsY.out w2 w2.heap.size hbb.out (Nat.le_refl _) ?yh); (case yg => exact rfl); (case yo => exact rfl); (case yx => exact rfl); (case yy => exact rfl); intro w3 hA3 hB3)
          | ((with_reducible refine wpList_load_arr ?qg 42 ?qp ?qo w2.heap.size ?qx 42 Y ?qa _ Try.underlying42 ?qd hsY.out ?qh); (case qg => exact rfl); (case qo => exact rfl); (case qx => exact rfl); (case qd => exact rfl); (case qa => exact hA3.out))
          | fail)
        refine (cT.out _).mono ?_
        rintro e w4 ⟨rfl, hb4⟩
        have hT4 := Hid.mk' ((hT2.out.below hB3.out hz2).below hb4 (Nat.lt_of_lt_of_le hz2 hB3.out.size))
        have hB4 := Hid.mk' (below_to' (below_to' hB2.out hB3.out) hb4)
        have hz4 : w.heap.size < w4.heap.size := (Array.getElem?_eq_some_iff.1 hT4.out).1
        have hX := Hid.mk' (TokAt.new w4 xs xb xt)
        have hXB := Hid.mk' (below_new8 w4 (.cells #[nu xs, nu xb, u8v xt] 24))
        have cM := mayBe_any xs xb xt (w4.alloc (.cells #[nu xs, nu xb, u8v xt] 24))
        clear hb4 cT hB3 hA3 hN hbb hle hsY hB2 hT2
        cases hm : mayB (xs : Int) (xb : Int) with
        | true =>
          rw [hm] at cM
          have hr : Hid (prs l = ⟨0, xs, xb, xt⟩) := by
            show _ = _
            rw [HP.out, hm, if_neg (by decide)]
          go_wp2_with fail
          refine cM.mono ?_
          rintro e w5 ⟨rfl, hb5⟩
          have hX5 : Hid (TokAt w5 w4.heap.size xs xb xt) := hX.out.below hb5 (by simp)
          have hT5 : Hid (TokAt w5 w.heap.size 0 0 0) := (hT4.out.below hXB.out hz4).below hb5 (by simp; omega)
          have hB5 : Hid (Below w.heap.size w w5) := below_to' (below_to' hB4.out hXB.out) hb5
          obtain ⟨p0, p1, p2⟩ := tok_cells hX5.out
          obtain ⟨z0, z1, z2⟩ := tok_cells hT5.out
          have hf5 := hT5.out.free
          have hT6 := Hid.mk' (hT5.out.put xs xb xt)
          have hB6 := Hid.mk' (below_tok hB5.out w.heap.size (Nat.le_refl _) (.int .i64 xs) (.int .i64 xb) (.int .u64 xt))
          clear hb5 cM
          go_wp2
          refine bodyPost_ret (results_tok rfl _ _ w.heap.size xs xb xt rfl hT6.out) rfl ?_
          exact ⟨by rw [hr.out]; rfl, hB6.out⟩
        | false =>
          rw [hm] at cM
          have hr : Hid (prs l = ⟨1, 0, 0, 0⟩) := by
            show _ = _
            rw [HP.out, hm, if_pos rfl]
          go_wp2_with fail
          refine cM.mono ?_
          rintro e w5 ⟨rfl, hb5⟩
          have hT5 : Hid (TokAt w5 w.heap.size 0 0 0) := (hT4.out.below hXB.out hz4).below hb5 (by simp; omega)
          have hB5 : Hid (Below w.heap.size w w5) := below_to' (below_to' hB4.out hXB.out) hb5
          obtain ⟨z0, z1, z2⟩ := tok_cells hT5.out
          have hf5 := hT5.out.free
          have hT6 := Hid.mk' (hT5.out.put 0 0 0)
          have hB6 := Hid.mk' (below_tok hB5.out w.heap.size (Nat.le_refl _) (.int .i64 0) (.int .i64 0) (.int .u64 0))
          clear hb5 cM
          go_wp2
          refine bodyPost_ret (results_tok rfl _ _ w.heap.size 0 0 0 rfl hT6.out) rfl ?_
          exact ⟨by rw [hr.out]; rfl, hB6.out⟩

theorem says : Says where
  yes := fun s b t w hs h1 hb ht => print_yes s b t w hs h1 hb ht
  no := fun s b t w _ _ _ hm => print_no s b t w hm
  read := fun l w hl => parse_any l w hl
end Tk
end Go.Proofs.Ytkkpcngdpnoidaa
