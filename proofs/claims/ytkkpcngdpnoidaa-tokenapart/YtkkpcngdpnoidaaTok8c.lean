/- The row of digits; a row's token. -/
import Derived.Test.YtkkpcngdpnoidaaTok8b
namespace Go.Proofs.Ytkkpcngdpnoidaa
set_option linter.ambiguousOpen false
open Go.RowKit
namespace Tk
open Sm
set_option linter.unusedSimpArgs false
set_option linter.unusedVariables false

/-- Bytes as digits. -/
def dn8 (X : List UInt8) : Nat := nd (X.map UInt8.toNat)

theorem dn8_take (X : List UInt8) (j : Nat) (h : j < X.length) : dn8 (X.take (j + 1)) = 32 * dn8 (X.take j) + (byI X j).toNat := by
  unfold dn8
  rw [List.take_succ_eq_append_getElem h, List.map_append, List.map_singleton, nd_snoc, byI_at X j h]

theorem dn8_lt (X : List UInt8) (h : ∀ c ∈ X, c.toNat < 32) : dn8 X < 32 ^ X.length := by
  have := nd_lt (X.map UInt8.toNat) (fun d hd => by
    obtain ⟨c, hc, rfl⟩ := List.mem_map.1 hd
    exact h c hc)
  rw [List.length_map] at this
  exact this

def rpre (D : List UInt8) : Nat → List UInt8
  | 0 => []
  | g + 1 => rpre D g ++ yd (dn8 ((D.drop (8 * g)).take 8)) 5

theorem rpre_len (D : List UInt8) (g : Nat) : (rpre D g).length = 5 * g := by
  induction g with
  | zero => rfl
  | succ g ih => rw [rpre, List.length_append, ih, yd_len]; omega

theorem rpre_all (D : List UInt8) (hl : D.length = 24) (hD : ∀ c ∈ D, c.toNat < 32) : rpre D 3 = yd (dn8 D) 15 := by
  have h := yd_groups (D.map UInt8.toNat) (fun d hd => by
    obtain ⟨c, hc, rfl⟩ := List.mem_map.1 hd
    exact hD c hc) (by rw [List.length_map]; exact hl)
  unfold dn8
  rw [h]
  simp [rpre, dn8, List.map_take, List.map_drop]

theorem lay_next (P m : List UInt8) (p n k : Nat) (hP : P.length = p) (hm : m.length = k) (hk : k ≤ n) : lay (P ++ List.replicate n 0) p m = (P ++ m) ++ List.replicate (n - k) 0 := by
  unfold lay
  rw [hm, List.take_append_of_le_length (by omega), List.take_of_length_le (by omega), List.drop_append, List.drop_of_length_le (by omega), List.nil_append, List.drop_replicate, hP, Nat.add_sub_cancel_left, List.append_assoc]

def RdSt (w wr : World) (D L : List UInt8) : Prop :=
  Arr wr (w.heap.size + 1 + 1) 42 L ∧ Arr wr (w.heap.size + 1) 42 (List.replicate 15 0) ∧ Arr wr w.heap.size 39 D ∧ Below w.heap.size w wr

theorem RdSt.start (w : World) (l : List UInt8) : RdSt w (((w.alloc (.cells (l.map by1).toArray 39)).alloc (.cells #[.int .u8 0, .int .u8 0, .int .u8 0, .int .u8 0, .int .u8 0, .int .u8 0, .int .u8 0, .int .u8 0, .int .u8 0, .int .u8 0, .int .u8 0, .int .u8 0, .int .u8 0, .int .u8 0, .int .u8 0] 42)).alloc (.cells #[.int .u8 0, .int .u8 0, .int .u8 0, .int .u8 0, .int .u8 0, .int .u8 0, .int .u8 0, .int .u8 0, .int .u8 0, .int .u8 0, .int .u8 0, .int .u8 0, .int .u8 0, .int .u8 0, .int .u8 0] 42)) l (List.replicate 15 0) := by
  rw [zero15]
  have hT := Arr.new w 39 l
  have hB := below_new8 w (.cells (l.map by1).toArray 39)
  generalize hw1 : w.alloc (.cells (l.map by1).toArray 39) = w1 at *
  have e1 : w1.heap.size = w.heap.size + 1 := by rw [← hw1]; simp
  have hA2 := Arr.new w1 42 (List.replicate 15 0)
  have hB2 := below_new8 w1 (.cells ((List.replicate 15 0 : List UInt8).map by1).toArray 42)
  generalize hw2 : w1.alloc (.cells ((List.replicate 15 0 : List UInt8).map by1).toArray 42) = w2 at *
  have e2 : w2.heap.size = w.heap.size + 1 + 1 := by rw [← hw2]; simp; omega
  have hA3 := Arr.new w2 42 (List.replicate 15 0)
  have hB3 := below_new8 w2 (.cells ((List.replicate 15 0 : List UInt8).map by1).toArray 42)
  rw [e2] at hA3
  rw [e1] at hA2
  exact ⟨hA3, hA2.below hB3 (by omega), (hT.below hB2 (by omega)).below hB3 (by omega), below_to' (below_to' hB hB2) hB3⟩

set_option maxHeartbeats 4000000 in
set_option maxRecDepth 100000 in
theorem rowOfDigits_any (D : List UInt8) (w : World) (hl : D.length = 24) (hD : ∀ c ∈ D, c.toNat < 32) :
    Calls Try.prog 25 #[.agg (D.map by1).toArray] w fun e w' => e = .returned (.agg ((yd (dn8 D) 15).map by1).toArray) ∧ Below w.heap.size w w' := by
  have hbox := fun w => box_arr 39 D (by rw [hl]; exact size24) w
  have h0 := Hid.mk' (RdSt.start w D)
  have HL := Hid.mk' hl
  have HD := Hid.mk' hD
  rw [← rpre_all D hl hD]
  clear hl hD
  go_enter Try.func25, Try.ntmps25
  go_wp2_with fail
  go_loopw [4, 5, 7, 8] (fun v4 v5 v7 c wr => ∃ g : Nat, g ≤ 3 ∧ c = nu g ∧ Hid (RdSt w wr D (rpre D g ++ List.replicate (15 - 5 * g) 0))) (fun _ _ _ c _ => 3 - (intOf c).toNat)
  case atStart => exact ⟨0, by omega, rfl, h0⟩
  case round =>
    obtain ⟨g, hg, rfl, hS⟩ := hrel
    by_cases hq : g < 3
    · have c1 := groupD_any w.heap.size g hq wr
      have hXl : Hid (((D.drop (8 * g)).take 8).length = 8) := part_cut D (8 * g) 8 (by rw [HL.out]; omega)
      have hXlt : Hid (∀ j, dn8 (((D.drop (8 * g)).take 8).take j) < 1099511627776) := fun j => by
        have h1 := dn8_lt (((D.drop (8 * g)).take 8).take j) (fun c hc => HD.out c (List.mem_of_mem_drop (List.mem_of_mem_take (List.mem_of_mem_take hc))))
        have h2 : (((D.drop (8 * g)).take 8).take j).length ≤ 8 := by rw [List.length_take, hXl.out]; omega
        have h3 := Nat.pow_le_pow_right (n := 32) (by decide) h2
        exact Nat.lt_of_lt_of_le h1 (by simpa using h3)
      have hcell : Hid (∀ j, j < 8 → wr.cell? ⟨w.heap.size, 8 * g + j, none⟩ = some (by1 (byI ((D.drop (8 * g)).take 8) j))) := fun j hj => by
        rw [hS.out.2.2.1.cell (8 * g + j) (by rw [HL.out]; omega), byI_at _ j (by rw [hXl.out]; exact hj), byI_at D _ (by rw [HL.out]; omega), List.getElem_take, List.getElem_drop]
      have hstep : Hid (rpre D (g + 1) = rpre D g ++ yd (dn8 ((D.drop (8 * g)).take 8)) 5) := rfl
      have hPl := Hid.mk' (rpre_len D g)
      generalize (D.drop (8 * g)).take 8 = X at *
      go_wp2_with fail
      refine c1.mono ?_
      rintro e w' ⟨rfl, hw⟩
      subst w'
      have d3 : decide ((g : Int) < 3) = true := by simp; omega
      clear c1
      go_wp2_with fail
      rename World => w2
      go_loopw [5, 7, 14] (fun n v7 iv wr => ∃ j : Nat, j ≤ 8 ∧ iv = nu j ∧ n = u8v (dn8 (X.take j)) ∧ Hid (wr = w2)) (fun _ _ iv _ => 8 - (intOf iv).toNat)
      case atStart => exact ⟨0, by omega, rfl, rfl, rfl⟩
      case round =>
        obtain ⟨j, hj, rfl, rfl, hwr⟩ := hrel
        by_cases hq2 : j < 8
        · have c0 := hcell.out j hq2
          rw [← hwr.out] at c0
          have hlt := hXlt.out j
          have hS2 := Hid.mk' (dn8_take X j (by rw [hXl.out]; exact hq2))
          have hclt : (byI X j).toNat < 256 := UInt8.toNat_lt _
          generalize byI X j = c at *
          generalize dn8 (X.take j) = m at *
          unfold by1 at c0
          go_wp2
          go_roundw
          case rel => exact ⟨j + 1, by omega, vi (by omega), by rw [hS2.out]; exact vi (by omega), hwr⟩
          case measure => simp [intOf]; omega
        · obtain rfl : j = 8 := by omega
          have hT : Hid (X.take 8 = X) := List.take_of_length_le (by rw [hXl.out]; exact Nat.le_refl _)
          have hlt := hXlt.out 8
          rw [hT.out] at hlt ⊢
          have hw' := hwr.out
          clear hwr
          subst hw'
          generalize dn8 X = N at *
          have c2 := groupR_any (w.heap.size + 1 + 1) g hq wr
          have c3 := fill_any (w.heap.size + 1 + 1) (5 * g) 5 5 42 (rpre D g ++ List.replicate (15 - 5 * g) 0) N wr (by omega) (by omega) (by simp [hPl.out]; omega) hS.out.1 (by omega)
          rw [lay_next (rpre D g) (yd N 5) (5 * g) _ 5 hPl.out (yd_len _ _) (by omega), ← hstep.out, show 15 - 5 * g - 5 = 15 - 5 * (g + 1) by omega] at c3
          simp only [Int.cast_ofNat_Int]
          clear d3
          go_wp2_with fail
          refine c2.mono ?_
          rintro e w' ⟨rfl, hw⟩
          subst w'
          go_wp2_with fail
          refine c3.mono ?_
          rintro e w' ⟨⟨v, rfl⟩, hA, hB⟩
          have hS4 : Hid (RdSt w w' D (rpre D (g + 1) ++ List.replicate (15 - 5 * (g + 1)) 0)) := ⟨hA, hS.out.2.1.below hB (by omega), hS.out.2.2.1.below hB (by omega), hS.out.2.2.2.trans (hB.mono (by omega))⟩
          clear hA hB c2 c3
          go_wp2
          go_roundw
          case rel => exact ⟨g + 1, by omega, vi (by omega), hS4⟩
          case measure => simp [intOf]; omega
    · obtain rfl : g = 3 := by omega
      simp only [Int.cast_ofNat_Int]
      rw [show 15 - 5 * 3 = 0 from rfl, List.replicate_zero, List.append_nil] at hS
      have hl15 : Hid ((Try.prog.info? 42).map (·.size) = some (rpre D 3).length) := by
        show _ = _
        rw [rpre_len]; exact size15
      have hle : Hid ((List.replicate 15 (0 : UInt8)).length = (rpre D 3).length) := by
        show _ = _
        rw [rpre_len]; rfl
      obtain ⟨Y, hY⟩ : ∃ Y, rpre D 3 = Y := ⟨_, rfl⟩
      rw [hY] at hS hl15 hle
      have HY := Hid.mk' hY
      clear hY
      have hA3 := Hid.mk' hS.out.1
      have hZ3 := Hid.mk' hS.out.2.1
      have hB3 := Hid.mk' hS.out.2.2.2
      clear hS h0 hbox
      go_wp2_with (first
        | ((with_reducible refine wpList_load_arr ?qg 42 ?qp ?qo (w.heap.size + 1 + 1) ?qx 42 Y hA3.out _ Try.underlying42 ?qd hl15.out ?qh); (case qg => exact rfl); (case qo => exact rfl); (case qx => exact rfl); (case qd => exact rfl))
        | ((with_reducible refine wpList_store_arr ?zg 42 ?zp ?zr ?zo (w.heap.size + 1) ?zx Y ?zy 42 (List.replicate 15 0) hZ3.out hle.out hl15.out w w.heap.size hB3.out ?zb ?zh); (case zg => exact rfl); (case zo => exact rfl); (case zx => exact rfl); (case zy => exact rfl); (case zb => exact Nat.le_succ _); intro w4 hA4 hB4)
        | fail)
      refine bodyPost_ret (results_cell_row rfl _ _ (w.heap.size + 1) _ _ _ _ rfl hA4.out Try.underlying42 rfl (by simpa using hl15.out)) rfl ?_
      exact ⟨by rw [HY.out], hB4.out⟩

theorem TokAt.new (w : World) (s b t : Int) : TokAt (w.alloc (.cells #[nu s, nu b, u8v t] 24)) w.heap.size s b t := heap_alloc_new _ _

theorem ny_lt' (l : List UInt8) (n : Nat) (h : l.length ≤ n) : ny l < 256 ^ n := Nat.lt_of_lt_of_le (ny_lt l) (Nat.pow_le_pow_right (by decide) h)

set_option maxHeartbeats 4000000 in
set_option maxRecDepth 100000 in
theorem tokenOf_any (l : List UInt8) (w : World) (hl : l.length = 15) :
    Calls Try.prog 15 #[.agg (l.map by1).toArray] w fun e w' => e = .returned (tok (ny ((l.drop 0).take 1)) (ny ((l.drop 1).take 3)) (ny ((l.drop 4).take 8))) ∧ Below w.heap.size w w' := by
  have hbox := fun w => box_arr 42 l (by rw [hl]; exact size15) w
  have hT := Arr.new w 42 l
  have hB := below_new8 w (.cells (l.map by1).toArray 42)
  obtain ⟨w1, hw1⟩ : ∃ w1, w.alloc (.cells (l.map by1).toArray 42) = w1 := ⟨_, rfl⟩
  have e1 : w1.heap.size = w.heap.size + 1 := by rw [← hw1]; simp
  rw [hw1] at hT hB
  have hA2 := TokAt.new w1 0 0 0
  have hB2 := below_new8 w1 (.cells #[nu 0, nu 0, u8v 0] 24)
  obtain ⟨w2, hw2⟩ : ∃ w2, w1.alloc (.cells #[nu 0, nu 0, u8v 0] 24) = w2 := ⟨_, rfl⟩
  rw [hw2] at hA2 hB2
  rw [e1] at hA2
  have hT2 := hT.below hB2 (by omega)
  have hBB := below_to' hB hB2
  have b1 := ny_lt' ((l.drop 0).take 1) 1 (by rw [List.length_take]; omega)
  have b2 := ny_lt' ((l.drop 1).take 3) 3 (by rw [List.length_take]; omega)
  have c1 := slot_any w.heap.size w2
  have c2 := number_any w.heap.size 0 1 1 42 l w2 (by omega) (by omega) (by omega) hT2
  have H2 : Hid (∀ wx, Below w2.heap.size w2 wx → Calls Try.prog 16 #[.slice (some ⟨w.heap.size, 1, none⟩) 3 3] wx fun e w' => e = .returned (u8v (ny ((l.drop 1).take 3))) ∧ Below wx.heap.size wx w') := fun wx hb => number_any w.heap.size 1 3 3 42 l wx (by omega) (by omega) (by omega) (hT2.below hb hT2.lt)
  have H3 : Hid (∀ wx, Below w2.heap.size w2 wx → Calls Try.prog 16 #[.slice (some ⟨w.heap.size, 4, none⟩) 8 8] wx fun e w' => e = .returned (u8v (ny ((l.drop 4).take 8))) ∧ Below wx.heap.size wx w') := fun wx hb => number_any w.heap.size 4 8 8 42 l wx (by omega) (by omega) (by omega) (hT2.below hb hT2.lt)
  simp only [Nat.reducePow] at b1 b2
  obtain ⟨xs, hxs⟩ : ∃ x, ny ((l.drop 0).take 1) = x := ⟨_, rfl⟩
  obtain ⟨xb, hxb⟩ : ∃ x, ny ((l.drop 1).take 3) = x := ⟨_, rfl⟩
  obtain ⟨xt, hxt⟩ : ∃ x, ny ((l.drop 4).take 8) = x := ⟨_, rfl⟩
  rw [hxs] at c2 b1
  rw [hxb] at H2 b2
  rw [hxt] at H3
  rw [hxs, hxb, hxt]
  have hws : IntKind.i64.wrap (xs : Int) = xs := by rw [IntKind.wrap_i64]; omega
  have hwb : IntKind.i64.wrap (xb : Int) = xb := by rw [IntKind.wrap_i64]; omega
  have HA2 := Hid.mk' hA2
  have HBB := Hid.mk' hBB
  have hlt2 : w.heap.size + 1 < w2.heap.size := (Array.getElem?_eq_some_iff.1 hA2).1
  clear hT hB hT2 hxs hxb hxt hB2 hA2 hBB hl
  unfold nu u8v at hw2
  go_enter Try.func15, Try.ntmps15
  go_wp2_with fail
  refine c1.mono ?_
  rintro e w' ⟨rfl, hw⟩
  subst w'
  go_wp2_with fail
  refine c2.mono ?_
  rintro e w3 ⟨rfl, hb3⟩
  have d1 := H2.out w3 hb3
  have c3 := birth_any w.heap.size w3
  clear c1 c2
  go_wp2_with fail
  refine c3.mono ?_
  rintro e w' ⟨rfl, hw⟩
  subst w'
  go_wp2_with fail
  refine d1.mono ?_
  rintro e w4 ⟨rfl, hb4⟩
  have hb24 := below_to' hb3 hb4
  have d2 := H3.out w4 hb24
  have c4 := tag_any w.heap.size w4
  clear c3 d1
  go_wp2_with fail
  refine c4.mono ?_
  rintro e w' ⟨rfl, hw⟩
  subst w'
  go_wp2_with fail
  refine d2.mono ?_
  rintro e w5 ⟨rfl, hb5⟩
  have hb25 := below_to' hb24 hb5
  have hT5 := Hid.mk' (HA2.out.below hb25 hlt2)
  have hB5 := Hid.mk' (below_to' HBB.out hb25)
  obtain ⟨z0, z1, z2⟩ := tok_cells hT5.out
  have hf5 := hT5.out.free
  have hT6 := Hid.mk' (hT5.out.put xs xb xt)
  have hB6 := Hid.mk' (below_tok hB5.out (w.heap.size + 1) (by omega) (.int .i64 xs) (.int .i64 xb) (.int .u64 xt))
  clear c4 d2 hb3 hb4 hb5 hb24 hb25
  go_wp2
  refine bodyPost_ret (results_cell_row rfl _ _ (w.heap.size + 1) _ _ _ _ rfl hT6.out Try.underlying24 rfl (tokSize _ _ _)) rfl ?_
  exact ⟨rfl, hB6.out⟩
end Tk
end Go.Proofs.Ytkkpcngdpnoidaa
