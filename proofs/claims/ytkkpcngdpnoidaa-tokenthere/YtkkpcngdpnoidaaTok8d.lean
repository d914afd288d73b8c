/- The program's form of a token. -/
import Derived.Test.YtkkpcngdpnoidaaTok8c
import Derived.Test.YtkkpcngdpnoidaaLaws8
namespace Go.Proofs.Ytkkpcngdpnoidaa
set_option linter.ambiguousOpen false
open Go.RowKit
namespace Tk
open Sm
set_option linter.unusedSimpArgs false
set_option linter.unusedVariables false

theorem dig_at (s b t i : Nat) (h : i < 20) : (byI (dgB (num s b t * 1048576) 24) i).toNat = (dg (num s b t) 20).getD i 0 := by
  have e : dg (num s b t * 1048576) 24 = dg (num s b t) 20 ++ dg (num s b t * 1048576) 4 := by
    rw [show (24 : Nat) = 20 + 4 from rfl, dg_split _ 20 4, show num s b t * 1048576 / 32 ^ 4 = num s b t from Nat.mul_div_cancel _ (by decide)]
  have hl := dg_len (num s b t) 20
  have hlt := dg_lt (num s b t) 20
  have h1 : i < (dgB (num s b t * 1048576) 24).length := by rw [dgB_len]; omega
  rw [byI_at _ _ h1]
  unfold dgB
  simp only [e]
  generalize dg (num s b t) 20 = D at *
  generalize dg (num s b t * 1048576) 4 = E at *
  have hi : i < D.length := by omega
  have h32 := hlt D[i] (List.getElem_mem hi)
  rw [List.getElem_map, List.getElem_append_left hi, List.getD_eq_getElem?_getD, List.getElem?_eq_getElem hi, UInt8.toNat_ofNat', Nat.mod_eq_of_lt (by omega)]
  rfl

theorem new24 (w : World) : Arr (w.alloc (.cells #[.int .u8 0, .int .u8 0, .int .u8 0, .int .u8 0, .int .u8 0, .int .u8 0, .int .u8 0, .int .u8 0, .int .u8 0, .int .u8 0, .int .u8 0, .int .u8 0, .int .u8 0, .int .u8 0, .int .u8 0, .int .u8 0, .int .u8 0, .int .u8 0, .int .u8 0, .int .u8 0, .int .u8 0, .int .u8 0, .int .u8 0, .int .u8 0] 39)) w.heap.size 39 (List.replicate 24 0) := by
  rw [zero24]
  exact Arr.new _ _ _

theorem new15 (w : World) : Arr (w.alloc (.cells #[.int .u8 0, .int .u8 0, .int .u8 0, .int .u8 0, .int .u8 0, .int .u8 0, .int .u8 0, .int .u8 0, .int .u8 0, .int .u8 0, .int .u8 0, .int .u8 0, .int .u8 0, .int .u8 0, .int .u8 0] 42)) w.heap.size 42 (List.replicate 15 0) := by
  rw [zero15]
  exact Arr.new _ _ _

theorem make21 (w : World) : ∃ w', (Instr.makeSlice 44 (.int .i64 21) (.int .i64 21)).run Try.prog w = .ok (.slice (some ⟨w.heap.size, 0, none⟩) 21 21) w' ∧ Arr w' w.heap.size 5 (List.replicate 21 0) ∧ Below w.heap.size w w' := by
  obtain ⟨i0, hi, hz0, hz1, hz2⟩ := info_parts info_byte
  have h := run_make (P := Try.prog) w 44 5 i0 _ Try.underlying44 hi hz0 .i64 .i64 21 21 (by decide) (by decide) (by rw [hz2]; decide) (by decide)
  refine ⟨_, h, ?_, (Below.refl _ _).alloc (Nat.le_refl _) _⟩
  rw [hz1]
  have e : madeCells (Value.int .u8 0).cells (Int.toNat 21 * 1) = ((List.replicate 21 0 : List UInt8).map by1).toArray := by kernel_rfl
  rw [e]
  exact Arr.new _ _ _

theorem copy_t (w : World) (g : Nat) (h : Arr w g 5 (List.replicate 21 0)) : ∃ w', (Builtin.copy_ #[44, 9] 3 #[.slice (some ⟨g, 0, none⟩) 21 21, .string ⟨#[116]⟩]).run Try.prog w = .ok (.int .i64 1) w' ∧ Arr w' g 5 (116 :: List.replicate 20 0) ∧ Below g w w' := by
  have hc := h.cell 0 (by decide)
  have hf := h.free 0
  refine ⟨w.setCell ⟨g, 0, none⟩ (by1 116), ?_, h.set 0 116, (Below.refl _ _).setCell (p := ⟨g, 0, none⟩) (Nat.le_refl _) _⟩
  have e : (⟨#[116]⟩ : ByteArray).size.min 21 = 1 := rfl
  have e2 : by1 116 = .int .u8 116 := rfl
  have hst : (storeCells ⟨g, 0, none⟩ [.int .u8 116] 0).run Try.prog w = .ok () (w.setCell ⟨g, 0, none⟩ (by1 116)) :=
    run_storeCells_cells (P := Try.prog) g 0 [.int .u8 116] 0 w (fun j hj => by
      obtain rfl : j = 0 := by simpa using hj
      rw [show 0 + 0 + 0 = 0 from rfl, hc]; rfl) (fun j hj => by
      obtain rfl : j = 0 := by simpa using hj
      exact hf) (fun v hv => by
      obtain rfl : v = _ := List.mem_singleton.1 hv
      rfl)
  simp [Builtin.copy_, run_underlying Try.underlying44, Builtin.lenOf, Builtin.firstCells, Try.sizeOf5, e, hst]
  rfl

theorem frm_set (F : List UInt8) (k : Nat) (c : UInt8) (hF : F.length = 21) (hk : k < 20) (h : F.take (k + 1 + 1) = F.take (k + 1) ++ [c]) : (F.take (k + 1) ++ List.replicate (20 - k) 0).set (1 + k) c = F.take (k + 1 + 1) ++ List.replicate (20 - (k + 1)) 0 := by
  have e1 : List.replicate (20 - k) (0 : UInt8) = 0 :: List.replicate (20 - (k + 1)) 0 := by
    rw [show 20 - k = (20 - (k + 1)) + 1 by omega, List.replicate_succ]
  have hl : (F.take (k + 1)).length = 1 + k := by rw [List.length_take]; omega
  rw [e1, h, List.set_append_right _ _ (by omega), hl, Nat.sub_self, List.set_cons_zero, List.append_assoc]
  rfl

theorem arr_back {w : World} {g : Nat} {T : TypeId} {l : List UInt8} (h : Arr w g T l) (n cap : Nat) (hl : l.length = n) : (convert 44 9 (.slice (some ⟨g, 0, none⟩) n cap)).run Try.prog w = .ok (.string (tx l)) w := by
  subst hl
  exact run_convert_bytes_back w 44 9 5 ⟨g, 0, none⟩ cap l Try.underlying44 Try.underlying5 Try.underlying9 (fun j hj => by
    rw [Addr.add_mid, Nat.zero_add, h.cell j hj, byI_at l j hj])

set_option maxHeartbeats 4000000 in
set_option maxRecDepth 100000 in
theorem print_yes (s b t : Nat) (w : World) (hs : s < 32) (hb1 : 1 ≤ b) (hb : b ≤ 1048576) (ht : t < 18446744073709551616) :
    Calls Try.prog 7 #[tok s b t] w fun e w' => e = .returned (.tuple #[.string (tx (form s b t)), .nilIface]) ∧ Below w.heap.size w w' := by
  have hM : mayB s b = true := decide_eq_true ⟨by omega, by omega, by omega, by omega⟩
  have c1 := mayBe_any s b t (w.alloc (.cells #[nu s, nu b, u8v t] 24))
  rw [hM] at c1
  have hB0 := Hid.mk' (below_new8 w (.cells #[nu s, nu b, u8v t] 24))
  have hT0 := Hid.mk' (TokAt.new w s b t)
  have hY : Hid (dpre (yd (num s b t * 1048576) 15) 3 = dgB (num s b t * 1048576) 24) := dpre_all _
  go_enter Try.func7, Try.ntmps7
  go_wp2_with fail
  refine c1.mono ?_
  rintro e w1 ⟨rfl, hb1'⟩
  have hz : w.heap.size < w1.heap.size := by have := hb1'.size; simp at this; omega
  have hT1 := Hid.mk' (hT0.out.below hb1' (by simp))
  have hB1 := Hid.mk' (below_to' hB0.out hb1')
  obtain ⟨q0, q1, q2⟩ := tok_cells hT1.out
  have c2 := rowOf_any s b t w1 (by omega) (by omega) ht
  clear c1 hb1' hM hB0 hT0
  unfold tok at c2
  go_wp2_with fail
  refine c2.mono ?_
  rintro e w2 ⟨rfl, hb2⟩
  have c3 := digitsOf_any (yd (num s b t * 1048576) 15) w2 (yd_len _ _)
  rw [hY.out] at c3
  have hB2 := Hid.mk' (below_to' hB1.out hb2)
  clear c2 hb2 q0 q1 q2 hY
  have hDl : Hid ((dgB (num s b t * 1048576) 24).length = 24) := dgB_len _ _
  have hDi : Hid (∀ i, i < 20 → (byI (dgB (num s b t * 1048576) 24) i).toNat = (dg (num s b t) 20).getD i 0) := fun i hi => dig_at s b t i hi
  generalize dgB (num s b t * 1048576) 24 = D at *
  go_wp2_with fail
  refine c3.mono ?_
  rintro e w3 ⟨rfl, hb3⟩
  have hB3 := Hid.mk' (below_to' hB2.out hb3)
  have hz3 : w.heap.size ≤ w3.heap.size := hB3.out.size
  clear c3 hb3 hB2 hB1 hT1
  have hN4 := Hid.mk' (new24 w3)
  have hB4 := Hid.mk' (below_to' hB3.out (below_new8 w3 (.cells #[.int .u8 0, .int .u8 0, .int .u8 0, .int .u8 0, .int .u8 0, .int .u8 0, .int .u8 0, .int .u8 0, .int .u8 0, .int .u8 0, .int .u8 0, .int .u8 0, .int .u8 0, .int .u8 0, .int .u8 0, .int .u8 0, .int .u8 0, .int .u8 0, .int .u8 0, .int .u8 0, .int .u8 0, .int .u8 0, .int .u8 0, .int .u8 0] 39)))
  have hl24 : Hid ((Try.prog.info? 39).map (·.size) = some D.length) := by
    show _ = _
    rw [hDl.out]; exact size24
  have hle : Hid ((List.replicate 24 (0 : UInt8)).length = D.length) := by
    show _ = _
    rw [hDl.out]; rfl
  generalize ((yd (num s b t * 1048576) 15).map by1).toArray = YY at *
  go_wp2_with ((with_reducible refine wpList_store_arr ?zg 39 ?zp ?zr ?zo w3.heap.size ?zx D ?zy 39 (List.replicate 24 0) hN4.out hle.out hl24.out w w.heap.size hB4.out hz3 ?zh); (case zg => exact rfl); (case zo => exact rfl); (case zx => exact rfl); (case zy => exact rfl); intro w4 hA4 hB5; obtain ⟨w5, hmk, hF5, hb5⟩ := make21 w4; have hF5h := Hid.mk' hF5; have hA5 := Hid.mk' (hA4.out.below hb5 hA4.out.lt); have hB6 := Hid.mk' (below_to' hB5.out hb5); have hd4 : w3.heap.size < w4.heap.size := hA4.out.lt; have hz4 : w.heap.size ≤ w4.heap.size := hB5.out.size; obtain ⟨w6, hcp, hF6, hb6⟩ := copy_t w5 w4.heap.size hF5; have hF6h := Hid.mk' hF6; have hA6 := Hid.mk' (hA5.out.below hb6 hd4); have hB7 : Hid (Below w.heap.size w w6) := hB6.out.trans (hb6.mono hz4); clear hF5 hb5 hF6 hb6 hF5h hA5 hB6 hB5 hA4 hN4 hB4 hl24 hle hB3)
  have hFl := Hid.mk' (form_len s b t)
  have hFs : Hid (∀ k, k < 20 → ∃ d, (dg (num s b t) 20).getD k 0 = d ∧ d < 32 ∧ (form s b t).take (k + 1 + 1) = (form s b t).take (k + 1) ++ [lt d]) := fun k hk => by
    have h1 : k < (dg (num s b t) 20).length := by rw [dg_len]; exact hk
    refine ⟨_, rfl, ?_, ?_⟩
    · rw [List.getD_eq_getElem?_getD, List.getElem?_eq_getElem h1]
      exact dg_lt _ _ _ (List.getElem_mem h1)
    · refine frm_take _ k _ ?_
      rw [List.getD_eq_getElem?_getD, List.getElem?_eq_getElem h1]
      rfl
  have hF1 : Hid ((form s b t).take 1 = [116]) := rfl
  obtain ⟨F, hFe⟩ : ∃ F, form s b t = F := ⟨_, rfl⟩
  simp only [hFe] at hFl hF1 hFs
  have HFE := Hid.mk' hFe
  clear hFe
  generalize dg (num s b t) 20 = E at *
  have hF7 : Hid (Arr w6 w4.heap.size 5 (F.take (0 + 1) ++ List.replicate (20 - 0) 0)) := by
    have := hF6h
    rw [show (116 : UInt8) :: List.replicate 20 0 = [116] ++ List.replicate (20 - 0) 0 from rfl, ← hF1.out] at this
    exact this
  clear hF6h hmk hcp hz
  go_loopw [7, 22] (fun v7 iv wr => ∃ k : Nat, k ≤ 20 ∧ iv = nu k ∧ Hid (Arr wr w4.heap.size 5 (F.take (k + 1) ++ List.replicate (20 - k) 0)) ∧ Hid (Arr wr w3.heap.size 39 D) ∧ Hid (Below w.heap.size w wr)) (fun _ iv _ => 20 - (intOf iv).toNat)
  case atStart => exact ⟨0, by omega, rfl, hF7, hA6, hB7⟩
  case round =>
    obtain ⟨k, hk, rfl, hF, hA, hB⟩ := hrel
    by_cases hq : k < 20
    · have c0 := hA.out.cell k (by rw [hDl.out]; omega)
      obtain ⟨d, hd1, hd2, hd3⟩ := hFs.out k hq
      have hdi := hDi.out k hq
      rw [hd1] at hdi
      unfold by1 at c0
      rw [hdi] at c0
      have hx := fun w => idx_k .u8 d hd2 w
      have hlen : (F.take (k + 1) ++ List.replicate (20 - k) (0 : UInt8)).length = 21 := by
        have := hFl.out
        simp; omega
      have c1 := hF.out.cell (1 + k) (by omega)
      have f1 := hF.out.free
      have hF2 := Hid.mk' (hF.out.set (1 + k) (lt d))
      rw [frm_set F k (lt d) hFl.out hq hd3] at hF2
      have hA2 := Hid.mk' (hA.out.below ((Below.refl w4.heap.size wr).setCell (p := ⟨w4.heap.size, 1 + k, none⟩) (Nat.le_refl _) (by1 (lt d))) hd4)
      have hB2 := Hid.mk' (hB.out.setCell (p := ⟨w4.heap.size, 1 + k, none⟩) hz4 (by1 (lt d)))
      generalize byI (F.take (k + 1) ++ List.replicate (20 - k) (0 : UInt8)) (1 + k) = z at *
      generalize lt d = y at *
      clear hlen hdi hd1 hd3 hF hA hB hF7 hA6 hB7
      go_wp2
      go_roundw
      case rel => exact ⟨k + 1, by omega, vi (by omega), hF2, hA2, hB2⟩
      case measure => simp [intOf]; omega
    · obtain rfl : k = 20 := by omega
      simp only [Int.cast_ofNat_Int]
      rw [show 20 - 20 = 0 from rfl, List.replicate_zero, List.append_nil, List.take_of_length_le (by rw [hFl.out]; exact Nat.le_refl _)] at hF
      have hv := arr_back hF.out 21 21 hFl.out
      go_wp2
      go_ret2
      exact ⟨by rw [HFE.out]; rfl, hB.out⟩

theorem print_no (s b t : Int) (w : World) (hM : mayB s b = false) :
    Calls Try.prog 7 #[tok s b t] w fun e w' => e = .returned (.tuple #[.string ⟨#[]⟩, noE 1]) ∧ Below w.heap.size w w' := by
  have cM := mayBe_any s b t (w.alloc (.cells #[nu s, nu b, u8v t] 24))
  rw [hM] at cM
  have hB0 : Below w.heap.size w (w.alloc (.cells #[nu s, nu b, u8v t] 24)) := (Below.refl _ _).alloc (Nat.le_refl _) _
  go_enter Try.func7, Try.ntmps7
  go_wp2_with fail
  refine cM.mono ?_
  rintro e w1 ⟨rfl, hb1⟩
  go_wp2
  go_ret2
  exact ⟨rfl, below_to' hB0 hb1⟩
end Tk
end Go.Proofs.Ytkkpcngdpnoidaa
