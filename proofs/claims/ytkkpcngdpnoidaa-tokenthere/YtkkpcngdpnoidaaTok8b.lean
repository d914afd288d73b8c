/- A row's digits. -/
import Derived.Test.YtkkpcngdpnoidaaTok8a
namespace Go.Proofs.Ytkkpcngdpnoidaa
set_option linter.ambiguousOpen false
open Go.RowKit
namespace Tk
open Sm
set_option linter.unusedSimpArgs false
set_option linter.unusedVariables false

/-- Digits as bytes. -/
def dgB (v n : Nat) : List UInt8 := (dg v n).map UInt8.ofNat

theorem dgB_len (v n : Nat) : (dgB v n).length = n := by simp [dgB, dg_len]

theorem rep_set (X : List UInt8) (k : Nat) (h : k < 8) (hX : X.length = 8) (P Z : List UInt8) (g : Nat) (hP : P.length = g) :
    (P ++ ((List.replicate (8 - k) 0 ++ X.drop (8 - k)) ++ Z)).set (g + (7 - k)) (byI X (7 - k)) = P ++ ((List.replicate (8 - (k + 1)) 0 ++ X.drop (8 - (k + 1))) ++ Z) := by
  have e1 : List.replicate (8 - k) (0 : UInt8) = List.replicate (7 - k) 0 ++ [0] := by
    rw [show 8 - k = (7 - k) + 1 by omega, List.replicate_succ']
  have e2 : X.drop (8 - (k + 1)) = byI X (7 - k) :: X.drop (8 - k) := by
    have h1 : 7 - k < X.length := by omega
    rw [show 8 - (k + 1) = 7 - k by omega, List.drop_eq_getElem_cons h1, show 7 - k + 1 = 8 - k by omega, byI_at X _ h1]
  rw [e1, e2, show 8 - (k + 1) = 7 - k by omega, List.set_append_right _ _ (by omega), hP, Nat.add_sub_cancel_left, List.append_assoc, List.append_assoc, List.set_append_right _ _ (by simp)]
  simp

/-- The digits of the first groups, and noughts. -/
def dpre (l : List UInt8) : Nat → List UInt8
  | 0 => []
  | g + 1 => dpre l g ++ dgB (ny ((l.drop (5 * g)).take 5)) 8

theorem dpre_len (l : List UInt8) (g : Nat) : (dpre l g).length = 8 * g := by
  induction g with
  | zero => rfl
  | succ g ih => rw [dpre, List.length_append, ih, dgB_len]; omega

theorem dpre_all (v : Nat) : dpre (yd v 15) 3 = dgB v 24 := by
  have h := dg_groups v
  unfold dgB at *
  rw [h]
  simp [dpre, dgB]

def DigSt (w wr : World) (l D : List UInt8) : Prop :=
  Arr wr (w.heap.size + 1 + 1) 39 D ∧ Arr wr (w.heap.size + 1) 39 (List.replicate 24 0) ∧ Arr wr w.heap.size 42 l ∧ Below w.heap.size w wr

theorem DigSt.start (w : World) (l : List UInt8) : DigSt w (((w.alloc (.cells (l.map by1).toArray 42)).alloc (.cells #[.int .u8 0, .int .u8 0, .int .u8 0, .int .u8 0, .int .u8 0, .int .u8 0, .int .u8 0, .int .u8 0, .int .u8 0, .int .u8 0, .int .u8 0, .int .u8 0, .int .u8 0, .int .u8 0, .int .u8 0, .int .u8 0, .int .u8 0, .int .u8 0, .int .u8 0, .int .u8 0, .int .u8 0, .int .u8 0, .int .u8 0, .int .u8 0] 39)).alloc (.cells #[.int .u8 0, .int .u8 0, .int .u8 0, .int .u8 0, .int .u8 0, .int .u8 0, .int .u8 0, .int .u8 0, .int .u8 0, .int .u8 0, .int .u8 0, .int .u8 0, .int .u8 0, .int .u8 0, .int .u8 0, .int .u8 0, .int .u8 0, .int .u8 0, .int .u8 0, .int .u8 0, .int .u8 0, .int .u8 0, .int .u8 0, .int .u8 0] 39)) l (List.replicate 24 0) := by
  rw [zero24]
  have hT := Arr.new w 42 l
  have hB := below_new8 w (.cells (l.map by1).toArray 42)
  generalize hw1 : w.alloc (.cells (l.map by1).toArray 42) = w1 at *
  have e1 : w1.heap.size = w.heap.size + 1 := by rw [← hw1]; simp
  have hA2 := Arr.new w1 39 (List.replicate 24 0)
  have hB2 := below_new8 w1 (.cells ((List.replicate 24 0 : List UInt8).map by1).toArray 39)
  generalize hw2 : w1.alloc (.cells ((List.replicate 24 0 : List UInt8).map by1).toArray 39) = w2 at *
  have e2 : w2.heap.size = w.heap.size + 1 + 1 := by rw [← hw2]; simp; omega
  have hA3 := Arr.new w2 39 (List.replicate 24 0)
  have hB3 := below_new8 w2 (.cells ((List.replicate 24 0 : List UInt8).map by1).toArray 39)
  rw [e2] at hA3
  rw [e1] at hA2
  exact ⟨hA3, hA2.below hB3 (by omega), (hT.below hB2 (by omega)).below hB3 (by omega), below_to' (below_to' hB hB2) hB3⟩

theorem DigSt.below {w wr w' : World} {l D : List UInt8} (h : DigSt w wr l D) (hb : Below wr.heap.size wr w') : DigSt w w' l D :=
  ⟨h.1.below hb h.1.lt, h.2.1.below hb h.2.1.lt, h.2.2.1.below hb h.2.2.1.lt, below_to' h.2.2.2 hb⟩

theorem DigSt.set {w wr : World} {l D : List UInt8} (h : DigSt w wr l D) (j : Nat) (y : UInt8) : DigSt w (wr.setCell ⟨w.heap.size + 1 + 1, j, none⟩ (by1 y)) l (D.set j y) := by
  have hb : Below (w.heap.size + 1 + 1) wr (wr.setCell ⟨w.heap.size + 1 + 1, j, none⟩ (by1 y)) := (Below.refl _ _).setCell (p := ⟨w.heap.size + 1 + 1, j, none⟩) (Nat.le_refl _) _
  exact ⟨h.1.set j y, h.2.1.below hb (by omega), h.2.2.1.below hb (by omega), h.2.2.2.trans (hb.mono (by omega))⟩

theorem dgB_at (v k : Nat) (h : k < 8) : ((byI (dgB v 8) (7 - k)).toNat : Int) = (v / 32 ^ k % 32 : Nat) := by
  have h1 : 7 - k < (dgB v 8).length := by rw [dgB_len]; omega
  have h2 := dg_at v 8 (7 - k) (by omega)
  rw [byI_at _ _ h1]
  have h3 : (dgB v 8)[7 - k] = UInt8.ofNat (v / 32 ^ k % 32) := by
    have : (dgB v 8)[7 - k]? = some (UInt8.ofNat (v / 32 ^ k % 32)) := by
      unfold dgB
      rw [List.getElem?_map, h2, show 8 - 1 - (7 - k) = k by omega]; rfl
    rw [List.getElem?_eq_getElem h1, Option.some.injEq] at this
    exact this
  rw [h3, UInt8.toNat_ofNat', Nat.mod_eq_of_lt (by have : v / 32 ^ k % 32 < 32 := Nat.mod_lt _ (by decide); omega)]

set_option maxHeartbeats 4000000 in
set_option maxRecDepth 100000 in
theorem digitsOf_any (l : List UInt8) (w : World) (hl : l.length = 15) :
    Calls Try.prog 12 #[.agg (l.map by1).toArray] w fun e w' => e = .returned (.agg ((dpre l 3).map by1).toArray) ∧ Below w.heap.size w w' := by
  have hbox := fun w => box_arr 42 l (by rw [hl]; exact size15) w
  have h0 := Hid.mk' (DigSt.start w l)
  have HL := Hid.mk' hl
  clear hl
  go_enter Try.func12, Try.ntmps12
  go_wp2_with fail
  go_loopw [4, 5, 6, 7, 8] (fun v4 v5 v6 v7 c wr => ∃ g : Nat, g ≤ 3 ∧ c = nu g ∧ Hid (DigSt w wr l (dpre l g ++ List.replicate (24 - 8 * g) 0))) (fun _ _ _ _ c _ => 3 - (intOf c).toNat)
  case atStart => exact ⟨0, by omega, rfl, h0⟩
  case round =>
    obtain ⟨g, hg, rfl, hS⟩ := hrel
    by_cases hq : g < 3
    · have c1 := groupR_any w.heap.size g hq wr
      have c2 := number_any w.heap.size (5 * g) 5 5 42 l wr (by omega) (by omega) (by rw [HL.out]; omega) hS.out.2.2.1
      have hlen : Hid ((dgB (ny ((l.drop (5 * g)).take 5)) 8).length = 8) := dgB_len _ _
      have hNlt : ny ((l.drop (5 * g)).take 5) < 1099511627776 := by
        have h1 := ny_lt ((l.drop (5 * g)).take 5)
        have h2 : ((l.drop (5 * g)).take 5).length ≤ 5 := by rw [List.length_take]; omega
        have h3 := Nat.pow_le_pow_right (n := 256) (by decide) h2
        exact Nat.lt_of_lt_of_le h1 (by simpa using h3)
      have hstep : Hid (dpre l (g + 1) = dpre l g ++ dgB (ny ((l.drop (5 * g)).take 5)) 8) := rfl
      have hPl := Hid.mk' (dpre_len l g)
      generalize ny ((l.drop (5 * g)).take 5) = N at *
      go_wp2_with fail
      refine c1.mono ?_
      rintro e w' ⟨rfl, hw⟩
      subst w'
      go_wp2_with fail
      refine c2.mono ?_
      rintro e w1 ⟨rfl, hb1⟩
      have hS1 := Hid.mk' (hS.out.below hb1)
      have c3 := groupD_any (w.heap.size + 1 + 1) g hq w1
      clear c1 c2 hb1 hS
      go_wp2_with fail
      refine c3.mono ?_
      rintro e w' ⟨rfl, hw⟩
      subst w'
      have d3 : decide ((g : Int) < 3) = true := by simp; omega
      go_wp2_with fail
      have hS2 : Hid (DigSt w w1 l (dpre l g ++ ((List.replicate (8 - 0) 0 ++ (dgB N 8).drop (8 - 0)) ++ List.replicate (24 - 8 * (g + 1)) 0))) := by
        have e : (dgB N 8).drop (8 - 0) = [] := List.drop_of_length_le (by rw [hlen.out]; exact Nat.le_refl _)
        rw [e, List.append_nil, List.replicate_append_replicate, show 8 - 0 + (24 - 8 * (g + 1)) = 24 - 8 * g by omega]
        exact hS1
      clear c3 hS1
      rename World => w2
      go_loopw [5, 7] (fun n iv wr => ∃ k : Nat, k ≤ 8 ∧ iv = nu (7 - (k : Int)) ∧ n = u8v ((N / 32 ^ k : Nat) : Int) ∧ Hid (DigSt w wr l (dpre l g ++ ((List.replicate (8 - k) 0 ++ (dgB N 8).drop (8 - k)) ++ List.replicate (24 - 8 * (g + 1)) 0)))) (fun _ iv _ => (intOf iv + 1).toNat)
      case atStart => exact ⟨0, by omega, rfl, by simp, hS2⟩
      case round =>
        obtain ⟨k, hk, rfl, rfl, hS⟩ := hrel
        by_cases hq2 : k < 8
        · have hlenA : (dpre l g ++ ((List.replicate (8 - k) 0 ++ (dgB N 8).drop (8 - k)) ++ List.replicate (24 - 8 * (g + 1)) 0)).length = 24 := by
            simp [hPl.out, hlen.out]; omega
          have c0 := hS.out.1.cell (8 * g + (7 - k)) (by rw [hlenA]; omega)
          have f0 := hS.out.1.free
          have hv := dgB_at N k hq2
          have hS2 := Hid.mk' (hS.out.set (8 * g + (7 - k)) (byI (dgB N 8) (7 - k)))
          rw [rep_set (dgB N 8) k hq2 hlen.out _ _ _ hPl.out] at hS2
          generalize byI (dpre l g ++ ((List.replicate (8 - k) 0 ++ (dgB N 8).drop (8 - k)) ++ List.replicate (24 - 8 * (g + 1)) 0)) (8 * g + (7 - k)) = z at *
          have hm : Hid (N / 32 ^ (k + 1) = N / 32 ^ k / 32) := by
            show _ = _
            rw [Nat.pow_succ, Nat.div_div_eq_div_mul]
          have hmlt : N / 32 ^ k < 1099511627776 := Nat.lt_of_le_of_lt (Nat.div_le_self _ _) hNlt
          generalize byI (dgB N 8) (7 - k) = y at *
          generalize N / 32 ^ k = m at *
          obtain ⟨i, hi, hi'⟩ : ∃ i : Nat, 7 - (k : Int) = i ∧ 7 - k = i := ⟨7 - k, by omega, rfl⟩
          rw [hi'] at hS2 c0
          rw [hi]
          have HI := Hid.mk' hi
          have hi8 : i < 8 := by omega
          unfold by1 at *
          rw [hv] at hS2
          clear hlenA hS hv hi hi'
          rw [show ((m % 32 : Nat) : Int) = (m : Int) % 32 from by omega] at hS2
          go_wp2
          go_roundw
          case rel => exact ⟨k + 1, by omega, vi (by rw [← HI.out]; omega), vi (by rw [hm.out]; omega), hS2⟩
          case measure => simp [intOf]
        · obtain rfl : k = 8 := by omega
          have hS3 : Hid (DigSt w wr l (dpre l (g + 1) ++ List.replicate (24 - 8 * (g + 1)) 0)) := by
            have := hS.out
            rw [show 8 - 8 = 0 from rfl, List.replicate_zero, List.nil_append, List.drop_zero, ← List.append_assoc, ← hstep.out] at this
            exact this
          rw [show (7 - ((8 : Nat) : Int)) = -1 from rfl]
          clear hS hS2 d3
          go_wp2
          go_roundw
          case rel => exact ⟨g + 1, by omega, vi (by omega), hS3⟩
          case measure => simp [intOf]; omega
    · obtain rfl : g = 3 := by omega
      simp only [Int.cast_ofNat_Int]
      rw [show 24 - 8 * 3 = 0 from rfl, List.replicate_zero, List.append_nil] at hS
      have hl24 : Hid ((Try.prog.info? 39).map (·.size) = some (dpre l 3).length) := by
        show _ = _
        rw [dpre_len]; exact size24
      have hle : Hid ((List.replicate 24 (0 : UInt8)).length = (dpre l 3).length) := by
        show _ = _
        rw [dpre_len]; rfl
      obtain ⟨Y, hY⟩ : ∃ Y, dpre l 3 = Y := ⟨_, rfl⟩
      rw [hY] at hS hl24 hle
      have HY := Hid.mk' hY
      clear hY
      have hA3 := Hid.mk' hS.out.1
      have hZ3 := Hid.mk' hS.out.2.1
      have hB3 := Hid.mk' hS.out.2.2.2
      clear hS h0 hbox
      go_wp2_with (first
        | ((with_reducible refine wpList_load_arr ?qg 39 ?qp ?qo (w.heap.size + 1 + 1) ?qx 39 Y hA3.out _ Try.underlying39 ?qd hl24.out ?qh); (case qg => exact rfl); (case qo => exact rfl); (case qx => exact rfl); (case qd => exact rfl))
        | ((with_reducible refine wpList_store_arr ?zg 39 ?zp ?zr ?zo (w.heap.size + 1) ?zx Y ?zy 39 (List.replicate 24 0) hZ3.out hle.out hl24.out w w.heap.size hB3.out ?zb ?zh); (case zg => exact rfl); (case zo => exact rfl); (case zx => exact rfl); (case zy => exact rfl); (case zb => exact Nat.le_succ _); intro w4 hA4 hB4)
        | fail)
      refine bodyPost_ret (results_cell_row rfl _ _ (w.heap.size + 1) _ _ _ _ rfl hA4.out Try.underlying39 rfl (by simpa using hl24.out)) rfl ?_
      exact ⟨by rw [HY.out], hB4.out⟩
end Tk
end Go.Proofs.Ytkkpcngdpnoidaa
