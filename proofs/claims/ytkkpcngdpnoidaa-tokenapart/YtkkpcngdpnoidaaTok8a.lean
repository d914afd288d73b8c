/- A token's row. -/
import Derived.Test.YtkkpcngdpnoidaaRows8
namespace Go.Proofs.Ytkkpcngdpnoidaa
set_option linter.ambiguousOpen false
open Go.RowKit
namespace Tk
open Sm
set_option linter.unusedSimpArgs false
set_option linter.unusedVariables false

theorem size15 : (Try.prog.info? 42).map (·.size) = some 15 := by kernel_rfl

theorem size24 : (Try.prog.info? 39).map (·.size) = some 24 := by kernel_rfl

theorem zero15 : (#[.int .u8 0, .int .u8 0, .int .u8 0, .int .u8 0, .int .u8 0, .int .u8 0, .int .u8 0, .int .u8 0, .int .u8 0, .int .u8 0, .int .u8 0, .int .u8 0, .int .u8 0, .int .u8 0, .int .u8 0] : Array Value) = ((List.replicate 15 0 : List UInt8).map by1).toArray := rfl

theorem zero24 : (#[.int .u8 0, .int .u8 0, .int .u8 0, .int .u8 0, .int .u8 0, .int .u8 0, .int .u8 0, .int .u8 0, .int .u8 0, .int .u8 0, .int .u8 0, .int .u8 0, .int .u8 0, .int .u8 0, .int .u8 0, .int .u8 0, .int .u8 0, .int .u8 0, .int .u8 0, .int .u8 0, .int .u8 0, .int .u8 0, .int .u8 0, .int .u8 0] : Array Value) = ((List.replicate 24 0 : List UInt8).map by1).toArray := rfl

/-- While a row is filled. -/
def RowSt (w wr : World) (s b t : Int) (L : List UInt8) : Prop :=
  Arr wr (w.heap.size + 1 + 1) 42 L ∧ Arr wr (w.heap.size + 1) 42 (List.replicate 15 0) ∧ TokAt wr w.heap.size s b t ∧ Below w.heap.size w wr

theorem RowSt.drew {w wr : World} {s b t : Int} {L : List UInt8} (h : RowSt w wr s b t L) : RowSt w wr.drew s b t L := ⟨h.1, h.2.1, h.2.2.1, h.2.2.2.drew⟩

theorem RowSt.fill {w wr : World} {s b t : Int} {L : List UInt8} (h : RowSt w wr s b t L) (o k cap x : Nat) (hk0 : 0 < k) (hk : k ≤ 8) (ho : o + k ≤ L.length) (hx : x < 18446744073709551616) :
    Calls Try.prog 19 #[.slice (some ⟨w.heap.size + 1 + 1, o, none⟩) k cap, u8v x] wr fun e w' => (∃ v, e = .returned v) ∧ RowSt w w' s b t (lay L o (yd x k)) := by
  refine (fill_any (w.heap.size + 1 + 1) o k cap _ L x wr hk0 hk ho h.1 hx).mono ?_
  rintro e w' ⟨hv, hA, hB⟩
  exact ⟨hv, hA, h.2.1.below hB (by omega), h.2.2.1.below hB (by omega), h.2.2.2.trans (hB.mono (by omega))⟩

theorem RowSt.start (w : World) (s b t : Int) : RowSt w (((w.alloc (.cells #[nu s, nu b, u8v t] 24)).alloc (.cells #[.int .u8 0, .int .u8 0, .int .u8 0, .int .u8 0, .int .u8 0, .int .u8 0, .int .u8 0, .int .u8 0, .int .u8 0, .int .u8 0, .int .u8 0, .int .u8 0, .int .u8 0, .int .u8 0, .int .u8 0] 42)).alloc (.cells #[.int .u8 0, .int .u8 0, .int .u8 0, .int .u8 0, .int .u8 0, .int .u8 0, .int .u8 0, .int .u8 0, .int .u8 0, .int .u8 0, .int .u8 0, .int .u8 0, .int .u8 0, .int .u8 0, .int .u8 0] 42)) s b t (List.replicate 15 0) := by
  rw [zero15]
  generalize hw1 : w.alloc (.cells #[nu s, nu b, u8v t] 24) = w1
  have e1 : w1.heap.size = w.heap.size + 1 := by rw [← hw1]; simp
  have hT : TokAt w1 w.heap.size s b t := by rw [← hw1]; exact heap_alloc_new _ _
  have hB : Below w.heap.size w w1 := by rw [← hw1]; exact below_new8 _ _
  have hA2 := Arr.new w1 42 (List.replicate 15 0)
  have hB2 := below_new8 w1 (.cells ((List.replicate 15 0 : List UInt8).map by1).toArray 42)
  generalize hw2 : w1.alloc (.cells ((List.replicate 15 0 : List UInt8).map by1).toArray 42) = w2 at *
  have e2 : w2.heap.size = w.heap.size + 1 + 1 := by rw [← hw2]; simp; omega
  have hA3 := Arr.new w2 42 (List.replicate 15 0)
  have hB3 := below_new8 w2 (.cells ((List.replicate 15 0 : List UInt8).map by1).toArray 42)
  rw [e2] at hA3
  rw [e1] at hA2
  exact ⟨hA3, hA2.below hB3 (by omega), (hT.below hB2 (by omega)).below hB3 (by omega), below_to' (below_to' hB hB2) hB3⟩

theorem row_laid (s b t : Nat) : lay (lay (lay (List.replicate 15 0) 0 (yd s 1)) 1 (yd b 3)) 4 (yd t 8) = yd s 1 ++ yd b 3 ++ yd t 8 ++ yd 0 3 := by
  have h1 := yd_len s 1
  have h2 := yd_len b 3
  have h3 := yd_len t 8
  rw [yd_zero]
  generalize yd s 1 = x at *
  generalize yd b 3 = y at *
  generalize yd t 8 = z at *
  match x, y, z, h1, h2, h3 with
  | [x0], [y0, y1, y2], [z0, z1, z2, z3, z4, z5, z6, z7], _, _, _ => rfl

set_option maxHeartbeats 4000000 in
set_option maxRecDepth 100000 in
theorem rowOf_any (s b t : Nat) (w : World) (hs : s < 256) (hb : b < 16777216) (ht : t < 18446744073709551616) :
    Calls Try.prog 13 #[tok s b t] w fun e w' => e = .returned (.agg ((yd (num s b t * 1048576) 15).map by1).toArray) ∧ Below w.heap.size w w' := by
  have hN : Hid (yd (num s b t * 1048576) 15 = lay (lay (lay (List.replicate 15 0) 0 (yd s 1)) 1 (yd b 3)) 4 (yd t 8)) := by
    show _ = _
    rw [row_laid]
    rcases yd_num s b t with h | h | h | h
    · exact h
    · omega
    · omega
    · omega
  have h0 := Hid.mk' (RowSt.start w s b t)
  have hws : IntKind.u64.wrap (s : Int) = s := by rw [IntKind.wrap_u64]; omega
  have hwb : IntKind.u64.wrap (b : Int) = b := by rw [IntKind.wrap_u64]; omega
  go_enter Try.func13, Try.ntmps13
  go_wp2_with fail
  go_cut [] from 4 to 8 (fun wr => Hid (RowSt w wr s b t (lay (List.replicate 15 0) 0 (yd s 1))))
  case first =>
    obtain ⟨q0, q1, q2⟩ := tok_cells h0.out.2.2.1
    have cF : Hid (∀ wx, RowSt w wx s b t (List.replicate 15 0) → Calls Try.prog 19 #[.slice (some ⟨w.heap.size + 1 + 1, 0, none⟩) 1 1, u8v s] wx fun e w' => (∃ v, e = .returned v) ∧ RowSt w w' s b t (lay (List.replicate 15 0) 0 (yd s 1))) := fun wx hx => hx.fill 0 1 1 s (by decide) (by decide) (by simp [lay_len, yd_len, lay]) (by omega)
    have hD := Hid.mk' h0.out.drew
    go_region_with (first | (go_at_call 20; refine (slot_any _ _).mono ?_; rintro e w' ⟨rfl, rfl⟩) | (go_at_call 19; refine (cF.out _ hD.out).mono ?_; rintro e w' ⟨⟨v, rfl⟩, hS⟩) | fail)
    all_goals (go_wp2_with fail; go_meet; exact hS)
  have h1 := hcut
  clear hcut h0
  go_wp2_with fail
  go_cut [] from 9 to 13 (fun wr => Hid (RowSt w wr s b t (lay (lay (List.replicate 15 0) 0 (yd s 1)) 1 (yd b 3))))
  case first =>
    obtain ⟨q0, q1, q2⟩ := tok_cells h1.out.2.2.1
    have cF : Hid (∀ wx, RowSt w wx s b t (lay (List.replicate 15 0) 0 (yd s 1)) → Calls Try.prog 19 #[.slice (some ⟨w.heap.size + 1 + 1, 1, none⟩) 3 3, u8v b] wx fun e w' => (∃ v, e = .returned v) ∧ RowSt w w' s b t (lay (lay (List.replicate 15 0) 0 (yd s 1)) 1 (yd b 3))) := fun wx hx => hx.fill 1 3 3 b (by decide) (by decide) (by simp [lay_len, yd_len, lay]) (by omega)
    have hD := Hid.mk' h1.out.drew
    go_region_with (first | (go_at_call 21; refine (birth_any _ _).mono ?_; rintro e w' ⟨rfl, rfl⟩) | (go_at_call 19; refine (cF.out _ hD.out).mono ?_; rintro e w' ⟨⟨v, rfl⟩, hS⟩) | fail)
    all_goals (go_wp2_with fail; go_meet; exact hS)
  have h2 := hcut
  clear hcut h1
  go_wp2_with fail
  go_cut [] from 14 to 17 (fun wr => Hid (RowSt w wr s b t (lay (lay (lay (List.replicate 15 0) 0 (yd s 1)) 1 (yd b 3)) 4 (yd t 8))))
  case first =>
    obtain ⟨q0, q1, q2⟩ := tok_cells h2.out.2.2.1
    have cF : Hid (∀ wx, RowSt w wx s b t (lay (lay (List.replicate 15 0) 0 (yd s 1)) 1 (yd b 3)) → Calls Try.prog 19 #[.slice (some ⟨w.heap.size + 1 + 1, 4, none⟩) 8 8, u8v t] wx fun e w' => (∃ v, e = .returned v) ∧ RowSt w w' s b t (lay (lay (lay (List.replicate 15 0) 0 (yd s 1)) 1 (yd b 3)) 4 (yd t 8))) := fun wx hx => hx.fill 4 8 8 t (by decide) (by decide) (by simp [lay_len, yd_len, lay]) (by omega)
    have hD := Hid.mk' h2.out.drew
    go_region_with (first | (go_at_call 22; refine (tag_any _ _).mono ?_; rintro e w' ⟨rfl, rfl⟩) | (go_at_call 19; refine (cF.out _ hD.out).mono ?_; rintro e w' ⟨⟨v, rfl⟩, hS⟩) | fail)
    all_goals (go_wp2_with fail; go_meet; exact hS)
  have h3 := hcut
  clear hcut h2
  rw [← hN.out] at h3
  rename World => w3
  have hl15 : Hid ((Try.prog.info? 42).map (·.size) = some (yd (num s b t * 1048576) 15).length) := by
    show _ = _
    rw [yd_len]; exact size15
  have hle : Hid ((List.replicate 15 (0 : UInt8)).length = (yd (num s b t * 1048576) 15).length) := by
    show _ = _
    rw [yd_len]; rfl
  obtain ⟨Y, hY⟩ : ∃ Y, yd (num s b t * 1048576) 15 = Y := ⟨_, rfl⟩
  rw [hY] at h3 hl15 hle
  have HY := Hid.mk' hY
  clear hY
  have hA3 := Hid.mk' h3.out.1
  have hZ3 := Hid.mk' h3.out.2.1
  have hB3 := Hid.mk' h3.out.2.2.2
  clear hN hws hwb h3
  go_wp2_with (first
    | ((with_reducible refine wpList_load_arr ?qg 42 ?qp ?qo (w.heap.size + 1 + 1) ?qx 42 Y hA3.out _ Try.underlying42 ?qd hl15.out ?qh); (case qg => exact rfl); (case qo => exact rfl); (case qx => exact rfl); (case qd => exact rfl))
    | ((with_reducible refine wpList_store_arr ?zg 42 ?zp ?zr ?zo (w.heap.size + 1) ?zx Y ?zy 42 (List.replicate 15 0) hZ3.out hle.out hl15.out w w.heap.size hB3.out ?zb ?zh); (case zg => exact rfl); (case zo => exact rfl); (case zx => exact rfl); (case zy => exact rfl); (case zb => exact Nat.le_succ _); intro w4 hA4 hB4)
    | fail)
  refine bodyPost_ret (results_cell_row rfl _ _ (w.heap.size + 1) _ _ _ _ rfl hA4.out Try.underlying42 rfl (by simpa using hl15.out)) rfl ?_
  exact ⟨by rw [HY.out], hB4.out⟩
end Tk
end Go.Proofs.Ytkkpcngdpnoidaa
