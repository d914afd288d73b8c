/- The program reads a form. -/
import Derived.Test.YtkkpcngdpnoidaaTok8e
namespace Go.Proofs.Ytkkpcngdpnoidaa
set_option linter.ambiguousOpen false
open Go.RowKit
namespace Tk
open Sm
set_option linter.unusedSimpArgs false
set_option linter.unusedVariables false

theorem wp_load15 {dst : Option Tmp} {type : TypeId} {pos : String} {after : Array Edge} {guard : Option (Nat × Bool)} {x : Operand} {a : Act} {w : World} {K : Act → World → Prop} {Q : Exit → Act → World → Prop}
    (H : Nat) (l : List UInt8) (hx : a.eval x = .pointer (some ⟨H, 0, none⟩)) (hA : Arr w H 42 l) (hl : l.length = 15)
    (h : K (a.put dst (.agg (l.map by1).toArray)) w) : Oper.wp Try.prog { dst := dst, op := .load 42 x, type := type, pos := pos, after := after, guard := guard } a w K Q := by
  have hr := hA.range 0 l.length (by omega)
  rw [List.drop_zero, List.take_length] at hr
  exact wp_load_mid 42 x rfl H 0 hx (l.map by1) _ hr Try.underlying42 rfl (by simpa [hl] using size15) h

theorem wp_store15 {dst : Option Tmp} {type : TypeId} {pos : String} {after : Array Edge} {guard : Option (Nat × Bool)} {x y : Operand} {a : Act} {w : World} {K : Act → World → Prop} {Q : Exit → Act → World → Prop}
    (H : Nat) (m l : List UInt8) (hx : a.eval x = .pointer (some ⟨H, 0, none⟩)) (hy : a.eval y = .agg (m.map by1).toArray) (hA : Arr w H 42 l) (hl : l.length = 15) (hm : m.length = 15)
    (h : K (a.put dst undef) (w.setRow H (m.map by1).toArray)) : Oper.wp Try.prog { dst := dst, op := .store 42 x y, type := type, pos := pos, after := after, guard := guard } a w K Q := by
  have hrun := run_storeVar_row (P := Try.prog) w H 42 42 (l.map by1).toArray (m.map by1).toArray hA (by simpa [hm] using size15) (by simp [hl, hm]) (one_bytes m)
  unfold Oper.wp execOp
  simp only [hx, hy, Instr.storeAt, Instr.sureAddr, Sem.run_bind, Sem.run_pure, Result.andThen_ok, hrun]
  exact h

theorem Arr.setRow {w : World} {H : Nat} {T : TypeId} {l : List UInt8} (h : Arr w H T l) (m : List UInt8) : Arr (w.setRow H (m.map by1).toArray) H T m := setRow_heap w H _ _ T _ h

theorem results_row {fn : Func} {p u : Tmp} (h : fn.results = #[.cell p 42, .tmp u]) (tmps : Array Value) (w : World) (g : Nat) (l : List UInt8)
    (hp : tmps.getD p undef = .pointer (some ⟨g, 0, none⟩)) (hg : Arr w g 42 l) (hl : l.length = 15) :
    (results fn tmps).run Try.prog w = .ok (.tuple #[.agg (l.map by1).toArray, tmps.getD u undef]) w := by
  rw [results_cell_tmp h, hp]
  simp only [asAddr, Sem.run_pure, Result.andThen_ok, run_loadVar_row w g _ 42 _ _ _ hg Try.underlying42 rfl (by simpa [hl] using size15)]

theorem list15 (Y : List UInt8) (h : Y.length = 15) : ∃ y0 y1 y2 y3 y4 y5 y6 y7 y8 y9 y10 y11 y12 y13 y14, Y = [y0, y1, y2, y3, y4, y5, y6, y7, y8, y9, y10, y11, y12, y13, y14] := by
  match Y, h with
  | [y0, y1, y2, y3, y4, y5, y6, y7, y8, y9, y10, y11, y12, y13, y14], _ => exact ⟨_, _, _, _, _, _, _, _, _, _, _, _, _, _, _, rfl⟩

theorem cells15 {w : World} {H : Nat} {T : TypeId} {y0 y1 y2 y3 y4 y5 y6 y7 y8 y9 y10 y11 y12 y13 y14 : UInt8} (h : Arr w H T [y0, y1, y2, y3, y4, y5, y6, y7, y8, y9, y10, y11, y12, y13, y14]) : w.cell? ⟨H, 0, none⟩ = some (.int .u8 (y0.toNat : Int)) ∧ w.cell? ⟨H, 1, none⟩ = some (.int .u8 (y1.toNat : Int)) ∧ w.cell? ⟨H, 2, none⟩ = some (.int .u8 (y2.toNat : Int)) ∧ w.cell? ⟨H, 3, none⟩ = some (.int .u8 (y3.toNat : Int)) ∧ w.cell? ⟨H, 4, none⟩ = some (.int .u8 (y4.toNat : Int)) ∧ w.cell? ⟨H, 5, none⟩ = some (.int .u8 (y5.toNat : Int)) ∧ w.cell? ⟨H, 6, none⟩ = some (.int .u8 (y6.toNat : Int)) ∧ w.cell? ⟨H, 7, none⟩ = some (.int .u8 (y7.toNat : Int)) ∧ w.cell? ⟨H, 8, none⟩ = some (.int .u8 (y8.toNat : Int)) ∧ w.cell? ⟨H, 9, none⟩ = some (.int .u8 (y9.toNat : Int)) ∧ w.cell? ⟨H, 10, none⟩ = some (.int .u8 (y10.toNat : Int)) ∧ w.cell? ⟨H, 11, none⟩ = some (.int .u8 (y11.toNat : Int)) ∧ w.cell? ⟨H, 12, none⟩ = some (.int .u8 (y12.toNat : Int)) ∧ w.cell? ⟨H, 13, none⟩ = some (.int .u8 (y13.toNat : Int)) ∧ w.cell? ⟨H, 14, none⟩ = some (.int .u8 (y14.toNat : Int)) :=
  ⟨h.cell 0 (by simp), h.cell 1 (by simp), h.cell 2 (by simp), h.cell 3 (by simp), h.cell 4 (by simp), h.cell 5 (by simp), h.cell 6 (by simp), h.cell 7 (by simp), h.cell 8 (by simp), h.cell 9 (by simp), h.cell 10 (by simp), h.cell 11 (by simp), h.cell 12 (by simp), h.cell 13 (by simp), h.cell 14 (by simp)⟩

theorem zeros15 {w : World} {H : Nat} {T : TypeId} (h : Arr w H T (List.replicate 15 0)) : w.cell? ⟨H, 0, none⟩ = some (.int .u8 0) ∧ w.cell? ⟨H, 1, none⟩ = some (.int .u8 0) ∧ w.cell? ⟨H, 2, none⟩ = some (.int .u8 0) ∧ w.cell? ⟨H, 3, none⟩ = some (.int .u8 0) ∧ w.cell? ⟨H, 4, none⟩ = some (.int .u8 0) ∧ w.cell? ⟨H, 5, none⟩ = some (.int .u8 0) ∧ w.cell? ⟨H, 6, none⟩ = some (.int .u8 0) ∧ w.cell? ⟨H, 7, none⟩ = some (.int .u8 0) ∧ w.cell? ⟨H, 8, none⟩ = some (.int .u8 0) ∧ w.cell? ⟨H, 9, none⟩ = some (.int .u8 0) ∧ w.cell? ⟨H, 10, none⟩ = some (.int .u8 0) ∧ w.cell? ⟨H, 11, none⟩ = some (.int .u8 0) ∧ w.cell? ⟨H, 12, none⟩ = some (.int .u8 0) ∧ w.cell? ⟨H, 13, none⟩ = some (.int .u8 0) ∧ w.cell? ⟨H, 14, none⟩ = some (.int .u8 0) :=
  ⟨h.cell 0 (by decide), h.cell 1 (by decide), h.cell 2 (by decide), h.cell 3 (by decide), h.cell 4 (by decide), h.cell 5 (by decide), h.cell 6 (by decide), h.cell 7 (by decide), h.cell 8 (by decide), h.cell 9 (by decide), h.cell 10 (by decide), h.cell 11 (by decide), h.cell 12 (by decide), h.cell 13 (by decide), h.cell 14 (by decide)⟩

theorem put15 {w : World} {H : Nat} {T : TypeId} (y0 y1 y2 y3 y4 y5 y6 y7 y8 y9 y10 y11 y12 y13 y14 : UInt8) (h : Arr w H T (List.replicate 15 0)) : Arr (((((((((((((((w.setCell ⟨H, 0, none⟩ (.int .u8 (y0.toNat : Int))).setCell ⟨H, 1, none⟩ (.int .u8 (y1.toNat : Int))).setCell ⟨H, 2, none⟩ (.int .u8 (y2.toNat : Int))).setCell ⟨H, 3, none⟩ (.int .u8 (y3.toNat : Int))).setCell ⟨H, 4, none⟩ (.int .u8 (y4.toNat : Int))).setCell ⟨H, 5, none⟩ (.int .u8 (y5.toNat : Int))).setCell ⟨H, 6, none⟩ (.int .u8 (y6.toNat : Int))).setCell ⟨H, 7, none⟩ (.int .u8 (y7.toNat : Int))).setCell ⟨H, 8, none⟩ (.int .u8 (y8.toNat : Int))).setCell ⟨H, 9, none⟩ (.int .u8 (y9.toNat : Int))).setCell ⟨H, 10, none⟩ (.int .u8 (y10.toNat : Int))).setCell ⟨H, 11, none⟩ (.int .u8 (y11.toNat : Int))).setCell ⟨H, 12, none⟩ (.int .u8 (y12.toNat : Int))).setCell ⟨H, 13, none⟩ (.int .u8 (y13.toNat : Int))).setCell ⟨H, 14, none⟩ (.int .u8 (y14.toNat : Int))) H T [y0, y1, y2, y3, y4, y5, y6, y7, y8, y9, y10, y11, y12, y13, y14] :=
  (((((((((((((((h.set 0 y0).set 1 y1).set 2 y2).set 3 y3).set 4 y4).set 5 y5).set 6 y6).set 7 y7).set 8 y8).set 9 y9).set 10 y10).set 11 y11).set 12 y12).set 13 y13).set 14 y14)

theorem below_put15 {w0 w : World} {H B : Nat} (y0 y1 y2 y3 y4 y5 y6 y7 y8 y9 y10 y11 y12 y13 y14 : UInt8) (hb : Below B w0 w) (hBH : B ≤ H) : Below B w0 (((((((((((((((w.setCell ⟨H, 0, none⟩ (.int .u8 (y0.toNat : Int))).setCell ⟨H, 1, none⟩ (.int .u8 (y1.toNat : Int))).setCell ⟨H, 2, none⟩ (.int .u8 (y2.toNat : Int))).setCell ⟨H, 3, none⟩ (.int .u8 (y3.toNat : Int))).setCell ⟨H, 4, none⟩ (.int .u8 (y4.toNat : Int))).setCell ⟨H, 5, none⟩ (.int .u8 (y5.toNat : Int))).setCell ⟨H, 6, none⟩ (.int .u8 (y6.toNat : Int))).setCell ⟨H, 7, none⟩ (.int .u8 (y7.toNat : Int))).setCell ⟨H, 8, none⟩ (.int .u8 (y8.toNat : Int))).setCell ⟨H, 9, none⟩ (.int .u8 (y9.toNat : Int))).setCell ⟨H, 10, none⟩ (.int .u8 (y10.toNat : Int))).setCell ⟨H, 11, none⟩ (.int .u8 (y11.toNat : Int))).setCell ⟨H, 12, none⟩ (.int .u8 (y12.toNat : Int))).setCell ⟨H, 13, none⟩ (.int .u8 (y13.toNat : Int))).setCell ⟨H, 14, none⟩ (.int .u8 (y14.toNat : Int))) :=
  (((((((((((((((hb.setCell (p := ⟨H, 0, none⟩) hBH _).setCell (p := ⟨H, 1, none⟩) hBH _).setCell (p := ⟨H, 2, none⟩) hBH _).setCell (p := ⟨H, 3, none⟩) hBH _).setCell (p := ⟨H, 4, none⟩) hBH _).setCell (p := ⟨H, 5, none⟩) hBH _).setCell (p := ⟨H, 6, none⟩) hBH _).setCell (p := ⟨H, 7, none⟩) hBH _).setCell (p := ⟨H, 8, none⟩) hBH _).setCell (p := ⟨H, 9, none⟩) hBH _).setCell (p := ⟨H, 10, none⟩) hBH _).setCell (p := ⟨H, 11, none⟩) hBH _).setCell (p := ⟨H, 12, none⟩) hBH _).setCell (p := ⟨H, 13, none⟩) hBH _).setCell (p := ⟨H, 14, none⟩) hBH _)

/-- A letter's number, as a byte. -/
def ixB (c : UInt8) : UInt8 := UInt8.ofNat (ixN c)

theorem ixB_val (c : UInt8) : (ixB c).toNat = ixN c := by
  have := ixN_lt c
  unfold ixB
  rw [UInt8.toNat_ofNat', Nat.mod_eq_of_lt (by omega)]

theorem ixB_set (r : List UInt8) (k : Nat) (hk : k < r.length) (hr : r.length = 20) : ((r.take k).map ixB ++ List.replicate (24 - k) 0).set k (ixB (byI r k)) = (r.take (k + 1)).map ixB ++ List.replicate (24 - (k + 1)) 0 := by
  have hl : ((r.take k).map ixB).length = k := by simp; omega
  rw [List.set_append_right _ _ (by omega), hl, Nat.sub_self, show 24 - k = (24 - (k + 1)) + 1 by omega, List.replicate_succ, List.set_cons_zero, List.take_succ_eq_append_getElem hk, List.map_append, List.append_assoc, byI_at r k hk]
  rfl

theorem dn8_told (r : List UInt8) : dn8 (r.map ixB ++ List.replicate 4 0) = nd (r.map ixN) * 1048576 := by
  unfold dn8
  rw [List.map_append, List.map_map, nd_append]
  have e : (UInt8.toNat ∘ ixB) = ixN := by
    funext c
    exact ixB_val c
  rw [e, show nd ((List.replicate 4 (0 : UInt8)).map UInt8.toNat) = 0 from by decide +kernel, List.length_map, List.length_replicate, Nat.add_zero]

theorem told_dig (r : List UInt8) (c : UInt8) (h : c ∈ r.map ixB ++ List.replicate 4 0) : c.toNat < 32 := by
  rcases List.mem_append.1 h with h | h
  · obtain ⟨x, _, rfl⟩ := List.mem_map.1 h
    rw [ixB_val]; exact ixN_lt x
  · obtain ⟨_, rfl⟩ := List.mem_replicate.1 h
    decide

def allB (l : List UInt8) : Bool := (l.drop 1).all fun c => (ix c).isSome

/-- Is a text of 21 bytes a form? -/
def formB (l : List UInt8) : Bool := (byI l 0 == 116) && allB l && decide (told l % 16 = 0)

set_option maxHeartbeats 4000000 in
set_option maxRecDepth 100000 in
theorem rowOfForm_first (l : List UInt8) (w : World) (hl : l.length = 21) (h : byI l 0 ≠ 116) :
    Calls Try.prog 14 #[.string (tx l)] w fun e w' => e = .returned (.tuple #[.agg ((List.replicate 15 0 : List UInt8).map by1).toArray, .bool false]) ∧ Below w.heap.size w w' := by
  have c1 : Hid (∀ wx, Calls Try.prog 23 #[.string (tx l), .string ⟨#[116]⟩] wx fun e w' => e = .returned (.tuple #[.string (tx l), .bool false]) ∧ w' = wx) := fun wx => cutPrefix_no l wx hl h
  have hA := Hid.mk' (new15 w)
  have hB := Hid.mk' (below_new8 w (.cells #[.int .u8 0, .int .u8 0, .int .u8 0, .int .u8 0, .int .u8 0, .int .u8 0, .int .u8 0, .int .u8 0, .int .u8 0, .int .u8 0, .int .u8 0, .int .u8 0, .int .u8 0, .int .u8 0, .int .u8 0] 42))
  obtain ⟨w1, hw1⟩ : ∃ w1, w.alloc (.cells #[.int .u8 0, .int .u8 0, .int .u8 0, .int .u8 0, .int .u8 0, .int .u8 0, .int .u8 0, .int .u8 0, .int .u8 0, .int .u8 0, .int .u8 0, .int .u8 0, .int .u8 0, .int .u8 0, .int .u8 0] 42) = w1 := ⟨_, rfl⟩
  rw [hw1] at hA hB
  have hl0 : Hid ((List.replicate 15 (0 : UInt8)).length = 15) := rfl
  have hs15 : Hid ((Try.prog.info? 42).map (·.size) = some (List.replicate 15 (0 : UInt8)).length) := size15
  clear h hl
  generalize tx l = b at *
  go_enter Try.func14, Try.ntmps14
  go_wp2_with fail
  refine (c1.out _).mono ?_
  rintro e w' ⟨rfl, hw⟩
  subst w'
  clear hw1
  go_wp2_with ((with_reducible refine wpList_store_arr ?zg 42 ?zp ?zr ?zo w.heap.size ?zx (List.replicate 15 0) ?zy 42 (List.replicate 15 0) hA.out rfl hs15.out w w.heap.size hB.out (Nat.le_refl _) ?zh); (case zg => exact rfl); (case zo => exact rfl); (case zx => exact rfl); (case zy => exact rfl); intro w4 hA4 hB4)
  refine bodyPost_ret (results_row rfl _ _ w.heap.size _ rfl hA4.out hl0.out) rfl ?_
  exact ⟨rfl, hB4.out⟩

set_option maxHeartbeats 4000000 in
set_option maxRecDepth 100000 in
theorem rowOfForm_rest (l : List UInt8) (w : World) (hl : l.length = 21) (h : byI l 0 = 116) :
    Calls Try.prog 14 #[.string (tx l)] w fun e w' => (∃ Y : List UInt8, e = .returned (.tuple #[.agg (Y.map by1).toArray, .bool (formB l)]) ∧ Y.length = 15 ∧ (formB l = true → Y = yd (told l * 1048576) 15)) ∧ Below w.heap.size w w' := by
  have c1 : Hid (∀ wx, Calls Try.prog 23 #[.string (tx l), .string ⟨#[116]⟩] wx fun e w' => e = .returned (.tuple #[.string (tx (l.drop 1)), .bool true]) ∧ w' = wx) := fun wx => cutPrefix_yes l wx hl h
  have hfb : Hid (formB l = (allB l && decide (told l % 16 = 0))) := by
    show _ = _
    unfold formB
    rw [h]
    rfl
  have hall : Hid (allB l = (l.drop 1).all fun c => (ix c).isSome) := rfl
  have htold : Hid (told l = nd ((l.drop 1).map ixN)) := rfl
  obtain ⟨q, hq⟩ : ∃ q, formB l = q := ⟨_, rfl⟩
  obtain ⟨M, hM⟩ : ∃ M, told l = M := ⟨_, rfl⟩
  rw [hq, hM]
  rw [hq, hM] at hfb
  rw [hM] at htold
  have hr20 : (l.drop 1).length = 20 := by rw [List.length_drop]; omega
  generalize allB l = al at *
  generalize l.drop 1 = r at *
  have hs : (tx r).size = 20 := hr20
  have HR := Hid.mk' hr20
  have hix : Hid (∀ k : Nat, k < 20 → ∀ w, (Instr.index 9 (.string (tx r)) (.int .i64 (k : Int))).run Try.prog w = .ok (by1 (byI r k)) w) := fun k hk w => idx_at r k (by rw [hr20]; exact hk) w
  have hA := Hid.mk' (new15 w)
  have hB := Hid.mk' (below_new8 w (.cells #[.int .u8 0, .int .u8 0, .int .u8 0, .int .u8 0, .int .u8 0, .int .u8 0, .int .u8 0, .int .u8 0, .int .u8 0, .int .u8 0, .int .u8 0, .int .u8 0, .int .u8 0, .int .u8 0, .int .u8 0] 42))
  obtain ⟨w1, hw1⟩ : ∃ w1, w.alloc (.cells #[.int .u8 0, .int .u8 0, .int .u8 0, .int .u8 0, .int .u8 0, .int .u8 0, .int .u8 0, .int .u8 0, .int .u8 0, .int .u8 0, .int .u8 0, .int .u8 0, .int .u8 0, .int .u8 0, .int .u8 0] 42) = w1 := ⟨_, rfl⟩
  rw [hw1] at hA hB
  have e1 : w1.heap.size = w.heap.size + 1 := by rw [← hw1]; simp
  have hD := Hid.mk' (new24 w1)
  have hB2 := Hid.mk' (below_new8 w1 (.cells #[.int .u8 0, .int .u8 0, .int .u8 0, .int .u8 0, .int .u8 0, .int .u8 0, .int .u8 0, .int .u8 0, .int .u8 0, .int .u8 0, .int .u8 0, .int .u8 0, .int .u8 0, .int .u8 0, .int .u8 0, .int .u8 0, .int .u8 0, .int .u8 0, .int .u8 0, .int .u8 0, .int .u8 0, .int .u8 0, .int .u8 0, .int .u8 0] 39))
  obtain ⟨w2, hw2⟩ : ∃ w2, w1.alloc (.cells #[.int .u8 0, .int .u8 0, .int .u8 0, .int .u8 0, .int .u8 0, .int .u8 0, .int .u8 0, .int .u8 0, .int .u8 0, .int .u8 0, .int .u8 0, .int .u8 0, .int .u8 0, .int .u8 0, .int .u8 0, .int .u8 0, .int .u8 0, .int .u8 0, .int .u8 0, .int .u8 0, .int .u8 0, .int .u8 0, .int .u8 0, .int .u8 0] 39) = w2 := ⟨_, rfl⟩
  rw [hw2] at hD hB2
  rw [e1] at hD
  have hA2 := Hid.mk' (hA.out.below hB2.out (by omega))
  have hBB := Hid.mk' (below_to' hB.out hB2.out)
  have hl0 : Hid ((List.replicate 15 (0 : UInt8)).length = 15) := rfl
  have hs15 : Hid ((Try.prog.info? 42).map (·.size) = some (List.replicate 15 (0 : UInt8)).length) := size15
  clear h hl hr20 hq hM hA hB hB2
  generalize tx r = rb at *
  generalize tx l = b at *
  go_enter Try.func14, Try.ntmps14
  go_wp2_with fail
  refine (c1.out _).mono ?_
  rintro e w' ⟨rfl, hw⟩
  subst w'
  clear c1
  go_wp2_with fail
  go_loopw [7, 8, 20] (fun v7 v8 iv wr => ∃ k : Nat, k ≤ 20 ∧ iv = nu k ∧ Hid (Arr wr (w.heap.size + 1) 39 ((r.take k).map ixB ++ List.replicate (24 - k) 0)) ∧ Hid (Arr wr w.heap.size 42 (List.replicate 15 0)) ∧ Hid (∀ j, j < k → (ix (byI r j)).isSome = true) ∧ Hid (Below w.heap.size w wr)) (fun _ _ iv _ => 20 - (intOf iv).toNat)
  case atStart => exact ⟨0, by omega, rfl, hD, hA2, fun j hj => absurd hj (by omega), hBB⟩
  case round =>
    obtain ⟨k, hk, rfl, hDr, hZr, hok, hBr⟩ := hrel
    clear hw1 hw2 hD hA2 hBB e1
    by_cases hq : k < 20
    · have hx := hix.out k hq
      have cI := indexByte_any (byI r k) wr
      have hset := Hid.mk' (ixB_set r k (by rw [HR.out]; exact hq) HR.out)
      cases hc : ix (byI r k) with
      | none =>
        have hxi : ixI (byI r k) = -1 := by unfold ixI; rw [hc]
        rw [hxi] at cI
        have hqf : Hid (q = false) := by
          show _ = _
          rw [hfb.out, hall.out]
          have : (r.all fun c => (ix c).isSome) = false := by
            rw [Bool.eq_false_iff]
            intro ha
            have hkr : k < r.length := by rw [HR.out]; exact hq
            have hm := List.all_eq_true.1 ha r[k] (List.getElem_mem hkr)
            rw [byI_at r k hkr] at hc
            rw [hc] at hm
            simp at hm
          rw [this]; rfl
        clear hset hxi hc
        unfold by1 at hx cI
        generalize (byI r k).toNat = cn at *
        go_wp2_with fail
        refine cI.mono ?_
        rintro e w' ⟨rfl, hw⟩
        subst w'
        go_wp2_with ((with_reducible refine wpList_store_arr ?zg 42 ?zp ?zr ?zo w.heap.size ?zx (List.replicate 15 0) ?zy 42 (List.replicate 15 0) hZr.out rfl hs15.out w w.heap.size hBr.out (Nat.le_refl _) ?zh); (case zg => exact rfl); (case zo => exact rfl); (case zx => exact rfl); (case zy => exact rfl); intro w4 hA4 hB4)
        refine bodyPost_ret (results_row rfl _ _ w.heap.size _ rfl hA4.out hl0.out) rfl ?_
        exact ⟨⟨_, by rw [hqf.out]; rfl, hl0.out, fun h => by rw [hqf.out] at h; exact absurd h (by decide)⟩, hB4.out⟩
      | some d =>
        have hxi : ixI (byI r k) = d := by unfold ixI; rw [hc]
        have hd32 := (ixTo_some (byI r k) 32 d hc).1
        have hdv : ((ixB (byI r k)).toNat : Int) = d := by
          rw [ixB_val]
          unfold ixN
          rw [hc]; rfl
        rw [hxi] at cI
        have hok2 : Hid (∀ j, j < k + 1 → (ix (byI r j)).isSome = true) := fun j hj => by
          by_cases e : j < k
          · exact hok.out j e
          · obtain rfl : j = k := by omega
            rw [hc]; rfl
        have hlen : ((r.take k).map ixB ++ List.replicate (24 - k) (0 : UInt8)).length = 24 := by
          have := HR.out
          simp; omega
        have c0 := hDr.out.cell k (by omega)
        have f0 := hDr.out.free
        have hD2 := Hid.mk' (hDr.out.set k (ixB (byI r k)))
        rw [hset.out] at hD2
        have hZ2 := Hid.mk' (hZr.out.below ((Below.refl (w.heap.size + 1) wr).setCell (p := ⟨w.heap.size + 1, k, none⟩) (Nat.le_refl _) (by1 (ixB (byI r k)))) (by omega))
        have hB2 := Hid.mk' (hBr.out.setCell (p := ⟨w.heap.size + 1, k, none⟩) (Nat.le_succ _) (by1 (ixB (byI r k))))
        generalize byI ((r.take k).map ixB ++ List.replicate (24 - k) (0 : UInt8)) k = z at *
        generalize ixB (byI r k) = y at *
        have hw8 : IntKind.u8.wrap (d : Int) = d := by rw [IntKind.wrap_u8]; omega
        clear hset hxi hc hok hDr hZr hBr hlen
        unfold by1 at *
        rw [hdv] at hD2 hZ2 hB2
        generalize (byI r k).toNat = cn at *
        go_wp2_with fail
        refine cI.mono ?_
        rintro e w' ⟨rfl, hw⟩
        subst w'
        go_wp2
        go_roundw
        case rel => exact ⟨k + 1, by omega, vi (by omega), hD2, hZ2, hok2, hB2⟩
        case measure => simp [intOf]; omega
    · obtain rfl : k = 20 := by omega
      simp only [Int.cast_ofNat_Int]
      rw [List.take_of_length_le (by rw [HR.out]; exact Nat.le_refl _), show 24 - 20 = 4 from rfl] at hDr
      have hal : al = true := by
        rw [hall.out, List.all_eq_true]
        intro c hc
        obtain ⟨j, hj, rfl⟩ := List.getElem_of_mem hc
        have := hok.out j (by rw [HR.out] at hj; exact hj)
        rwa [byI_at r j hj] at this
      have hMlt : M < 32 ^ 20 := by
        rw [htold.out]
        have := nd_lt (r.map ixN) (fun d hd => by
          obtain ⟨c, _, rfl⟩ := List.mem_map.1 hd
          exact ixN_lt c)
        rwa [List.length_map, HR.out] at this
      have hN0 : (((ny (((yd (M * 1048576) 15).drop 12).take 3) : Nat) : Int) == 0) = q := by
        rw [hfb.out, hal, Bool.true_and, ny_part _ 12 3 (by decide), show 15 - 12 - 3 = 0 from rfl, Nat.pow_zero, Nat.div_one, show (256 : Nat) ^ 3 = 16777216 from rfl, Bool.eq_iff_iff, beq_iff_eq, decide_eq_true_iff]
        have := (told_parts M hMlt).2.2.2
        omega
      have hYl : Hid ((yd (M * 1048576) 15).length = 15) := yd_len _ _
      have hDe : dn8 (r.map ixB ++ List.replicate 4 0) = M * 1048576 := by rw [dn8_told, htold.out]
      have hDl : (r.map ixB ++ List.replicate 4 (0 : UInt8)).length = 24 := by simp [HR.out]
      have cR : Hid (∀ wx, Calls Try.prog 25 #[.agg ((r.map ixB ++ List.replicate 4 0).map by1).toArray] wx fun e w' => e = .returned (.agg ((yd (M * 1048576) 15).map by1).toArray) ∧ Below wx.heap.size wx w') := fun wx => by
        have := rowOfDigits_any (r.map ixB ++ List.replicate 4 0) wx hDl (told_dig r)
        rwa [hDe] at this
      have hs24 : Hid ((Try.prog.info? 39).map (·.size) = some (r.map ixB ++ List.replicate 4 (0 : UInt8)).length) := by
        show _ = _
        rw [hDl]; exact size24
      clear hDe hDl hal hMlt hok hfb hall htold hix hs
      generalize r.map ixB ++ List.replicate 4 0 = D at *
      obtain ⟨Y, hY⟩ : ∃ Y, yd (M * 1048576) 15 = Y := ⟨_, rfl⟩
      rw [hY] at hN0 hYl cR
      have HY := Hid.mk' hY
      clear hY
      have cN : Hid (∀ wx H, Arr wx H 42 Y → Calls Try.prog 16 #[.slice (some ⟨H, 12, none⟩) 3 3] wx fun e w' => e = .returned (u8v (ny ((Y.drop 12).take 3))) ∧ Below wx.heap.size wx w') := fun wx H hA => number_any H 12 3 3 _ Y wx (by decide) (by decide) (by rw [hYl.out]; decide) hA
      generalize ny ((Y.drop 12).take 3) = N at *
      have HN0 := Hid.mk' hN0
      clear hN0
      go_wp2_with ((with_reducible refine wpList_load_arr ?qg 39 ?qp ?qo (w.heap.size + 1) ?qx 39 D hDr.out _ Try.underlying39 ?qd hs24.out ?qh); (case qg => exact rfl); (case qo => exact rfl); (case qx => exact rfl); (case qd => exact rfl))
      refine (cR.out _).mono ?_
      rintro e w10 ⟨rfl, hb10⟩
      have hZ10 := Hid.mk' (hZr.out.below hb10 hZr.out.lt)
      have hB10 := Hid.mk' (below_to' hBr.out hb10)
      have hz10 : w.heap.size < w10.heap.size := hZ10.out.lt
      have hN11 := Hid.mk' (new15 w10)
      have hb11 := below_new8 w10 (.cells #[.int .u8 0, .int .u8 0, .int .u8 0, .int .u8 0, .int .u8 0, .int .u8 0, .int .u8 0, .int .u8 0, .int .u8 0, .int .u8 0, .int .u8 0, .int .u8 0, .int .u8 0, .int .u8 0, .int .u8 0] 42)
      have hB11 := Hid.mk' (below_to' hB10.out hb11)
      have hZ11 := Hid.mk' (hZ10.out.below hb11 hz10)
      have hbb : Hid (Below w10.heap.size w10 (w10.alloc (.cells #[.int .u8 0, .int .u8 0, .int .u8 0, .int .u8 0, .int .u8 0, .int .u8 0, .int .u8 0, .int .u8 0, .int .u8 0, .int .u8 0, .int .u8 0, .int .u8 0, .int .u8 0, .int .u8 0, .int .u8 0] 42))) := hb11
      have hle : Hid ((List.replicate 15 (0 : UInt8)).length = Y.length) := by
        show _ = _
        rw [hYl.out]; rfl
      have hsY : Hid ((Try.prog.info? 42).map (·.size) = some Y.length) := by
        show _ = _
        rw [hYl.out]; exact size15
      clear hb10 hb11 hDr hZr hBr cR hB11 hZ11
      go_wp2_with ((with_reducible refine wpList_store_arr ?yg 42 ?yp ?yr ?yo w10.heap.size ?yx Y ?yy 42 (List.replicate 15 0) hN11.out hle.out hsY.out w10 w10.heap.size hbb.out (Nat.le_refl _) ?yh); (case yg => exact rfl); (case yo => exact rfl); (case yx => exact rfl); (case yy => exact rfl); intro w13 hA13 hB13)
      have hlt13 : w10.heap.size < w13.heap.size := hA13.out.lt
      have hZ13 := Hid.mk' (hZ10.out.below hB13.out hz10)
      have hBw := Hid.mk' (below_to' hB10.out hB13.out)
      have hAd : Hid (Arr w13.drew w10.heap.size 42 Y) := hA13
      have hZd : Hid (Arr w13.drew w.heap.size 42 (List.replicate 15 0)) := hZ13
      have hBd : Hid (Below w.heap.size w w13.drew) := hBw.out.drew
      have hzd : w10.heap.size < w13.drew.heap.size := hlt13
      clear hA13 hZ13 hBw hB13 hZ10 hB10 hN11 hbb hle hsY hs24 hs15
      obtain ⟨y0, y1, y2, y3, y4, y5, y6, y7, y8, y9, y10, y11, y12, y13, y14, hYe⟩ := list15 Y hYl.out
      subst hYe
      obtain ⟨q0, q1, q2, q3, q4, q5, q6, q7, q8, q9, q10, q11, q12, q13, q14⟩ := cells15 hAd.out
      have hAn : Hid (∀ wx, Below w13.drew.heap.size w13.drew wx → Arr wx w10.heap.size 42 [y0, y1, y2, y3, y4, y5, y6, y7, y8, y9, y10, y11, y12, y13, y14]) := fun wx hb => hAd.out.below hb hzd
      have hZn : Hid (∀ wx, Below w13.drew.heap.size w13.drew wx → Arr wx w.heap.size 42 (List.replicate 15 0)) := fun wx hb => hZd.out.below hb (Nat.lt_trans hz10 hzd)
      go_region_with (first
        | (go_at_call 26; refine (rest_any _ _).mono ?_; rintro e w' ⟨rfl, rfl⟩)
        | (go_at_call 16; refine (cN.out _ _ hAd.out).mono ?_; rintro e w' ⟨rfl, hbn⟩; have hAw := Hid.mk' (hAn.out _ hbn); have hZw := Hid.mk' (hZn.out _ hbn); obtain ⟨p0, p1, p2, p3, p4, p5, p6, p7, p8, p9, p10, p11, p12, p13, p14⟩ := cells15 hAw.out; obtain ⟨z0, z1, z2, z3, z4, z5, z6, z7, z8, z9, z10, z11, z12, z13, z14⟩ := zeros15 hZw.out; have hfz := hZw.out.free; have hBn := Hid.mk' (below_to' hBd.out hbn); clear hbn)
        | fail)
      all_goals (have hP := Hid.mk' (put15 y0 y1 y2 y3 y4 y5 y6 y7 y8 y9 y10 y11 y12 y13 y14 hZw.out); have hQ := Hid.mk' (below_put15 (H := w.heap.size) y0 y1 y2 y3 y4 y5 y6 y7 y8 y9 y10 y11 y12 y13 y14 hBn.out (Nat.le_refl _)); clear q0 p0 z0 q1 p1 z1 q2 p2 z2 q3 p3 z3 q4 p4 z4 q5 p5 z5 q6 p6 z6 q7 p7 z7 q8 p8 z8 q9 p9 z9 q10 p10 z10 q11 p11 z11 q12 p12 z12 q13 p13 z13 q14 p14 z14 hfz; go_wp2; refine bodyPost_ret (results_row rfl _ _ w.heap.size [y0, y1, y2, y3, y4, y5, y6, y7, y8, y9, y10, y11, y12, y13, y14] rfl hP.out rfl) rfl ?_; exact ⟨⟨[y0, y1, y2, y3, y4, y5, y6, y7, y8, y9, y10, y11, y12, y13, y14], by rw [← HN0.out]; rfl, rfl, fun _ => HY.out.symm⟩, hQ.out⟩)
end Tk
end Go.Proofs.Ytkkpcngdpnoidaa
