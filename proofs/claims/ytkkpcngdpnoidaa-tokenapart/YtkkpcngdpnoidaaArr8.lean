/- The program's rows of bytes: fill and number. -/
import Derived.Test.YtkkpcngdpnoidaaBytes8
import Derived.Laws.CopyOwn
import Derived.Deep.MidRow
namespace Go.Proofs.Ytkkpcngdpnoidaa
set_option linter.ambiguousOpen false
open Go.RowKit
namespace Tk
open Sm
set_option linter.unusedSimpArgs false
set_option linter.unusedVariables false

/-- Bytes that lie in a block. -/
def Arr (w : World) (H : Nat) (T : TypeId) (l : List UInt8) : Prop := w.heap[H]? = some (.cells (l.map by1).toArray T)

theorem Arr.lt {w : World} {H : Nat} {T : TypeId} {l : List UInt8} (h : Arr w H T l) : H < w.heap.size := (Array.getElem?_eq_some_iff.1 h).1

theorem Arr.cell {w : World} {H : Nat} {T : TypeId} {l : List UInt8} (h : Arr w H T l) (j : Nat) (hj : j < l.length) : w.cell? ⟨H, j, none⟩ = some (by1 (byI l j)) := by
  unfold Arr at h
  rw [byI_at l j hj]
  simp [World.cell?, h, hj]

theorem Arr.free {w : World} {H : Nat} {T : TypeId} {l : List UInt8} (h : Arr w H T l) (i : Nat) : w.frozen? ⟨H, i, none⟩ = false := by
  unfold Arr at h
  simp [World.frozen?, h]

theorem Arr.set {w : World} {H : Nat} {T : TypeId} {l : List UInt8} (h : Arr w H T l) (j : Nat) (y : UInt8) : Arr (w.setCell ⟨H, j, none⟩ (by1 y)) H T (l.set j y) := by
  have := heap_setCell_same _ H j _ _ (by1 y) h
  unfold Arr
  rw [List.map_set, ← List.setIfInBounds_toArray]
  exact this

theorem Arr.below {w w' : World} {H : Nat} {T : TypeId} {l : List UInt8} (h : Arr w H T l) {B : Nat} (hb : Below B w w') (hB : H < B) : Arr w' H T l := (hb.block _ hB).trans h

theorem Arr.new (w : World) (T : TypeId) (l : List UInt8) : Arr (w.alloc (.cells (l.map by1).toArray T)) w.heap.size T l := heap_alloc_new _ _

theorem Arr.range {w : World} {H : Nat} {T : TypeId} {l : List UInt8} (h : Arr w H T l) (o k : Nat) (hk : o + k ≤ l.length) : w.rangeAt H o (((l.drop o).take k).map by1) := by
  intro j v hv
  rw [List.getElem?_map] at hv
  obtain ⟨c, hc, rfl⟩ := Option.map_eq_some_iff.1 hv
  obtain ⟨h1, h2⟩ := List.getElem?_eq_some_iff.1 hc
  rw [List.length_take, List.length_drop] at h1
  rw [h.cell (o + j) (by omega), byI_at l _ (by omega), ← h2, List.getElem_take, List.getElem_drop]

theorem Arr.load' {w : World} {H : Nat} {T : TypeId} {l : List UInt8} (h : Arr w H T l) (ty : TypeId) (d : TypeDesc) (hu : Try.prog.underlying ty = some d) (hd : d.isRow = true) (hi : (Try.prog.info? ty).map (·.size) = some l.length) :
    (Instr.loadAt ty (.pointer (some ⟨H, 0, none⟩))).run Try.prog w = .ok (.agg (l.map by1).toArray) w := by
  have := h.range 0 l.length (by omega)
  rw [List.drop_zero, List.take_length] at this
  exact run_loadAt_mid w H 0 ty (l.map by1) d this hu hd (by simpa using hi)

/-- What lies in a row behind cells that are laid over it. -/
def lay (l : List UInt8) (o : Nat) (m : List UInt8) : List UInt8 := l.take o ++ (m ++ l.drop (o + m.length))

theorem lay_len (l m : List UInt8) (o : Nat) (h : o + m.length ≤ l.length) : (lay l o m).length = l.length := by
  simp [lay]; omega

theorem splice_lay (l m : List UInt8) (o : Nat) : splice (l.map by1) o (m.map by1) = (lay l o m).map by1 := by
  simp [splice, lay]

theorem part_cut (l : List UInt8) (o k : Nat) (h : o + k ≤ l.length) : ((l.drop o).take k).length = k := by
  rw [List.length_take, List.length_drop]; omega

/-- Cutting an array of eight from a place on. -/
theorem cut8 (b k : Nat) (h0 : 0 < k) (h : k ≤ 8) (w : World) : (Instr.sliceAt 56 (.pointer (some ⟨b, 0, none⟩)) (some (.int .i64 ((8 : Int) - k))) none none).run Try.prog w = .ok (.slice (some ⟨b, 8 - k, none⟩) k k) w := by
  have hk : k = 1 ∨ k = 2 ∨ k = 3 ∨ k = 4 ∨ k = 5 ∨ k = 6 ∨ k = 7 ∨ k = 8 := by omega
  rcases hk with rfl | rfl | rfl | rfl | rfl | rfl | rfl | rfl <;> simp [Instr.sliceAt, Instr.sureAddr, Instr.sliceBounds, Instr.sliceBound, asIntOf, run_underlying Try.underlying56, Addr.add, Try.sizeOf5]

/-- A number's next byte. -/
theorem or_next (n : Nat) (c : UInt8) (h : n < 72057594037927936) : bits .or .u64 ((n : Int) * 256) (IntKind.u64.wrap (c.toNat : Int)) = ((256 * n + c.toNat : Nat) : Int) := by
  have hc : c.toNat < 256 := UInt8.toNat_lt c
  have e : IntKind.u64.wrap (c.toNat : Int) = (c.toNat : Int) := by rw [IntKind.wrap_u64]; omega
  have e2 : (n : Int) * 256 = ((256 * n : Nat) : Int) := by omega
  have := u64_or_nat (256 * n) c.toNat (by omega) (by omega)
  rw [e, e2, this, show 256 * n ||| c.toNat = 256 * n + c.toNat from by
    have := Nat.two_pow_add_eq_or_of_lt (i := 8) (b := c.toNat) (by simpa using hc) n
    simpa using this.symm]

theorem ny_take (l : List UInt8) (k : Nat) (h : k < l.length) : ny (l.take (k + 1)) = 256 * ny (l.take k) + (byI l k).toNat := by
  rw [List.take_succ_eq_append_getElem h, ny_snoc, byI_at l k h]

set_option maxRecDepth 100000 in
theorem idx8 (l : List UInt8) (hl : l.length = 8) (j : Nat) (hj : j < 8) (w : World) : (Instr.index 56 (.agg (l.map by1).toArray) (.int .i64 (j : Int))).run Try.prog w = .ok (by1 (byI l j)) w := by
  match l, hl with
  | [a, b, c, d, e, f, g, h], _ =>
    have hk : j = 0 ∨ j = 1 ∨ j = 2 ∨ j = 3 ∨ j = 4 ∨ j = 5 ∨ j = 6 ∨ j = 7 := by omega
    rcases hk with rfl | rfl | rfl | rfl | rfl | rfl | rfl | rfl <;> simp [Instr.index, asIntOf, run_underlying Try.underlying56, Try.isAgg5, Try.sizeOf5, byI, part]

theorem size8 : (Try.prog.info? 56).map (·.size) = some 8 := by kernel_rfl

theorem size_byte : (Try.prog.info? 5).map (·.size) = some 1 := by kernel_rfl

theorem zero8 : (#[.int .u8 0, .int .u8 0, .int .u8 0, .int .u8 0, .int .u8 0, .int .u8 0, .int .u8 0, .int .u8 0] : Array Value) = ((List.replicate 8 0 : List UInt8).map by1).toArray := rfl

/-- Eight noughts that are new. -/
theorem new8 (w : World) : Arr (w.alloc (.cells #[.int .u8 0, .int .u8 0, .int .u8 0, .int .u8 0, .int .u8 0, .int .u8 0, .int .u8 0, .int .u8 0] 56)) w.heap.size 56 (List.replicate 8 0) := by
  rw [zero8]
  exact Arr.new _ _ _

theorem below_new8 (w : World) (o : Obj) : Below w.heap.size w (w.alloc o) := (Below.refl _ _).alloc (Nat.le_refl _) _

/-- What copy does, on rows of bytes. -/
theorem copy_arr (w : World) (g off n dCap sg soff sCap : Nat) (T : TypeId) (l m : List UInt8) (hA : Arr w g T l) (hm : m.length = n) (hr : w.rangeAt sg soff (m.map by1)) (hfit : off + n ≤ l.length) (w0 : World) (B : Nat) (hb : Below B w0 w) (hBg : B ≤ g) :
    ∃ w', (Builtin.copy_ #[44, 44] 3 #[.slice (some ⟨g, off, none⟩) n dCap, .slice (some ⟨sg, soff, none⟩) n sCap]).run Try.prog w = .ok (.int .i64 (n : Int)) w' ∧ Hid (Arr w' g T (lay l off m)) ∧ Hid (Below B w0 w') := by
  have e : (m.map by1).length = n := by simp [hm]
  have h := run_copy_row Try.prog w 44 44 3 5 g off n dCap ⟨sg, soff, none⟩ n sCap (l.map by1).toArray T (m.map by1) Try.underlying44 size_byte hA (by rw [e]; exact (Nat.min_self n).symm) (fun j v hv => by rw [Addr.add_mid]; exact hr j v hv) (by simpa [hm] using hfit) (fun v hv => by
    obtain ⟨c, _, rfl⟩ := List.mem_map.1 hv
    rfl)
  rw [e] at h
  refine ⟨_, h, ?_, below_setRow hb hBg _⟩
  have := setRow_heap w g _ (((l.map by1).toArray.toList.take off ++ m.map by1 ++ (l.map by1).toArray.toList.drop (off + n)).toArray) T _ hA
  refine Eq.trans this ?_
  simp [lay, hm]

theorem wpList_load_arr {ops : Array Oper} {rest : List Oper} {op : Oper} {a : Act} {w : World} {Q : Exit → Act → World → Prop} (hgd : op.guard = none) (ty : TypeId) (x : Operand) (ho : op.op = .load ty x)
    (H : Nat) (hx : a.eval x = .pointer (some ⟨H, 0, none⟩)) (T : TypeId) (l : List UInt8) (hA : Arr w H T l) (d : TypeDesc) (hu : Try.prog.underlying ty = some d) (hd : d.isRow = true) (hi : (Try.prog.info? ty).map (·.size) = some l.length)
    (h : wpList Try.prog ops Q rest (a.put op.dst (.agg (l.map by1).toArray)) w) : wpList Try.prog ops Q (op :: rest) a w := by
  have hr := hA.range 0 l.length (by omega)
  rw [List.drop_zero, List.take_length] at hr
  exact wpList_load_mid hgd ty x ho H 0 hx (l.map by1) d hr hu hd (by simpa using hi) h

theorem one_bytes (m : List UInt8) : (m.map by1).toArray.all (·.oneCell') = true := all_oneCell_toArray (fun v hv => by
  obtain ⟨c, _, rfl⟩ := List.mem_map.1 hv
  rfl)

theorem wpList_store_arr {ops : Array Oper} {rest : List Oper} {op : Oper} {a : Act} {w : World} {Q : Exit → Act → World → Prop} (hgd : op.guard = none) (ty : TypeId) (x y : Operand) (ho : op.op = .store ty x y)
    (H : Nat) (hx : a.eval x = .pointer (some ⟨H, 0, none⟩)) (m : List UInt8) (hy : a.eval y = .agg (m.map by1).toArray) (T : TypeId) (l : List UInt8) (hA : Arr w H T l) (hl : l.length = m.length) (hi : (Try.prog.info? ty).map (·.size) = some m.length) (w0 : World) (B : Nat) (hb : Below B w0 w) (hBH : B ≤ H)
    (h : ∀ w', Hid (Arr w' H T m) → Hid (Below B w0 w') → wpList Try.prog ops Q rest (a.put op.dst undef) w') : wpList Try.prog ops Q (op :: rest) a w := by
  refine wpList_plain hgd fun K hK => ?_
  have hrun := run_storeVar_row (P := Try.prog) w H T ty (l.map by1).toArray (m.map by1).toArray hA (by simpa using hi) (by simpa using hl) (one_bytes m)
  have hk := hK _ _ (h (w.setRow H (m.map by1).toArray) (show _ = _ from setRow_heap w H _ _ T _ hA) (below_setRow hb hBH _))
  unfold Oper.wp execOp
  simp only [ho, hx, hy, Instr.storeAt, Instr.sureAddr, Sem.run_bind, Sem.run_pure, Result.andThen_ok, hrun]
  exact hk

theorem box_arr (ty : TypeId) (l : List UInt8) (hi : (Try.prog.info? ty).map (·.size) = some l.length) (w : World) : (Instr.box ty (.agg (l.map by1).toArray)).run Try.prog w = .ok (.pointer (some ⟨w.heap.size, 0, none⟩)) (w.alloc (.cells (l.map by1).toArray ty)) := by
  cases hq : Try.prog.info? ty with
  | none => simp [hq] at hi
  | some i =>
    have hs : i.size = l.length := by simpa [hq] using hi
    simp [Instr.box, newVar, newRow, Value.cells]

set_option maxHeartbeats 2000000 in
set_option maxRecDepth 100000 in
theorem number_any (H o k cap : Nat) (T : TypeId) (l : List UInt8) (w : World) (hk0 : 0 < k) (hk : k ≤ 8) (ho : o + k ≤ l.length) (h : Arr w H T l) :
    Calls Try.prog 16 #[.slice (some ⟨H, o, none⟩) k cap] w fun e w' => e = .returned (u8v (ny ((l.drop o).take k))) ∧ Below w.heap.size w w' := by
  have hA0 := Hid.mk' (new8 w)
  have hB0 := Hid.mk' (below_new8 w (.cells #[.int .u8 0, .int .u8 0, .int .u8 0, .int .u8 0, .int .u8 0, .int .u8 0, .int .u8 0, .int .u8 0] 56))
  have hA1 := h.below hB0.out h.lt
  have hr := Hid.mk' (hA1.range o k ho)
  have hpl := Hid.mk' (part_cut l o k ho)
  clear hA1 h ho
  obtain ⟨m, hm⟩ : ∃ m, (l.drop o).take k = m := ⟨_, rfl⟩
  rw [hm] at hr hpl ⊢
  clear hm
  have hcut := cut8 w.heap.size k hk0 hk
  have hny : Hid (ny (lay (List.replicate 8 0) (8 - k) m) = ny m ∧ (lay (List.replicate 8 0) (8 - k) m).length = 8) := by
    have e : lay (List.replicate 8 0) (8 - k) m = List.replicate (8 - k) 0 ++ m := by
      unfold lay
      rw [List.take_replicate, hpl.out, show min (8 - k) 8 = 8 - k by omega, List.drop_of_length_le (by simp; omega), List.append_nil]
    refine ⟨by rw [e, ny_zeros], by rw [e]; simp [hpl.out]; omega⟩
  have hi8 : Hid (∀ j : Nat, j < 8 → ∀ w, (Instr.index 56 (.agg ((lay (List.replicate 8 0) (8 - k) m).map by1).toArray) (.int .i64 (j : Int))).run Try.prog w = .ok (by1 (byI (lay (List.replicate 8 0) (8 - k) m) j)) w) := fun j hj w => idx8 (lay (List.replicate 8 0) (8 - k) m) hny.out.2 j hj w
  obtain ⟨w2, hcp, hA2, hB2⟩ := copy_arr _ w.heap.size (8 - k) k k H o cap 56 _ m hA0.out hpl.out hr.out (by simp; omega) w w.heap.size hB0.out (Nat.le_refl _)
  obtain ⟨L, hL⟩ : ∃ L, lay (List.replicate 8 0) (8 - k) m = L := ⟨_, rfl⟩
  rw [hL] at hA2 hny
  have hi9 : Hid (∀ j : Nat, j < 8 → ∀ w, (Instr.index 56 (.agg (L.map by1).toArray) (.int .i64 (j : Int))).run Try.prog w = .ok (by1 (byI L j)) w) := fun j hj w => by rw [← hL]; exact hi8.out j hj w
  have hs8 : Hid ((Try.prog.info? 56).map (·.size) = some L.length) := by
    show _ = _
    rw [hny.out.2]; exact size8
  obtain ⟨N, hN⟩ : ∃ N, ny m = N := ⟨_, rfl⟩
  rw [hN] at hny ⊢
  clear hA0 hB0 hi8 hpl hr hL hN
  go_enter Try.func16, Try.ntmps16
  go_wp2_with ((with_reducible refine wpList_load_arr ?qg 56 ?qp ?qo w.heap.size ?qx 56 L hA2.out _ Try.underlying56 ?qd hs8.out ?qh); (case qg => exact rfl); (case qo => exact rfl); (case qx => exact rfl); (case qd => exact rfl); generalize (L.map by1).toArray = A at *)
  go_loopw [4, 14] (fun nv iv wr => ∃ k : Nat, k ≤ 8 ∧ iv = nu k ∧ nv = u8v (ny (L.take k)) ∧ Hid (wr = w2)) (fun _ iv _ => 8 - (intOf iv).toNat)
  case atStart => exact ⟨0, by omega, rfl, rfl, rfl⟩
  case round =>
    obtain ⟨j, hj, rfl, rfl, hwr⟩ := hrel
    by_cases hq : j < 8
    · have hx := hi9.out j hq
      have hS := Hid.mk' (ny_take L j (by rw [hny.out.2]; exact hq))
      have hlt : ny (L.take j) < 72057594037927936 := by
        have h1 := ny_lt (L.take j)
        have h2 : (L.take j).length ≤ 7 := by rw [List.length_take]; omega
        have h3 := Nat.pow_le_pow_right (n := 256) (by decide) h2
        exact Nat.lt_of_lt_of_le h1 (by simpa using h3)
      generalize ny (L.take j) = n at *
      generalize byI L j = c at *
      have hor := Hid.mk' (or_next n c hlt)
      unfold by1 at hx
      go_wp2
      go_roundw
      case rel => exact ⟨j + 1, by omega, vi (by omega), by rw [hS.out]; exact vi hor.out, hwr⟩
      case measure => simp [intOf]; omega
    · obtain rfl : j = 8 := by omega
      have hT : Hid (L.take 8 = L) := List.take_of_length_le (by rw [hny.out.2]; exact Nat.le_refl _)
      rw [hT.out, hny.out.1]
      go_wp2
      go_ret
      exact ⟨rfl, by rw [hwr.out]; exact hB2.out⟩

/-- A byte of a number. -/
theorem byte_val (x i : Nat) : ((UInt8.ofNat (x / 256 ^ i % 256)).toNat : Int) = (x : Int) / 2 ^ (8 * i) % 256 := by
  rw [of_toNat, show (256 : Nat) = 2 ^ 8 from rfl, ← Nat.pow_mul]
  simp

theorem yd_set (x k : Nat) (h : k < 8) : (List.replicate (8 - k) 0 ++ (yd x 8).drop (8 - k)).set (7 - k) (UInt8.ofNat (x / 256 ^ k % 256)) = List.replicate (8 - (k + 1)) 0 ++ (yd x 8).drop (8 - (k + 1)) := by
  have e1 : List.replicate (8 - k) (0 : UInt8) = List.replicate (7 - k) 0 ++ [0] := by
    rw [show 8 - k = (7 - k) + 1 by omega, List.replicate_succ']
  have e2 : (yd x 8).drop (8 - (k + 1)) = UInt8.ofNat (x / 256 ^ k % 256) :: (yd x 8).drop (8 - k) := by
    have h1 : 7 - k < (yd x 8).length := by rw [yd_len]; omega
    rw [show 8 - (k + 1) = 7 - k by omega, List.drop_eq_getElem_cons h1, show 7 - k + 1 = 8 - k by omega]
    congr 1
    have h2 := yd_at x 8 (7 - k) (by omega)
    rw [List.getElem?_eq_getElem h1, Option.some.injEq] at h2
    rw [h2, show 8 - 1 - (7 - k) = k by omega]
  rw [e1, e2, List.append_assoc, show 8 - (k + 1) = 7 - k by omega, List.set_append_right _ _ (by simp)]
  simp

theorem yd_cut (x k : Nat) (h : k ≤ 8) : (yd x 8).drop (8 - k) = yd x k := by
  have e : yd x 8 = yd (x / 256 ^ k) (8 - k) ++ yd x k := by
    rw [← yd_split, show 8 - k + k = 8 by omega]
  rw [e, List.drop_append_of_le_length (by rw [yd_len]; exact Nat.le_refl _), List.drop_of_length_le (by rw [yd_len]; exact Nat.le_refl _), List.nil_append]

set_option maxHeartbeats 2000000 in
set_option maxRecDepth 100000 in
theorem fill_any (H o k cap : Nat) (T : TypeId) (l : List UInt8) (x : Nat) (w : World) (hk0 : 0 < k) (hk : k ≤ 8) (ho : o + k ≤ l.length) (h : Arr w H T l) (hx : x < 18446744073709551616) :
    Calls Try.prog 19 #[.slice (some ⟨H, o, none⟩) k cap, u8v x] w fun e w' => (∃ v, e = .returned v) ∧ Arr w' H T (lay l o (yd x k)) ∧ Below H w w' := by
  have hA0 := Hid.mk' (new8 w)
  have hB0 := Hid.mk' (below_new8 w (.cells #[.int .u8 0, .int .u8 0, .int .u8 0, .int .u8 0, .int .u8 0, .int .u8 0, .int .u8 0, .int .u8 0] 56))
  have hcut := cut8 w.heap.size k hk0 hk
  have hA1 : Hid (Arr (w.alloc (.cells #[.int .u8 0, .int .u8 0, .int .u8 0, .int .u8 0, .int .u8 0, .int .u8 0, .int .u8 0, .int .u8 0] 56)) w.heap.size 56 (List.replicate (8 - 0) 0 ++ (yd x 8).drop (8 - 0))) := by
    have e : (yd x 8).drop (8 - 0) = [] := List.drop_of_length_le (by rw [yd_len]; exact Nat.le_refl _)
    rw [e, List.append_nil]
    exact hA0
  have HA := Hid.mk' h
  have hHw := h.lt
  clear h hA0
  go_enter Try.func19, Try.ntmps19
  go_wp2
  go_loopw [5, 6] (fun i5 iv wr => ∃ j : Nat, j ≤ 8 ∧ iv = nu j ∧ Hid (Arr wr w.heap.size 56 (List.replicate (8 - j) 0 ++ (yd x 8).drop (8 - j))) ∧ Hid (Below w.heap.size w wr)) (fun _ iv _ => 8 - (intOf iv).toNat)
  case atStart => exact ⟨0, by omega, rfl, hA1, hB0⟩
  case round =>
    obtain ⟨j, hj, rfl, hA, hB⟩ := hrel
    by_cases hq : j < 8
    · have hlen : (List.replicate (8 - j) (0 : UInt8) ++ (yd x 8).drop (8 - j)).length = 8 := by simp [yd_len]
      have c0 := hA.out.cell (7 - j) (by rw [hlen]; omega)
      have f0 := hA.out.free
      have hv := byte_val x j
      have hA2 := Hid.mk' (hA.out.set (7 - j) (UInt8.ofNat (x / 256 ^ j % 256)))
      have hB2 := Hid.mk' (hB.out.setCell (p := ⟨w.heap.size, 7 - j, none⟩) (Nat.le_refl _) (by1 (UInt8.ofNat (x / 256 ^ j % 256))))
      rw [yd_set x j hq] at hA2
      generalize UInt8.ofNat (x / 256 ^ j % 256) = y at *
      generalize byI (List.replicate (8 - j) (0 : UInt8) ++ (yd x 8).drop (8 - j)) (7 - j) = z at *
      clear hlen hA hB
      unfold by1 at *
      rw [hv] at hA2 hB2
      obtain ⟨i, hi, hi'⟩ : ∃ i : Nat, 7 - (j : Int) = i ∧ 7 - j = i := ⟨7 - j, by omega, rfl⟩
      rw [hi'] at hA2 hB2 c0
      have hi8 : i < 8 := by omega
      have h64 : 8 * (j : Int) < 64 := by omega
      clear hv hi'
      go_wp2
      go_roundw
      case rel => exact ⟨j + 1, by omega, by go_num, hA2, hB2⟩
      case measure => simp [intOf]; omega
    · obtain rfl : j = 8 := by omega
      simp only [Int.cast_ofNat_Int]
      have hA8 := hA.out
      rw [show 8 - 8 = 0 from rfl, List.replicate_zero, List.nil_append, List.drop_zero] at hA8
      have hr := hA8.range (8 - k) k (by rw [yd_len]; omega)
      rw [yd_cut x k hk, List.take_of_length_le (by rw [yd_len]; exact Nat.le_refl _)] at hr
      have hBH : Below H w wr := hB.out.mono (by omega)
      obtain ⟨w2, hcp, hA2, hB2⟩ := copy_arr wr H o k cap w.heap.size (8 - k) k T l (yd x k) (HA.out.below hB.out hHw) (yd_len x k) hr ho w H hBH (Nat.le_refl _)
      clear hA8 hr hBH hA hB hj
      go_wp2
      go_end0
      exact ⟨⟨_, rfl⟩, hA2.out, hB2.out⟩
end Tk
end Go.Proofs.Ytkkpcngdpnoidaa
