/- Layer 22: what is born below a session is no wider than it. -/
import Derived.Test.YtbgggekkkcefcaaDoorGrZb
namespace Go.Proofs.YtbgggekkkcefcaaDoor
set_option linter.ambiguousOpen false
open Go.RowKit
namespace Gr
set_option linter.unusedVariables false
set_option linter.unusedSimpArgs false

theorem link_same (a b : Int) (w : World) : (binOp .eql 29 (.agg #[nu a, nu b]) (.agg #[nu a, nu b])).run Tryd.prog w = .ok (.bool true) w := by
  have hu := Tryd.underlying29
  have hp : Tryd.prog.stoodInHeld 29 = false := by kernel_rfl
  rw [run_eql_struct]
  rw [show (10000 : Nat) = 9999 + 1 from rfl, run_equalIn_agg _ _ _ _ _ (by rw [hu]; simp [Program.fieldsOf, hu]) hp]
  simp only [Program.fieldsOf, hu]
  simp [go_sem, Op.eqFields, part, hp, Tryd.underlying3, Tryd.isAgg3, Tryd.sizeOf3]

theorem link_guard (op : BinOp) (x y : Operand) (a b c d : Int) (w : World) : (eqGuard op 29 x y (.agg #[nu a, nu b]) (.agg #[nu c, nu d])).run Tryd.prog w = .ok () w := run_eqGuard_agg (P := Tryd.prog) w op 29 x y #[nu a, nu b] #[nu c, nu d] (by kernel_rfl)

theorem box_four (w : World) (s p : Sn) (r : Rq) (now births : Int) (full : Bool) : ∃ w4, (((w.alloc (.cells s.arr 31)).alloc (.cells p.arr 31)).alloc (.cells r.arr 25)).alloc (.cells #[nu now, nu births, .bool full] 27) = w4 ∧
    w4.heap[w.heap.size]? = some (.cells s.arr 31) ∧ w4.heap[w.heap.size + 1]? = some (.cells p.arr 31) ∧ w4.heap[w.heap.size + 2]? = some (.cells r.arr 25) ∧ w4.heap[w.heap.size + 3]? = some (.cells #[nu now, nu births, .bool full] 27) ∧ Below w.heap.size w w4 := by
  refine ⟨_, rfl, ?_, ?_, ?_, ?_, (three_below _ _ _ _).alloc (by simp; omega) _⟩
  · rw [heap_alloc_old _ _ (by simp; omega)]
    exact three_0 _ _ _ _
  · rw [heap_alloc_old _ _ (by simp)]
    exact three_1 _ _ _ _
  · rw [heap_alloc_old _ _ (by simp)]
    exact three_at _ _ _ _
  · have := heap_alloc_new (((w.alloc (.cells s.arr 31)).alloc (.cells p.arr 31)).alloc (.cells r.arr 25)) (.cells #[nu now, nu births, .bool full] 27)
    simpa using this

set_option maxRecDepth 100000 in
set_option maxHeartbeats 16000000 in
theorem lbelow_yes (p : Sn) (r : Rq) (now births : Int) (full : Bool) (D k lv : Int) (sc : Nat) (lab : ByteArray) (w : World) (hsc : sc < 18446744073709551616) (hp3 : p.scopes < 18446744073709551616) (hin : inB sc p.scopes = true)
    (h1 : D ≤ p.deadline) (h2 : now < D) (h3 : D - now ≤ r.life) (h0 : 0 ≤ now) (hD : D ≤ 1099511627776) (hb1 : 0 ≤ births) (hb2 : births < 1048576) (hd1 : 0 ≤ p.depth) (hd2 : p.depth < 6) :
    Calls Tryd.prog 17 #[(⟨0, births + 1, p.slot, p.birth, k, p.user, lab, sc, lv, now, D, p.depth + 1⟩ : Sn).v, p.v, r.v, .agg #[nu now, nu births, .bool full]] w fun e w' => e = .returned (.bool true) ∧ Below w.heap.size w w' := by
  have cW := fun wx => within_c sc p.scopes wx hsc hp3
  rw [hin] at cW
  obtain ⟨w4, h4, q0, q1, q2, q3, hB⟩ := box_four w ⟨0, births + 1, p.slot, p.birth, k, p.user, lab, sc, lv, now, D, p.depth + 1⟩ p r now births full
  have H4 : Hid ((((w.alloc (.cells #[nu 0, nu (births + 1), nu p.slot, nu p.birth, nu k, .string p.user, .string lab, su sc, nu lv, nu now, nu D, nu (p.depth + 1)] 31)).alloc (.cells #[nu p.slot, nu p.birth, nu p.us, nu p.ub, nu p.kind, .string p.user, .string p.label, su p.scopes, nu p.level, nu p.born, nu p.deadline, nu p.depth] 31)).alloc (.cells #[.string r.user, .string r.label, su r.scopes, nu r.level, nu r.life] 25)).alloc (.cells #[nu now, nu births, .bool full] 27) = w4) := hidG h4
  have a1 : w4.cell? ⟨w.heap.size, 1, none⟩ = some (nu (births + 1)) := by rw [cell_of_row w4 _ 1 _ _ _ q0]; rfl
  have a2 : w4.cell? ⟨w.heap.size, 2, none⟩ = some (nu p.slot) := by rw [cell_of_row w4 _ 2 _ _ _ q0]; rfl
  have a3 : w4.cell? ⟨w.heap.size, 3, none⟩ = some (nu p.birth) := by rw [cell_of_row w4 _ 3 _ _ _ q0]; rfl
  have a5 : w4.cell? ⟨w.heap.size, 5, none⟩ = some (.string p.user) := by rw [cell_of_row w4 _ 5 _ _ _ q0]; rfl
  have a7 : w4.cell? ⟨w.heap.size, 7, none⟩ = some (su sc) := by rw [cell_of_row w4 _ 7 _ _ _ q0]; rfl
  have a9 : w4.cell? ⟨w.heap.size, 9, none⟩ = some (nu now) := by rw [cell_of_row w4 _ 9 _ _ _ q0]; rfl
  have a10 : w4.cell? ⟨w.heap.size, 10, none⟩ = some (nu D) := by rw [cell_of_row w4 _ 10 _ _ _ q0]; rfl
  have a11 : w4.cell? ⟨w.heap.size, 11, none⟩ = some (nu (p.depth + 1)) := by rw [cell_of_row w4 _ 11 _ _ _ q0]; rfl
  have b0 : w4.cell? ⟨w.heap.size + 1, 0, none⟩ = some (nu p.slot) := by rw [cell_of_row w4 _ 0 _ _ _ q1]; rfl
  have b1 : w4.cell? ⟨w.heap.size + 1, 1, none⟩ = some (nu p.birth) := by rw [cell_of_row w4 _ 1 _ _ _ q1]; rfl
  have b5 : w4.cell? ⟨w.heap.size + 1, 5, none⟩ = some (.string p.user) := by rw [cell_of_row w4 _ 5 _ _ _ q1]; rfl
  have b7 : w4.cell? ⟨w.heap.size + 1, 7, none⟩ = some (su p.scopes) := by rw [cell_of_row w4 _ 7 _ _ _ q1]; rfl
  have b10 : w4.cell? ⟨w.heap.size + 1, 10, none⟩ = some (nu p.deadline) := by rw [cell_of_row w4 _ 10 _ _ _ q1]; rfl
  have b11 : w4.cell? ⟨w.heap.size + 1, 11, none⟩ = some (nu p.depth) := by rw [cell_of_row w4 _ 11 _ _ _ q1]; rfl
  have d4 : w4.cell? ⟨w.heap.size + 2, 4, none⟩ = some (nu r.life) := by rw [cell_of_row w4 _ 4 _ _ _ q2]; rfl
  have x0 : w4.cell? ⟨w.heap.size + 3, 0, none⟩ = some (nu now) := by rw [cell_of_row w4 _ 0 _ _ _ q3]; rfl
  have x1 : w4.cell? ⟨w.heap.size + 3, 1, none⟩ = some (nu births) := by rw [cell_of_row w4 _ 1 _ _ _ q3]; rfl
  have t1 : wrap64 (D - now) = D - now := by unfold wrap64; omega
  have t2 : wrap64 (births + 1) = births + 1 := by unfold wrap64; omega
  have t3 : wrap64 (p.depth + 1) = p.depth + 1 := by unfold wrap64; omega
  have l1 := link_same p.slot p.birth
  have l2 := fun o x y => link_guard o x y p.slot p.birth p.slot p.birth
  have HB := hidG hB
  clear h4 q0 q1 q2 q3 hB hsc hp3 hin h0 hD hb1 hb2 hd1 hd2
  show Calls Tryd.prog 17 #[.agg #[nu 0, nu (births + 1), nu p.slot, nu p.birth, nu k, .string p.user, .string lab, su sc, nu lv, nu now, nu D, nu (p.depth + 1)], .agg #[nu p.slot, nu p.birth, nu p.us, nu p.ub, nu p.kind, .string p.user, .string p.label, su p.scopes, nu p.level, nu p.born, nu p.deadline, nu p.depth], .agg #[.string r.user, .string r.label, su r.scopes, nu r.level, nu r.life], .agg #[nu now, nu births, .bool full]] w _
  go_enter Tryd.func17, Tryd.ntmps17
  go_wp2_with (first | (rw [H4.out]) | (go_at_call 39; refine (cW _).mono ?_; rintro e w9 ⟨rfl, rfl⟩) | fail)
  go_ret
  exact ⟨rfl, HB.out⟩
end Gr
end Go.Proofs.YtbgggekkkcefcaaDoor
