/- What each law without the document's answer asks first; who has what, kept by counting. -/
import Derived.Test.YtalpbciceogjlaaDoorArnK
namespace Go.Proofs.YtalpbciceogjlaaDoor
set_option linter.ambiguousOpen false
open Go.RowKit
namespace An
open Ft Lv
set_option linter.unusedSimpArgs false
set_option linter.unusedVariables false

theorem Left.below {Rep : World → Nat → (Nat → Prop) → Arn → Prop} {w w' : World} {p B : Nat} {F : Nat → Prop} {A : Arn} (h : Left Rep w w' p F A) (hF : ∀ k, F k → B ≤ k) (hB : B ≤ w.heap.size) : ∃ G, Rep w' p G A ∧ (∀ k, G k → B ≤ k) ∧ Below B w w' := by
  obtain ⟨G, h1, h2, h3⟩ := h
  exact ⟨G, h1, fun k hk => (h3 k hk).elim (hF k) (fun h => Nat.le_trans hB h), h2.below (fun k hk hc => by have := hF k hc; omega) hB⟩

theorem neq_func_nil (gf : Nat) (lb : Array Value) (w : World) : (binOp BinOp.neq 42 (.func (.func gf) #[] lb) .nilFunc).run Tryd.prog w = .ok (.bool true) w := by kernel_rfl

/-- Which slots are taken. -/
def tk (fr : List Nat) : List Value := (List.range 32).map fun i => .bool (decide (i ∉ fr))

theorem tk_at (fr : List Nat) (i : Nat) (h : i < 32) : (tk fr)[i]? = some (.bool (decide (i ∉ fr))) := by
  unfold tk
  rw [List.getElem?_map, List.getElem?_range h]
  rfl

theorem tk_len (fr : List Nat) : (tk fr).length = 32 := by simp [tk]

theorem tk_set (fr fr' : List Nat) (k : Nat) (b : Bool) (hb : b = decide (k ∉ fr')) (h : ∀ i, i < 32 → i ≠ k → (i ∈ fr' ↔ i ∈ fr)) : (tk fr).set k (.bool b) = tk fr' := by
  apply List.ext_getElem?
  intro i
  rcases Nat.lt_or_ge i 32 with hi | hi
  · rw [tk_at fr' i hi]
    by_cases e : k = i
    · subst e
      rw [List.getElem?_set_self (by rw [tk_len]; exact hi), hb]
    · rw [List.getElem?_set_ne e, tk_at fr i hi]
      congr 2
      exact decide_eq_decide.2 (by rw [h i hi (fun h => e h.symm)])
  · rw [List.getElem?_eq_none (by rw [List.length_set, tk_len]; exact hi), List.getElem?_eq_none (by rw [tk_len]; exact hi)]

theorem tk_new : tk (List.range 32) = List.replicate 32 (.bool false) := by kernel_rfl

/-- An act in a variable of its own. -/
@[reducible] def actZ0 : Array Value := #[nu 0, nu 0, .bool false, .bool false, nu 0, nu 0, nu 0, nu 0, nu 0, nu 0, nu 0, nu 0, .string ⟨#[]⟩, .string ⟨#[]⟩, .int .u64 0, nu 0, nu 0, nu 0, nu 0]

set_option maxRecDepth 100000 in
theorem wpList_store_act {ops : Array Oper} {rest : List Oper} {op : Oper} {a : Act} {w : World} {Q : Exit → Act → World → Prop} (hgd : op.guard = none) (x y : Operand) (ho : op.op = .store 38 x y)
    (b : Nat) (hx : a.eval x = .pointer (some ⟨b, 0, none⟩)) (k n : Int) (s : Slt) (hy : a.eval y = .agg (actL k n s).toArray) (k' n' : Int) (s' : Slt) (hz : LoneA w b k' n' s')
    (h : ∀ w', LoneA w' b k n s → w.grownBy w' (some b) → w'.heap.size = w.heap.size → wpList Tryd.prog ops Q rest (a.put op.dst undef) w') : wpList Tryd.prog ops Q (op :: rest) a w := by
  refine wpList_plain hgd fun K hK => ?_
  have hone : (actL k n s).toArray.all (·.oneCell') = true := all_oneCell_toArray (by
    intro u hu
    simp [actL] at hu
    rcases hu with rfl | rfl | rfl | rfl | rfl | rfl | rfl | rfl | rfl | rfl | rfl | rfl | rfl | rfl | rfl | rfl | rfl | rfl | rfl <;> rfl)
  have hrun := run_storeVar_row (P := Tryd.prog) w b _ 38 (actL k' n' s').toArray (actL k n s).toArray hz size_act rfl hone
  have hk := hK _ _ (h (w.setRow b (actL k n s).toArray) (setRow_heap w b _ _ _ _ hz) ⟨rfl, rfl, rfl, by simp, fun k hk hn => setRow_other _ _ _ _ (fun e => hn (by rw [e]))⟩ (by simp))
  unfold Oper.wp execOp
  simp only [ho, hx, hy, Instr.storeAt, Instr.sureAddr, Sem.run_bind, Sem.run_pure, Result.andThen_ok, hrun]
  exact hk

theorem loneA_zero (w : World) : LoneA (w.alloc (.cells actZ0 38)) w.heap.size 0 0 slt0 := heap_alloc_new _ _

theorem LoneA.range {w : World} {b : Nat} {k n : Int} {x : Slt} (h : LoneA w b k n x) : w.rangeAt b 2 x.cells := fun j v hv => by
  rw [cell_of_row w b (2 + j) _ _ _ h]
  have : (actL k n x)[2 + j]? = x.cells[j]? := by
    rw [Nat.add_comm]
    rfl
  simpa [this] using hv

theorem LoneA.below {w w' : World} {b : Nat} {k n : Int} {x : Slt} (h : LoneA w b k n x) (hb : Below w.heap.size w w') : LoneA w' b k n x := (hb.block b (Array.getElem?_eq_some_iff.1 h).1).trans h
end An
end Go.Proofs.YtalpbciceogjlaaDoor
