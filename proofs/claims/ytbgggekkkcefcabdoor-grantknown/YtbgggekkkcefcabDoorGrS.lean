/- Layer 22: a session stored and loaded whole, where its block is known. -/
import Derived.Test.YtbgggekkkcefcabDoorGrB
namespace Go.Proofs.YtbgggekkkcefcabDoor
set_option linter.ambiguousOpen false
open Go.RowKit
namespace Gr
set_option linter.unusedVariables false
set_option linter.unusedSimpArgs false

theorem setCell_off (w : World) (k : Nat) (v : Value) {b g : Nat} (n : ¬ b = g) : (w.setCell ⟨b, k, none⟩ v).heap[g]? = w.heap[g]? :=
  heap_setCell_other w ⟨b, k, none⟩ g v (fun e => n e.symm)

theorem hidG {p : Prop} (h : p) : Hid p := h

theorem all_oneN (s : Sn) : (s.arr.all fun x => x.oneCell') = true := by simp [Sn.arr, Value.oneCell']

theorem wpList_store_sn {ops : Array Oper} {rest : List Oper} {op : Oper} {a : Act} {w : World} {Q : Exit → Act → World → Prop} (hgd : op.guard = none) (x y : Operand) (ho : op.op = .store 28 x y)
    (b : Nat) (hx : a.eval x = .pointer (some ⟨b, 0, none⟩)) (s z : Sn) (hy : a.eval y = s.v) (hz : w.heap[b]? = some (.cells z.arr 28))
    (h : ∀ w', w'.heap[b]? = some (.cells s.arr 28) → w.grownBy w' (some b) → wpList Tryd.prog ops Q rest (a.put op.dst undef) w') : wpList Tryd.prog ops Q (op :: rest) a w := by
  refine wpList_plain hgd fun K hK => ?_
  have hrun := run_storeVar_row (P := Tryd.prog) w b _ 28 z.arr s.arr hz size_sn rfl (all_oneN s)
  have hk := hK _ _ (h (w.setRow b s.arr) (setRow_heap w b _ _ _ _ hz) ⟨rfl, rfl, rfl, by simp, fun k hk hn => setRow_other _ _ _ _ (fun e => hn (by rw [e]))⟩)
  unfold Oper.wp execOp
  simp only [ho, hx, hy, Sn.v, Instr.storeAt, Instr.sureAddr, Sem.run_bind, Sem.run_pure, Result.andThen_ok, hrun]
  exact hk

theorem wpList_load_sn {ops : Array Oper} {rest : List Oper} {op : Oper} {a : Act} {w : World} {Q : Exit → Act → World → Prop} (hgd : op.guard = none) (x : Operand) (ho : op.op = .load 28 x)
    (b : Nat) (hx : a.eval x = .pointer (some ⟨b, 0, none⟩)) (s : Sn) (hz : w.heap[b]? = some (.cells s.arr 28))
    (h : wpList Tryd.prog ops Q rest (a.put op.dst s.v) w) : wpList Tryd.prog ops Q (op :: rest) a w :=
  wpList_load_mid hgd 28 x ho b 0 hx s.arr.toList _ (fun j v hv => by rw [Nat.zero_add, cell_of_row w b j _ _ _ hz]; simpa using hv) Tryd.underlying28 rfl size_sn h

theorem three_0 (w : World) (a b c : Obj) : (((w.alloc a).alloc b).alloc c).heap[w.heap.size]? = some a := by
  have h1 : ((w.alloc a).alloc b).heap[w.heap.size]? = some a := by
    rw [heap_alloc_old _ _ (by simp)]
    exact heap_alloc_new _ _
  rw [heap_alloc_old _ _ (by simp; omega)]
  exact h1

theorem three_1 (w : World) (a b c : Obj) : (((w.alloc a).alloc b).alloc c).heap[w.heap.size + 1]? = some b := by
  rw [heap_alloc_old _ _ (by simp)]
  exact two_at w a b

theorem three_off {w w2 : World} {a b c : Obj} (hb : Below (((w.alloc a).alloc b).alloc c).heap.size (((w.alloc a).alloc b).alloc c) w2) : Below w.heap.size w w2 :=
  (three_below w a b c).trans (hb.mono (by simp; omega))

theorem set_sn {w : World} {b : Nat} {s : Sn} (h : w.heap[b]? = some (.cells s.arr 28)) (k : Int) (c : Nat) (l : Int) : (((w.setCell ⟨b, 4, none⟩ (nu k)).setCell ⟨b, 7, none⟩ (su c)).setCell ⟨b, 8, none⟩ (nu l)).heap[b]? = some (.cells ({ s with kind := k, scopes := c, level := l } : Sn).arr 28) := by
  rw [heap_setCell_same _ b 8 _ _ _ (heap_setCell_same _ b 7 _ _ _ (heap_setCell_same _ b 4 _ _ _ h))]
  rfl

theorem set_far {w : World} {b g : Nat} {o : Obj} (h : w.heap[g]? = some o) (n : ¬ b = g) (x y z : Value) : (((w.setCell ⟨b, 4, none⟩ x).setCell ⟨b, 7, none⟩ y).setCell ⟨b, 8, none⟩ z).heap[g]? = some o := by
  rw [setCell_off _ _ _ n, setCell_off _ _ _ n, setCell_off _ _ _ n, h]
theorem wpList_load_snX {ops : Array Oper} {rest : List Oper} {op : Oper} {a : Act} {w : World} {Q : Exit → Act → World → Prop} (hgd : op.guard = none) (x : Operand) (ho : op.op = .load 28 x)
    (b : Nat) (hx : a.eval x = .pointer (some ⟨b, 0, none⟩)) (s : Sn) (hz : w.heap[b]? = some (.cells s.arr 28))
    (h : wpList Tryd.prog ops Q rest (a.put op.dst (.agg #[nu s.slot, nu s.birth, nu s.us, nu s.ub, nu s.kind, .string s.user, .string s.label, su s.scopes, nu s.level, nu s.born, nu s.deadline, nu s.depth])) w) : wpList Tryd.prog ops Q (op :: rest) a w :=
  wpList_load_sn hgd x ho b hx s hz h

theorem size_rq : (Tryd.prog.info? 34).map (·.size) = some 5 := by kernel_rfl

theorem wpList_load_rqX {ops : Array Oper} {rest : List Oper} {op : Oper} {a : Act} {w : World} {Q : Exit → Act → World → Prop} (hgd : op.guard = none) (x : Operand) (ho : op.op = .load 34 x)
    (b : Nat) (hx : a.eval x = .pointer (some ⟨b, 0, none⟩)) (r : Rq) (hz : w.heap[b]? = some (.cells r.arr 34))
    (h : wpList Tryd.prog ops Q rest (a.put op.dst (.agg #[.string r.user, .string r.label, su r.scopes, nu r.level, nu r.life])) w) : wpList Tryd.prog ops Q (op :: rest) a w :=
  wpList_load_mid hgd 34 x ho b 0 hx r.arr.toList _ (fun j v hv => by rw [Nat.zero_add, cell_of_row w b j _ _ _ hz]; simpa using hv) Tryd.underlying34 rfl size_rq h
end Gr
end Go.Proofs.YtbgggekkkcefcabDoor
