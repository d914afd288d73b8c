/- Links, in memory. -/
import Derived.Test.YthjdpfmnbmnbhaaExpP
import Derived.Test.YthjdpfmnbmnbhaaHepS
import Derived.Laws.Tables
import Derived.Laws.ResultCell
namespace Go.Proofs.Ythjdpfmnbmnbhaa
set_option linter.ambiguousOpen false
open Go.RowKit
namespace Ex
open Hh Ft
set_option linter.unusedSimpArgs false
set_option linter.unusedVariables false

theorem size_lk : (Try.prog.info? 32).map (·.size) = some 2 := by kernel_rfl

theorem set_two {w : World} {g : Nat} {a b : Value} {t : TypeId} (x y : Value) (h : w.heap[g]? = some (.cells #[a, b] t)) : ((w.setCell ⟨g, 0, none⟩ x).setCell ⟨g, 1, none⟩ y).heap[g]? = some (.cells #[x, y] t) := by
  rw [heap_setCell_same _ g 1 _ _ _ (heap_setCell_same _ g 0 _ _ _ h)]
  rfl

theorem results_lnk {fn : Func} {p u : Tmp} (h : fn.results = #[.cell p 32, .tmp u]) (tmps : Array Value) (w : World) (g : Nat) (a b : Int) (hp : tmps.getD p undef = .pointer (some ⟨g, 0, none⟩)) (hg : w.heap[g]? = some (.cells #[nu a, nu b] 32)) :
    (results fn tmps).run Try.prog w = .ok (.tuple #[.agg #[nu a, nu b], tmps.getD u undef]) w := by
  rw [results_cell_tmp h, hp]
  simp only [asAddr, Sem.run_pure, Result.andThen_ok, run_loadVar_row w g _ 32 _ _ _ hg Try.underlying32 rfl size_lk]

theorem wpList_store_lnk {ops : Array Oper} {rest : List Oper} {op : Oper} {a : Act} {w : World} {Q : Exit → Act → World → Prop} (hgd : op.guard = none) (x y : Operand) (ho : op.op = .store 32 x y)
    (b : Nat) (hx : a.eval x = .pointer (some ⟨b, 0, none⟩)) (s u : Int) (hy : a.eval y = .agg #[nu s, nu u]) (z1 z2 : Value) (hz : w.heap[b]? = some (.cells #[z1, z2] 32))
    (h : ∀ w', w'.heap[b]? = some (.cells #[nu s, nu u] 32) → w.grownBy w' (some b) → wpList Try.prog ops Q rest (a.put op.dst undef) w') : wpList Try.prog ops Q (op :: rest) a w := by
  refine wpList_plain hgd fun K hK => ?_
  have hrun := run_storeVar_row (P := Try.prog) w b _ 32 #[z1, z2] #[nu s, nu u] hz size_lk rfl (by simp [Value.oneCell'])
  have hk := hK _ _ (h (w.setRow b #[nu s, nu u]) (setRow_heap w b _ _ _ _ hz) ⟨rfl, rfl, rfl, by simp, fun k hk hn => setRow_other _ _ _ _ (fun e => hn (by rw [e]))⟩)
  unfold Oper.wp execOp
  simp only [ho, hx, hy, Instr.storeAt, Instr.sureAddr, Sem.run_bind, Sem.run_pure, Result.andThen_ok, hrun]
  exact hk

theorem link_mid {w : World} {b : Nat} {x y : Value} (h : w.heap[b]? = some (.cells #[x, y] 32)) : w.rangeAt b 0 [x, y] := fun j v hv => by
  rcases j with _ | _ | j
  · simp at hv
    subst hv
    rw [cell_of_row w b 0 _ _ _ h]
    rfl
  · simp at hv
    subst hv
    rw [cell_of_row w b 1 _ _ _ h]
    rfl
  · simp at hv

theorem link_cells {w : World} {b : Nat} {x y : Value} (h : w.heap[b]? = some (.cells #[x, y] 32)) : w.cell? ⟨b, 0, none⟩ = some x ∧ w.cell? ⟨b, 1, none⟩ = some y :=
  ⟨by rw [cell_of_row w b 0 _ _ _ h]; rfl, by rw [cell_of_row w b 1 _ _ _ h]; rfl⟩
end Ex
end Go.Proofs.Ythjdpfmnbmnbhaa
