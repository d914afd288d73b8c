/- TreR, TreS, TreA, TreU, TreT, in one text. -/
import Derived.Test.YthabnombfbehkaaTreP
import Derived.Test.YthabnombfbehkaaRgM
import Derived.Test.YthabnombfbehkaaArnA
/- The document's trees: how one lies; New, used, There, ring. -/
namespace Go.Proofs.Ythabnombfbehkaa
set_option linter.ambiguousOpen false
open Go.RowKit
namespace Tr
open An Rg Ft Lv
set_option linter.unusedSimpArgs false
set_option linter.unusedVariables false

/-- A link as a value. -/
@[reducible] def lkU (us ub : Int) : Value := .agg #[nu us, nu ub]

def tfp (t g : Nat) (sv fv : Value) (k : Nat) : Prop := k = t ∨ rfp g sv fv k

section
variable {base : Nat} {w w' : World} {t g b cap : Nat} {sv fv : Value} {A : Arn} {last : Int}

end


theorem below_dn {b : Nat} {w w' : World} (h : Below b w w') (n : Nat) : Below b w (w'.drewN n) := ⟨h.os, h.tape, h.output, h.size, h.block⟩

end Tr
end Go.Proofs.Ythabnombfbehkaa
/- The document's trees: how slots are turned; set. -/
namespace Go.Proofs.Ythabnombfbehkaa
set_option linter.ambiguousOpen false
open Go.RowKit
namespace Tr
open An Rg Ft Lv
set_option linter.unusedSimpArgs false
set_option linter.unusedVariables false

section
variable {base : Nat} {w : World} {t g b cap : Nat} {fv : Value} {A : Arn} {last : Int}

end


theorem setCells2 (w : World) (b o : Nat) (u v : Value) : w.setCells b o [u, v] = (w.setCell ⟨b, o, none⟩ u).setCell ⟨b, o + 1, none⟩ v := rfl

/-- A link in a block of its own. -/
def Lnl (w : World) (b : Nat) (us ub : Int) : Prop := w.heap[b]? = some (.cells #[nu us, nu ub] 43)

theorem lnl_new (w : World) (us ub : Int) : Lnl (w.alloc (.cells #[nu us, nu ub] 43)) w.heap.size us ub := heap_alloc_new _ _

theorem Lnl.cells {w : World} {b : Nat} {us ub : Int} (h : Lnl w b us ub) : w.cell? ⟨b, 0, none⟩ = some (nu us) ∧ w.cell? ⟨b, 1, none⟩ = some (nu ub) ∧ ∀ i, w.frozen? ⟨b, i, none⟩ = false := by
  unfold Lnl at h
  refine ⟨by simp [World.cell?, h], by simp [World.cell?, h], fun i => by simp [World.frozen?, h]⟩

theorem Lnl.lt {w : World} {b : Nat} {us ub : Int} (h : Lnl w b us ub) : b < w.heap.size := (Array.getElem?_eq_some_iff.1 h).1

theorem Lnl.below {w w' : World} {b : Nat} {us ub : Int} (h : Lnl w b us ub) (hb : Below w.heap.size w w') : Lnl w' b us ub := (hb.block b h.lt).trans h

theorem Lnl.keep {w w' : World} {b : Nat} {us ub : Int} (h : Lnl w b us ub) {F : Nat → Prop} (hk : Keep F w w') (hn : ¬ F b) : Lnl w' b us ub := (hk.block b h.lt hn).trans h

theorem size_lnl : (Try.prog.info? 43).map (·.size) = some 2 := by kernel_rfl

set_option maxRecDepth 100000 in
theorem wpList_store_lnl {ops : Array Oper} {rest : List Oper} {op : Oper} {a : Act} {w : World} {Q : Exit → Act → World → Prop} (hgd : op.guard = none) (x y : Operand) (ho : op.op = .store 43 x y)
    (b : Nat) (hx : a.eval x = .pointer (some ⟨b, 0, none⟩)) (p n : Int) (hy : a.eval y = .agg #[nu p, nu n]) (p0 n0 : Int) (hz : Lnl w b p0 n0)
    (h : ∀ w', Lnl w' b p n → w.grownBy w' (some b) → w'.heap.size = w.heap.size → wpList Try.prog ops Q rest (a.put op.dst undef) w') : wpList Try.prog ops Q (op :: rest) a w := by
  refine wpList_plain hgd fun K hK => ?_
  have hrun := run_storeVar_row (P := Try.prog) w b _ 43 #[nu p0, nu n0] #[nu p, nu n] hz size_lnl rfl (all_oneCell_toArray (cs := [nu p, nu n]) (by simp [Value.oneCell']))
  have hk := hK _ _ (h (w.setRow b #[nu p, nu n]) (setRow_heap w b _ _ _ _ hz) ⟨rfl, rfl, rfl, by simp, fun k hk hn => setRow_other _ _ _ _ (fun e => hn (by rw [e]))⟩ (by simp))
  unfold Oper.wp execOp
  simp only [ho, hx, hy, Instr.storeAt, Instr.sureAddr, Sem.run_bind, Sem.run_pure, Result.andThen_ok, hrun]
  exact hk

theorem Lnl.range {w : World} {b : Nat} {p n : Int} (h : Lnl w b p n) : w.rangeAt b 0 [nu p, nu n] := fun j v hv => by
  rw [Nat.zero_add, cell_of_row w b j _ _ _ h]
  simpa using hv

set_option maxRecDepth 100000 in
theorem wpList_load_lnl {ops : Array Oper} {rest : List Oper} {op : Oper} {a : Act} {w : World} {Q : Exit → Act → World → Prop} (hgd : op.guard = none) (x : Operand) (ho : op.op = .load 43 x)
    (b o : Nat) (hx : a.eval x = .pointer (some ⟨b, o, none⟩)) (p n : Int) (hr : w.rangeAt b o [nu p, nu n])
    (h : wpList Try.prog ops Q rest (a.put op.dst (.agg #[nu p, nu n])) w) : wpList Try.prog ops Q (op :: rest) a w :=
  wpList_load_mid hgd 43 x ho b o hx [nu p, nu n] _ hr Try.underlying43 rfl size_lnl h

end Tr
end Go.Proofs.Ythabnombfbehkaa
/- The document's trees: Add. -/
namespace Go.Proofs.Ythabnombfbehkaa
set_option linter.ambiguousOpen false
open Go.RowKit
namespace Tr
open An Rg Ft Lv
set_option linter.unusedSimpArgs false
set_option linter.unusedVariables false

section
variable {base : Nat} {w0 w w' : World} {t g b cap lb : Nat} {fv : Value} {A A' : Arn} {last us ub : Int}

end


theorem keep_cell (w : World) (b o : Nat) (v : Value) : Keep (fun j => j = b) w (w.setCell ⟨b, o, none⟩ v) := (Keep.refl (fun j => j = b) w).setCell (p := ⟨b, o, none⟩) (.inl rfl) v

theorem push_same (S : List Slt) (l i : Int) (h : (push S l i).no ≠ 0) : (push S l i).sl = S := by
  unfold push at h ⊢
  repeat' split at h
  all_goals simp_all

theorem drop_same (S : List Slt) (l i : Int) (h : (drop S l i).no ≠ 0) : (drop S l i).sl = S := by
  unfold drop at h ⊢
  repeat' split at h
  all_goals simp_all

end Tr
end Go.Proofs.Ythabnombfbehkaa
/- The document's trees: Cut. -/
namespace Go.Proofs.Ythabnombfbehkaa
set_option linter.ambiguousOpen false
open Go.RowKit
namespace Tr
open An Rg Ft Lv
set_option linter.unusedSimpArgs false
set_option linter.unusedVariables false

end Tr
end Go.Proofs.Ythabnombfbehkaa
/- The document's trees: Roots, Kids, Under. -/
namespace Go.Proofs.Ythabnombfbehkaa
set_option linter.ambiguousOpen false
open Go.RowKit
namespace Tr
open An Rg Ft Lv
set_option linter.unusedSimpArgs false
set_option linter.unusedVariables false

/-- A row of one's own is read, whatever is turned besides. -/
theorem own_len {w : World} {base n : Nat} {v : Value} {l : List Nat} (h : w.ownsRow base 3 1 v n (l.map nun)) : l.length = n := by
  have := h.1
  simpa using this

theorem keep_row {w w2 w3 wr : World} {v v1 : Value} (h12 : Keep (fun k => v.ownBlock = some k) w w2) (pl : ∀ k, v1.ownBlock = some k → v.ownBlock = some k ∨ w.heap.size ≤ k) (h23 : Below w2.heap.size w2 w3) (h3r : Keep (fun k => v1.ownBlock = some k) w3 wr) : Keep (fun k => v.ownBlock = some k) w wr :=
  (h12.trans (Keep.of_below (F := fun _ => False) h23) (fun _ _ e => e.elim)).trans h3r (fun i hi e => (pl i e).resolve_right (by omega))

end Tr
end Go.Proofs.Ythabnombfbehkaa
