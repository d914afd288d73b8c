/- TreR, TreS, TreA, TreU, TreT, in one text. -/
import Derived.Test.YthabnombfbehkaaGreatDoorTreP
import Derived.Test.YthabnombfbehkaaGreatDoorRgM
import Derived.Test.YthabnombfbehkaaGreatDoorArnA
/- The document's trees: how one lies; New, used, There, ring. -/
namespace Go.Proofs.YthabnombfbehkaaGreatDoor
set_option linter.ambiguousOpen false
open Go.RowKit
namespace Tr
open An Rg Ft Lv
set_option linter.unusedSimpArgs false
set_option linter.unusedVariables false

/-- A link as a value. -/
@[reducible] def lkU (us ub : Int) : Value := .agg #[nu us, nu ub]

def tfp (t g : Nat) (sv fv : Value) (k : Nat) : Prop := k = t ∨ rfp g sv fv k

section
variable {base : Nat} {w w' : World} {t g b cap : Nat} {sv fv : Value} {A : Arn} {last : Int}

/-- What is read of a slot. -/
theorem RAn.read (h : RAn base w g (.slice (some ⟨b, 0, none⟩) 32 cap) fv A) (hl : A.sl.length = 32) (k : Nat) (hk : k < 32) : w.cell? ⟨b, k * 17, none⟩ = some (.bool (at' A.sl k).used) ∧ w.cell? ⟨b, k * 17 + 2, none⟩ = some (nu (at' A.sl k).kids) ∧ w.cell? ⟨b, k * 17 + 6, none⟩ = some (nu (at' A.sl k).s.birth) ∧ w.cell? ⟨b, k * 17 + 7, none⟩ = some (nu (at' A.sl k).s.us) ∧ w.cell? ⟨b, k * 17 + 8, none⟩ = some (nu (at' A.sl k).s.ub) ∧ ∀ i, w.frozen? ⟨b, i, none⟩ = false := by
  obtain ⟨b', cap', e, _, _, hr, _⟩ := h.slot hl k hk
  simp only [Value.slice.injEq, Option.some.injEq, Addr.mk.injEq, and_true, true_and] at e
  obtain ⟨rfl, rfl⟩ := e
  refine ⟨hr 0 _ rfl, hr 2 _ rfl, hr 6 _ rfl, hr 7 _ rfl, hr 8 _ rfl, fun i => ?_⟩
  obtain ⟨c, hc, _⟩ := own_cellsT h.sl (k := b) rfl
  simp [World.frozen?, hc]
end

theorem below_dn {b : Nat} {w w' : World} (h : Below b w w') (n : Nat) : Below b w (w'.drewN n) := ⟨h.os, h.tape, h.output, h.size, h.block⟩

end Tr
end Go.Proofs.YthabnombfbehkaaGreatDoor
/- The document's trees: how slots are turned; set. -/
namespace Go.Proofs.YthabnombfbehkaaGreatDoor
set_option linter.ambiguousOpen false
open Go.RowKit
namespace Tr
open An Rg Ft Lv
set_option linter.unusedSimpArgs false
set_option linter.unusedVariables false

section
variable {base : Nat} {w : World} {t g b cap : Nat} {fv : Value} {A : Arn} {last : Int}

theorem RAn.put1 (h : RAn base w g (.slice (some ⟨b, 0, none⟩) 32 cap) fv A) (hl : A.sl.length = 32) (k : Nat) (hk : k < 32) (x : Slt) (j : Nat) (v : Value) (hj : j < 17) (hx : (A.sl.getD k bare).cells.set j v = x.cells) : RAn base (w.setCell ⟨b, k * 17 + j, none⟩ v) g (.slice (some ⟨b, 0, none⟩) 32 cap) fv ⟨A.sl.set k x, A.fr, A.wr⟩ := by
  have hG : w.grownBy (w.setCell ⟨b, k * 17 + j, none⟩ v) (some b) := ⟨rfl, rfl, rfl, by simp, fun k hk hn => Below.heap_setCell _ _ _ k (fun e => hn (by rw [e]))⟩
  have hne := h.ne
  refine ⟨(hG.block g h.glt (fun e => hne.1 e.symm)).trans h.blk, ?_, h.fr.kept hG (.inr (fun e => hne.2.2 b rfl e)), h.lo⟩
  have h0 := h.sl
  rw [hl] at h0
  have h1 := own_cellSet h0 (k * 17 + j) v
  have h2 := scs_mid A.sl k (by omega) x j v hj hx
  show World.ownsRow _ _ _ _ _ (A.sl.set k x).length (scs (A.sl.set k x))
  rw [List.length_set, hl, h2]
  exact h1

theorem RAn.putK (h : RAn base w g (.slice (some ⟨b, 0, none⟩) 32 cap) fv A) (hl : A.sl.length = 32) (k : Nat) (hk : k < 32) (v : Int) : RAn base (w.setCell ⟨b, k * 17 + 2, none⟩ (nu v)) g (.slice (some ⟨b, 0, none⟩) 32 cap) fv ⟨setK A.sl k v, A.fr, A.wr⟩ := by
  have := RAn.put1 h hl k hk { at' A.sl k with kids := v } 2 (nu v) (by omega) rfl
  exact this

theorem RAn.putU (h : RAn base w g (.slice (some ⟨b, 0, none⟩) 32 cap) fv A) (hl : A.sl.length = 32) (k : Nat) (hk : k < 32) (us ub : Int) : RAn base ((w.setCell ⟨b, k * 17 + 7, none⟩ (nu us)).setCell ⟨b, k * 17 + 8, none⟩ (nu ub)) g (.slice (some ⟨b, 0, none⟩) 32 cap) fv ⟨setU A.sl k us ub, A.fr, A.wr⟩ := by
  have h1 := RAn.put1 h hl k hk (hung (at' A.sl k) us (at' A.sl k).s.ub) 7 (nu us) (by omega) rfl
  have e1 : (A.sl.set k (hung (at' A.sl k) us (at' A.sl k).s.ub)).getD k bare = hung (at' A.sl k) us (at' A.sl k).s.ub := by
    rw [List.getD_eq_getElem?_getD, List.getElem?_set, if_pos rfl, if_pos (by omega)]
    rfl
  have h2 := RAn.put1 h1 (by simp [hl]) k hk (hung (at' A.sl k) us ub) 8 (nu ub) (by omega) (by
    show ((A.sl.set k (hung (at' A.sl k) us (at' A.sl k).s.ub)).getD k bare).cells.set 8 (nu ub) = _
    rw [e1]
    rfl)
  have e2 : setU A.sl k us ub = (A.sl.set k (hung (at' A.sl k) us (at' A.sl k).s.ub)).set k (hung (at' A.sl k) us ub) := by
    rw [List.set_set]
    rfl
  rw [e2]
  exact h2

end


theorem setCells2 (w : World) (b o : Nat) (u v : Value) : w.setCells b o [u, v] = (w.setCell ⟨b, o, none⟩ u).setCell ⟨b, o + 1, none⟩ v := rfl

/-- A link in a block of its own. -/
def Lnl (w : World) (b : Nat) (us ub : Int) : Prop := w.heap[b]? = some (.cells #[nu us, nu ub] 44)

theorem lnl_new (w : World) (us ub : Int) : Lnl (w.alloc (.cells #[nu us, nu ub] 44)) w.heap.size us ub := heap_alloc_new _ _

theorem Lnl.cells {w : World} {b : Nat} {us ub : Int} (h : Lnl w b us ub) : w.cell? ⟨b, 0, none⟩ = some (nu us) ∧ w.cell? ⟨b, 1, none⟩ = some (nu ub) ∧ ∀ i, w.frozen? ⟨b, i, none⟩ = false := by
  unfold Lnl at h
  refine ⟨by simp [World.cell?, h], by simp [World.cell?, h], fun i => by simp [World.frozen?, h]⟩

theorem Lnl.lt {w : World} {b : Nat} {us ub : Int} (h : Lnl w b us ub) : b < w.heap.size := (Array.getElem?_eq_some_iff.1 h).1

theorem Lnl.below {w w' : World} {b : Nat} {us ub : Int} (h : Lnl w b us ub) (hb : Below w.heap.size w w') : Lnl w' b us ub := (hb.block b h.lt).trans h

theorem Lnl.keep {w w' : World} {b : Nat} {us ub : Int} (h : Lnl w b us ub) {F : Nat → Prop} (hk : Keep F w w') (hn : ¬ F b) : Lnl w' b us ub := (hk.block b h.lt hn).trans h

theorem size_lnl : (Tryz.prog.info? 44).map (·.size) = some 2 := by kernel_rfl

set_option maxRecDepth 100000 in
theorem wpList_store_lnl {ops : Array Oper} {rest : List Oper} {op : Oper} {a : Act} {w : World} {Q : Exit → Act → World → Prop} (hgd : op.guard = none) (x y : Operand) (ho : op.op = .store 44 x y)
    (b : Nat) (hx : a.eval x = .pointer (some ⟨b, 0, none⟩)) (p n : Int) (hy : a.eval y = .agg #[nu p, nu n]) (p0 n0 : Int) (hz : Lnl w b p0 n0)
    (h : ∀ w', Lnl w' b p n → w.grownBy w' (some b) → w'.heap.size = w.heap.size → wpList Tryz.prog ops Q rest (a.put op.dst undef) w') : wpList Tryz.prog ops Q (op :: rest) a w := by
  refine wpList_plain hgd fun K hK => ?_
  have hrun := run_storeVar_row (P := Tryz.prog) w b _ 44 #[nu p0, nu n0] #[nu p, nu n] hz size_lnl rfl (all_oneCell_toArray (cs := [nu p, nu n]) (by simp [Value.oneCell']))
  have hk := hK _ _ (h (w.setRow b #[nu p, nu n]) (setRow_heap w b _ _ _ _ hz) ⟨rfl, rfl, rfl, by simp, fun k hk hn => setRow_other _ _ _ _ (fun e => hn (by rw [e]))⟩ (by simp))
  unfold Oper.wp execOp
  simp only [ho, hx, hy, Instr.storeAt, Instr.sureAddr, Sem.run_bind, Sem.run_pure, Result.andThen_ok, hrun]
  exact hk

theorem Lnl.range {w : World} {b : Nat} {p n : Int} (h : Lnl w b p n) : w.rangeAt b 0 [nu p, nu n] := fun j v hv => by
  rw [Nat.zero_add, cell_of_row w b j _ _ _ h]
  simpa using hv

set_option maxRecDepth 100000 in
theorem wpList_load_lnl {ops : Array Oper} {rest : List Oper} {op : Oper} {a : Act} {w : World} {Q : Exit → Act → World → Prop} (hgd : op.guard = none) (x : Operand) (ho : op.op = .load 44 x)
    (b o : Nat) (hx : a.eval x = .pointer (some ⟨b, o, none⟩)) (p n : Int) (hr : w.rangeAt b o [nu p, nu n])
    (h : wpList Tryz.prog ops Q rest (a.put op.dst (.agg #[nu p, nu n])) w) : wpList Tryz.prog ops Q (op :: rest) a w :=
  wpList_load_mid hgd 44 x ho b o hx [nu p, nu n] _ hr Tryz.underlying44 rfl size_lnl h

end Tr
end Go.Proofs.YthabnombfbehkaaGreatDoor
/- The document's trees: Add. -/
namespace Go.Proofs.YthabnombfbehkaaGreatDoor
set_option linter.ambiguousOpen false
open Go.RowKit
namespace Tr
open An Rg Ft Lv
set_option linter.unusedSimpArgs false
set_option linter.unusedVariables false

section
variable {base : Nat} {w0 w w' : World} {t g b cap lb : Nat} {fv : Value} {A A' : Arn} {last us ub : Int}

end


theorem keep_cell (w : World) (b o : Nat) (v : Value) : Keep (fun j => j = b) w (w.setCell ⟨b, o, none⟩ v) := (Keep.refl (fun j => j = b) w).setCell (p := ⟨b, o, none⟩) (.inl rfl) v

theorem push_same (S : List Slt) (l i : Int) (h : (push S l i).no ≠ 0) : (push S l i).sl = S := by
  unfold push at h ⊢
  repeat' split at h
  all_goals simp_all

theorem drop_same (S : List Slt) (l i : Int) (h : (drop S l i).no ≠ 0) : (drop S l i).sl = S := by
  unfold drop at h ⊢
  repeat' split at h
  all_goals simp_all

end Tr
end Go.Proofs.YthabnombfbehkaaGreatDoor
/- The document's trees: Cut. -/
namespace Go.Proofs.YthabnombfbehkaaGreatDoor
set_option linter.ambiguousOpen false
open Go.RowKit
namespace Tr
open An Rg Ft Lv
set_option linter.unusedSimpArgs false
set_option linter.unusedVariables false

end Tr
end Go.Proofs.YthabnombfbehkaaGreatDoor
/- The document's trees: Roots, Kids, Under. -/
namespace Go.Proofs.YthabnombfbehkaaGreatDoor
set_option linter.ambiguousOpen false
open Go.RowKit
namespace Tr
open An Rg Ft Lv
set_option linter.unusedSimpArgs false
set_option linter.unusedVariables false

/-- A row of one's own is read, whatever is turned besides. -/
theorem own_len {w : World} {base n : Nat} {v : Value} {l : List Nat} (h : w.ownsRow base 3 1 v n (l.map nun)) : l.length = n := by
  have := h.1
  simpa using this

theorem keep_row {w w2 w3 wr : World} {v v1 : Value} (h12 : Keep (fun k => v.ownBlock = some k) w w2) (pl : ∀ k, v1.ownBlock = some k → v.ownBlock = some k ∨ w.heap.size ≤ k) (h23 : Below w2.heap.size w2 w3) (h3r : Keep (fun k => v1.ownBlock = some k) w3 wr) : Keep (fun k => v.ownBlock = some k) w wr :=
  (h12.trans (Keep.of_below (F := fun _ => False) h23) (fun _ _ e => e.elim)).trans h3r (fun i hi e => (pl i e).resolve_right (by omega))

end Tr
end Go.Proofs.YthabnombfbehkaaGreatDoor
