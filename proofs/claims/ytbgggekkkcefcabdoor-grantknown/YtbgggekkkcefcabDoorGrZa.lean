/- Layer 22: what is granted is granted for less. -/
import Derived.Test.YtbgggekkkcefcabDoorGrZ
namespace Go.Proofs.YtbgggekkkcefcabDoor
set_option linter.ambiguousOpen false
open Go.RowKit
namespace Gr
set_option linter.unusedVariables false
set_option linter.unusedSimpArgs false

theorem wpList_store_rq {ops : Array Oper} {rest : List Oper} {op : Oper} {a : Act} {w : World} {Q : Exit → Act → World → Prop} (hgd : op.guard = none) (x y : Operand) (ho : op.op = .store 34 x y)
    (g : Nat) (hx : a.eval x = .pointer (some ⟨g, 0, none⟩)) (s z : Rq) (hy : a.eval y = s.v) (hz : w.heap[g]? = some (.cells z.arr 34))
    (h : ∀ w', w'.heap[g]? = some (.cells s.arr 34) → w.grownBy w' (some g) → wpList Tryd.prog ops Q rest (a.put op.dst undef) w') : wpList Tryd.prog ops Q (op :: rest) a w := by
  refine wpList_plain hgd fun K hK => ?_
  have hrun := run_storeVar_row (P := Tryd.prog) w g _ 34 z.arr s.arr hz size_rq rfl (by simp [Rq.arr, Value.oneCell'])
  have hk := hK _ _ (h (w.setRow g s.arr) (setRow_heap w g _ _ _ _ hz) ⟨rfl, rfl, rfl, by simp, fun k hk hn => setRow_other _ _ _ _ (fun e => hn (by rw [e]))⟩)
  unfold Oper.wp execOp
  simp only [ho, hx, hy, Rq.v, Instr.storeAt, Instr.sureAddr, Sem.run_bind, Sem.run_pure, Result.andThen_ok, hrun]
  exact hk

/-- What a law holds, with requests of its own. -/
structure AtX (w0 : World) (p : Sn) (r : Rq) (now births : Int) (full : Bool) (L : List (Nat × Rq)) (w : World) : Prop where
  at' : AtC w0.heap.size p r now births full w
  more : ∀ x ∈ L, w.heap[x.1]? = some (.cells x.2.arr 34)
  bel : Below w0.heap.size w0 w

section
variable {w0 : World} {p : Sn} {r : Rq} {now births : Int} {full : Bool} {L : List (Nat × Rq)} {w w' : World}

theorem AtX.below (h : AtX w0 p r now births full L w) (hb : Below w.heap.size w w') : AtX w0 p r now births full L w' :=
  ⟨h.at'.below hb, fun x hx => (hb.block _ (Array.getElem?_eq_some_iff.1 (h.more x hx)).1).trans (h.more x hx), h.bel.trans (hb.mono h.bel.size)⟩

theorem AtX.new {o : Obj} (h : AtX w0 p r now births full L w) (hg : (w.alloc o).grownBy w' (some w.heap.size)) : AtX w0 p r now births full L w' :=
  ⟨h.at'.new hg, fun x hx => new_far (h.more x hx) hg, new_below h.bel hg⟩

theorem AtX.put {g k : Nat} {v : Value} (h : AtX w0 p r now births full L w) (hg : w0.heap.size + 2 < g) (hL : ∀ x ∈ L, x.1 ≠ g) : AtX w0 p r now births full L (w.setCell ⟨g, k, none⟩ v) :=
  ⟨⟨(setCell_off w k v (by omega)).trans h.at'.hp, (setCell_off w k v (by omega)).trans h.at'.hr, (setCell_off w k v (by omega)).trans h.at'.hx⟩, fun x hx => (setCell_off w k v (fun e => hL x hx e.symm)).trans (h.more x hx), h.bel.setCell (p := ⟨g, k, none⟩) (by show w0.heap.size ≤ g; omega) v⟩

theorem AtX.add {g : Nat} {q : Rq} (h : AtX w0 p r now births full L w) (hg : w.heap[g]? = some (.cells q.arr 34)) : AtX w0 p r now births full ((g, q) :: L) w :=
  ⟨h.at', fun x hx => by
    rcases List.mem_cons.1 hx with rfl | hx
    · exact hg
    · exact h.more x hx, h.bel⟩

theorem AtX.lt (h : AtX w0 p r now births full L w) : w0.heap.size + 2 < w.heap.size := (Array.getElem?_eq_some_iff.1 h.at'.hx).1
end

theorem until_less {n l m : Int} (h : Ck.untilB n l m = true) (h1 : 1 < l) : Ck.untilB n (l - 1) m = true := by
  have := Ck.untilB_iff.1 h
  exact Ck.untilB_iff.2 (by omega)

theorem below_less {p : Sn} {r : Rq} {now L : Int} (h : belowE p r now = 0) (h1 : 1 < r.life) (hL : L = r.life - 1) : belowE p { r with life := L } now = 0 := by
  subst hL
  unfold belowE at h ⊢
  cases h2 : nmB r.label
  · simp [h2] at h
  cases h3 : Ck.untilB now r.life p.deadline
  · simp [h2, h3] at h
  simp only [h2, h3, until_less h3 h1] at h ⊢
  exact h

theorem child_less {p : Sn} {r : Rq} {now births L : Int} {full : Bool} (h : childE p r now births full = 0) (h1 : 1 < r.life) (hL : L = r.life - 1) : childE p { r with life := L } now births full = 0 := by
  unfold childE at h ⊢
  by_cases h2 : belowE p r now = 0
  · rw [below_less h2 h1 hL]
    rw [h2] at h
    exact h
  · simp [h2] at h

theorem raise_less {p : Sn} {r : Rq} {now births L : Int} {full : Bool} (h : raiseE p r now births full = 0) (h1 : 1 < r.life) (hL : L = r.life - 1) : raiseE p { r with life := L } now births full = 0 := by
  unfold raiseE at h ⊢
  by_cases h8 : belowE p r now = 8
  · simp [h8] at h
  by_cases h0 : r.life < 1 ∨ 300 < r.life
  · simp [h8, h0] at h
  by_cases h2 : belowE p r now = 0
  · rw [below_less h2 h1 hL]
    have h3 : ¬ (L < 1 ∨ 300 < L) := by omega
    simp only [h2, h0, h3, if_false] at h ⊢
    exact h
  · simp [h8, h0, h2] at h

theorem child_few {p : Sn} {r : Rq} {now births : Int} {full : Bool} (h : childE p r now births full = 0) : childE p { r with scopes := r.scopes &&& 5 } now births full = 0 := by
  unfold childE at h ⊢
  have e : belowE p { r with scopes := r.scopes &&& 5 } now = belowE p r now := rfl
  rw [e]
  by_cases h2 : belowE p r now = 0
  · cases h3 : inB r.scopes p.scopes
    · simp [h2, h3] at h
    · have h4 : inB (r.scopes &&& 5) p.scopes = true := by
        unfold inB Bt.less at h3 ⊢
        have h5 : r.scopes &&& (18446744073709551615 - p.scopes) = 0 := by simpa using h3
        have h6 : (r.scopes &&& 5) &&& (18446744073709551615 - p.scopes) = 0 := by
          rw [Nat.and_assoc, Nat.and_comm 5, ← Nat.and_assoc, h5, Nat.zero_and]
        simpa using h6
      simp only [h2, h3, h4, ne_eq, not_true_eq_false, if_false, Bool.true_eq_false] at h ⊢
      exact h
  · simp [h2] at h

end Gr
end Go.Proofs.YtbgggekkkcefcabDoor
