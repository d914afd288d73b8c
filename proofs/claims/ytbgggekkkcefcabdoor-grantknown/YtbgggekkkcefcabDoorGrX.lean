/- Layer 22: sessions that are the same; what a law holds of its parameters. -/
import Derived.Test.YtbgggekkkcefcabDoorGrQ
import Derived.Test.YtbgggekkkcefcabDoorNum
import Derived.ChangeKeysEq
namespace Go.Proofs.YtbgggekkkcefcabDoor
set_option linter.ambiguousOpen false
open Go.RowKit
namespace Gr
set_option linter.unusedVariables false
set_option linter.unusedSimpArgs false

set_option maxRecDepth 100000 in
theorem ses_same (a : Sn) (w : World) : (binOp .eql 28 (.agg a.arr) (.agg a.arr)).run Tryd.prog w = .ok (.bool true) w := by
  have hu := Tryd.underlying28
  have hp : Tryd.prog.stoodInHeld 28 = false := by kernel_rfl
  have p2 : Tryd.prog.stoodInHeld 24 = false := by kernel_rfl
  rw [run_eql_struct]
  rw [show (10000 : Nat) = 9999 + 1 from rfl, run_equalIn_agg _ _ _ _ _ (by rw [hu]; simp [Program.fieldsOf, hu]) hp]
  simp only [Program.fieldsOf, hu, Sn.arr]
  obtain ⟨a0, a1, a2, a3, a4, a5, a6, a7, a8, a9, a10, a11⟩ := a
  have h5 : (a5.toList == a5.toList) = true := by simp
  simp [go_sem, Op.eqFields, part, hp, p2, Tryd.underlying3, Tryd.underlying9, Tryd.underlying26, Tryd.underlying24, Tryd.isAgg3, Tryd.isAgg9, Tryd.isAgg26, Tryd.isAgg24, Tryd.sizeOf3, Tryd.sizeOf9, Tryd.sizeOf26, Tryd.sizeOf24]

theorem ses_sameV (s : Sn) (w : World) : (binOp .eql 28 s.v s.v).run Tryd.prog w = .ok (.bool true) w := ses_same s w

theorem ses_guard (op : BinOp) (x y : Operand) (s u : Sn) (w : World) : (eqGuard op 28 x y s.v u.v).run Tryd.prog w = .ok () w := run_eqGuard_agg (P := Tryd.prog) w op 28 x y s.arr u.arr (by kernel_rfl)

/-- Errors are numbers of the table. -/
theorem room_rng (b : Int) (f : Bool) : 0 ≤ roomE b f ∧ roomE b f ≤ 24 := by
  unfold roomE
  split
  · omega
  · split <;> omega

theorem login_rng (r : Rq) (n b : Int) (f : Bool) : 0 ≤ loginE r n b f ∧ loginE r n b f ≤ 24 := by
  have := room_rng b f
  unfold loginE
  repeat' split
  all_goals omega

theorem below_rng (p : Sn) (r : Rq) (n : Int) : 0 ≤ belowE p r n ∧ belowE p r n ≤ 24 := by
  unfold belowE
  repeat' split
  all_goals omega

theorem child_rng (p : Sn) (r : Rq) (n b : Int) (f : Bool) : 0 ≤ childE p r n b f ∧ childE p r n b f ≤ 24 := by
  have h1 := room_rng b f
  have h2 := below_rng p r n
  unfold childE
  repeat' split
  all_goals omega

theorem raise_rng (p : Sn) (r : Rq) (n b : Int) (f : Bool) : 0 ≤ raiseE p r n b f ∧ raiseE p r n b f ≤ 24 := by
  have h1 := room_rng b f
  have h2 := below_rng p r n
  unfold raiseE
  repeat' split
  all_goals omega

theorem numE (E : Int) (h : 0 ≤ E ∧ E ≤ 24) (w : World) : Calls Tryd.prog 27 #[errV E] w fun e w' => e = .returned (nu E) ∧ Below w.heap.size w w' := by
  by_cases h0 : E = 0
  · subst h0
    refine (Er.num_nil w).mono ?_
    rintro e w' ⟨rfl, rfl⟩
    exact ⟨rfl, Below.refl _ _⟩
  · obtain ⟨n, rfl⟩ : ∃ n : Nat, E = (n : Int) := ⟨E.toNat, by omega⟩
    unfold errV
    rw [if_neg h0]
    exact Er.num_no n (by omega) (by omega) w

/-- What a law holds: the session, the request, what there is. -/
structure AtC (b : Nat) (p : Sn) (r : Rq) (now births : Int) (full : Bool) (w : World) : Prop where
  hp : w.heap[b]? = some (.cells p.arr 28)
  hr : w.heap[b + 1]? = some (.cells r.arr 34)
  hx : w.heap[b + 2]? = some (.cells #[nu now, nu births, .bool full] 43)

section
variable {b : Nat} {p : Sn} {r : Rq} {now births : Int} {full : Bool} {w w' : World}

theorem AtC.below (h : AtC b p r now births full w) (hb : Below w.heap.size w w') : AtC b p r now births full w' :=
  ⟨(hb.block _ (Array.getElem?_eq_some_iff.1 h.hp).1).trans h.hp, (hb.block _ (Array.getElem?_eq_some_iff.1 h.hr).1).trans h.hr, (hb.block _ (Array.getElem?_eq_some_iff.1 h.hx).1).trans h.hx⟩

theorem AtC.new {o : Obj} (h : AtC b p r now births full w) (hg : (w.alloc o).grownBy w' (some w.heap.size)) : AtC b p r now births full w' :=
  ⟨new_far h.hp hg, new_far h.hr hg, new_far h.hx hg⟩

theorem AtC.x0 (h : AtC b p r now births full w) : w.cell? ⟨b + 2, 0, none⟩ = some (nu now) := by rw [cell_of_row w _ 0 _ _ _ h.hx]; rfl
theorem AtC.x1 (h : AtC b p r now births full w) : w.cell? ⟨b + 2, 1, none⟩ = some (nu births) := by rw [cell_of_row w _ 1 _ _ _ h.hx]; rfl
theorem AtC.x2 (h : AtC b p r now births full w) : w.cell? ⟨b + 2, 2, none⟩ = some (.bool full) := by rw [cell_of_row w _ 2 _ _ _ h.hx]; rfl
end

theorem atC_start (w : World) (p : Sn) (r : Rq) (now births : Int) (full : Bool) : ∃ w3, ((w.alloc (.cells p.arr 28)).alloc (.cells r.arr 34)).alloc (.cells #[nu now, nu births, .bool full] 43) = w3 ∧ AtC w.heap.size p r now births full w3 ∧ Below w.heap.size w w3 :=
  ⟨_, rfl, ⟨three_0 _ _ _ _, three_1 _ _ _ _, three_at _ _ _ _⟩, three_below _ _ _ _⟩

theorem wpList_load_rq {ops : Array Oper} {rest : List Oper} {op : Oper} {a : Act} {w : World} {Q : Exit → Act → World → Prop} (hgd : op.guard = none) (x : Operand) (ho : op.op = .load 34 x)
    (b : Nat) (hx : a.eval x = .pointer (some ⟨b, 0, none⟩)) (r : Rq) (hz : w.heap[b]? = some (.cells r.arr 34))
    (h : wpList Tryd.prog ops Q rest (a.put op.dst r.v) w) : wpList Tryd.prog ops Q (op :: rest) a w :=
  wpList_load_rqX hgd x ho b hx r hz h
end Gr
end Go.Proofs.YtbgggekkkcefcabDoor
