import Derived.Test.YtnllplholfhbdaaDoorEvP
import Derived.Test.YtnllplholfhbdaaDoorRowB
import Derived.ChangeKeysEq
/- Links, sessions and events, as values; when two are the same. -/
namespace Go.Proofs.YtnllplholfhbdaaDoor
set_option linter.ambiguousOpen false
open Go.RowKit
namespace Ev
open Pk Sm
set_option linter.unusedSimpArgs false
set_option linter.unusedVariables false

/-- A session's cells, an event's. -/
def Sn.arr (s : Sn) : Array Value := #[nu s.slot, nu s.birth, nu s.us, nu s.ub, nu s.kind, .string (tx s.user), .string (tx s.label), .int .u64 s.scopes, nu s.level, nu s.born, nu s.deadline, nu s.depth]

def Evt.arr (e : Evt) : Array Value := #[nu e.kind, nu e.s.slot, nu e.s.birth, nu e.s.us, nu e.s.ub, nu e.s.kind, .string (tx e.s.user), .string (tx e.s.label), .int .u64 e.s.scopes, nu e.s.level, nu e.s.born, nu e.s.deadline, nu e.s.depth, nu e.birth, nu e.ticks]

/-- Its texts are of a length that is asked for. -/
def Evt.fit (e : Evt) : Prop := e.s.user.length ≤ 65536 ∧ e.s.label.length ≤ 65536 ∧ (0 ≤ e.s.scopes ∧ e.s.scopes < 18446744073709551616)

/-- A number that an int holds. -/
def i64 (n : Int) : Prop := -9223372036854775808 ≤ n ∧ n ≤ 9223372036854775807

/-- Its numbers are ints. -/
structure Evt.rng (e : Evt) : Prop where
  kind : i64 e.kind
  slot : i64 e.s.slot
  sbirth : i64 e.s.birth
  us : i64 e.s.us
  ub : i64 e.s.ub
  skind : i64 e.s.kind
  level : i64 e.s.level
  born : i64 e.s.born
  deadline : i64 e.s.deadline
  depth : i64 e.s.depth
  birth : i64 e.birth
  ticks : i64 e.ticks

theorem may_rng (e : Evt) (h : mayE e = true) (hsc : 0 ≤ e.s.scopes ∧ e.s.scopes < 18446744073709551616) : e.rng ∧ e.fit := by
  rcases mayE_cases e h with ⟨he, hs⟩ | ⟨he, h1, h2⟩ | ⟨he, h1, h2⟩
  · have ok := mayS_ok e.s hs hsc
    rw [he]
    generalize e.s = s at *
    obtain ⟨o1, o2, o3, o4, o5, o6, o7, o8, o9, o10, o11, o12⟩ := ok
    refine ⟨⟨?_, ?_, ?_, ?_, ?_, ?_, ?_, ?_, ?_, ?_, ?_, ?_⟩, ?_, ?_, o8⟩ <;> (first | (unfold i64; simp only; omega) | (simp only; omega))
  · rw [he]
    generalize e.birth = n at *
    refine ⟨⟨?_, ?_, ?_, ?_, ?_, ?_, ?_, ?_, ?_, ?_, ?_, ?_⟩, ?_, ?_, ?_⟩ <;> (first | (unfold i64; simp only [Sn.zero]; omega) | (simp [Sn.zero]))
  · rw [he]
    generalize e.ticks = n at *
    refine ⟨⟨?_, ?_, ?_, ?_, ?_, ?_, ?_, ?_, ?_, ?_, ?_, ?_⟩, ?_, ?_, ?_⟩ <;> (first | (unfold i64; simp only [Sn.zero]; omega) | (simp [Sn.zero]))

theorem link_eq (a b : Int) (w : World) : (binOp .eql 23 (.agg #[nu a, nu b]) (.agg #[nu 0, nu 0])).run Tryd.prog w = .ok (.bool (a == 0 && b == 0)) w := by
  have hu := Tryd.underlying23
  have hp : Tryd.prog.stoodInHeld 23 = false := by kernel_rfl
  rw [run_eql_struct]
  rw [show (10000 : Nat) = 9999 + 1 from rfl, run_equalIn_agg _ _ _ _ _ (by rw [hu]; simp [Program.fieldsOf, hu]) hp]
  simp only [Program.fieldsOf, hu]
  simp [go_sem, Op.eqFields, part, hp, Tryd.underlying3, Tryd.isAgg3, Tryd.sizeOf3]
  by_cases h1 : a = 0
  · by_cases h2 : b = 0
    · simp [h1, h2]
    · simp [h1, h2]
  · simp [h1]

set_option maxRecDepth 100000 in
theorem ses_ne {a b : Sn} (h : a ≠ b) (w : World) : (binOp .eql 27 (.agg a.arr) (.agg b.arr)).run Tryd.prog w = .ok (.bool false) w := by
  have hu := Tryd.underlying27
  have hp : Tryd.prog.stoodInHeld 27 = false := by kernel_rfl
  have p2 : Tryd.prog.stoodInHeld 23 = false := by kernel_rfl
  rw [run_eql_struct]
  rw [show (10000 : Nat) = 9999 + 1 from rfl, run_equalIn_agg _ _ _ _ _ (by rw [hu]; simp [Program.fieldsOf, hu]) hp]
  simp only [Program.fieldsOf, hu, Sn.arr]
  simp [go_sem, Op.eqFields, part, hp, p2, Tryd.underlying3, Tryd.underlying9, Tryd.underlying25, Tryd.underlying23, Tryd.isAgg3, Tryd.isAgg9, Tryd.isAgg25, Tryd.isAgg23, Tryd.sizeOf3, Tryd.sizeOf9, Tryd.sizeOf25, Tryd.sizeOf23]
  intro e0 e1 e2 e3 e4 e5 e6 e7 e8 e9 e10 e11
  refine h ?_
  obtain ⟨a0, a1, a2, a3, a4, a5, a6, a7, a8, a9, a10, a11⟩ := a
  obtain ⟨b0, b1, b2, b3, b4, b5, b6, b7, b8, b9, b10, b11⟩ := b
  simp only at e0 e1 e2 e3 e4 e5 e6 e7 e8 e9 e10 e11
  subst e0 e1 e2 e3 e4 e5 e6 e7 e8 e9 e10 e11
  rfl

set_option maxRecDepth 100000 in
theorem ses_same (a : Sn) (w : World) : (binOp .eql 27 (.agg a.arr) (.agg a.arr)).run Tryd.prog w = .ok (.bool true) w := by
  have hu := Tryd.underlying27
  have hp : Tryd.prog.stoodInHeld 27 = false := by kernel_rfl
  have p2 : Tryd.prog.stoodInHeld 23 = false := by kernel_rfl
  rw [run_eql_struct]
  rw [show (10000 : Nat) = 9999 + 1 from rfl, run_equalIn_agg _ _ _ _ _ (by rw [hu]; simp [Program.fieldsOf, hu]) hp]
  simp only [Program.fieldsOf, hu, Sn.arr]
  simp [go_sem, Op.eqFields, part, hp, p2, Tryd.underlying3, Tryd.underlying9, Tryd.underlying25, Tryd.underlying23, Tryd.isAgg3, Tryd.isAgg9, Tryd.isAgg25, Tryd.isAgg23, Tryd.sizeOf3, Tryd.sizeOf9, Tryd.sizeOf25, Tryd.sizeOf23]

set_option maxRecDepth 100000 in
theorem evt_same (a : Evt) (w : World) : (binOp .eql 29 (.agg a.arr) (.agg a.arr)).run Tryd.prog w = .ok (.bool true) w := by
  have hu := Tryd.underlying29
  have hu2 := Tryd.underlying27
  have hp : Tryd.prog.stoodInHeld 29 = false := by kernel_rfl
  have p1 : Tryd.prog.stoodInHeld 27 = false := by kernel_rfl
  have p2 : Tryd.prog.stoodInHeld 23 = false := by kernel_rfl
  rw [run_eql_struct]
  rw [show (10000 : Nat) = 9999 + 1 from rfl, run_equalIn_agg _ _ _ _ _ (by rw [hu]; simp [Program.fieldsOf, hu]) hp]
  simp only [Program.fieldsOf, hu, Evt.arr]
  simp [go_sem, Op.eqFields, part, hp, p1, p2, hu2, Program.fieldsOf, Tryd.underlying3, Tryd.underlying9, Tryd.underlying25, Tryd.underlying23, Tryd.isAgg3, Tryd.isAgg9, Tryd.isAgg25, Tryd.isAgg23, Tryd.isAgg27, Tryd.sizeOf3, Tryd.sizeOf9, Tryd.sizeOf25, Tryd.sizeOf23, Tryd.sizeOf27]

set_option maxRecDepth 100000 in
theorem evt_nsame (a : Evt) (w : World) : (binOp .neq 29 (.agg a.arr) (.agg a.arr)).run Tryd.prog w = .ok (.bool false) w := by
  have hu := Tryd.underlying29
  have hu2 := Tryd.underlying27
  have hp : Tryd.prog.stoodInHeld 29 = false := by kernel_rfl
  have p1 : Tryd.prog.stoodInHeld 27 = false := by kernel_rfl
  have p2 : Tryd.prog.stoodInHeld 23 = false := by kernel_rfl
  rw [run_neq_struct]
  rw [show (10000 : Nat) = 9999 + 1 from rfl, run_equalIn_agg _ _ _ _ _ (by rw [hu]; simp [Program.fieldsOf, hu]) hp]
  simp only [Program.fieldsOf, hu, Evt.arr]
  simp [go_sem, Op.eqFields, part, hp, p1, p2, hu2, Program.fieldsOf, Tryd.underlying3, Tryd.underlying9, Tryd.underlying25, Tryd.underlying23, Tryd.isAgg3, Tryd.isAgg9, Tryd.isAgg25, Tryd.isAgg23, Tryd.isAgg27, Tryd.sizeOf3, Tryd.sizeOf9, Tryd.sizeOf25, Tryd.sizeOf23, Tryd.sizeOf27]
end Ev
end Go.Proofs.YtnllplholfhbdaaDoor
