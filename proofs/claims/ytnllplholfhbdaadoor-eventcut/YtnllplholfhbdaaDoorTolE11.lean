import Derived.Test.YtnllplholfhbdaaDoorHapE11
import Derived.Stop.Asserts
/- The program's happenings: what an event says by its kind, and back. -/
namespace Go.Proofs.YtnllplholfhbdaaDoor
set_option linter.ambiguousOpen false
open Go.RowKit
namespace Ev
namespace Pe
open Pk Sm Ft
set_option linter.unusedSimpArgs false
set_option linter.unusedVariables false

set_option maxRecDepth 100000 in
set_option maxHeartbeats 4000000 in
theorem happened_birth (e : Evt) (w : World) (hk : e.kind = 0) : Calls Tryd.prog 24 #[.agg e.arr] w fun x w' => x = .returned (.iface 91 (.agg e.s.arr)) ∧ Below w.heap.size w w' := by
  obtain ⟨kind, ⟨slot, birth, us, ub, skind, user, label, scopes, level, born, deadline, depth⟩, eb, et⟩ := e
  simp only at hk
  subst hk
  unfold Evt.arr Sn.arr
  simp only
  obtain ⟨fl, hfl⟩ : ∃ f, tx label = f := ⟨_, rfl⟩
  obtain ⟨fu, hfu⟩ : ∃ f, tx user = f := ⟨_, rfl⟩
  rw [hfl, hfu]
  clear hfl hfu
  go_enter Tryd.func24, Tryd.ntmps24
  go_wp2
  go_ret
  exact ⟨rfl, (Below.refl _ _).alloc (Nat.le_refl _) _⟩

set_option maxRecDepth 100000 in
set_option maxHeartbeats 4000000 in
theorem happened_rev (e : Evt) (w : World) (hk : e.kind = 1) : Calls Tryd.prog 24 #[.agg e.arr] w fun x w' => x = .returned (.iface 93 (.agg #[nu e.birth])) ∧ Below w.heap.size w w' := by
  obtain ⟨kind, ⟨slot, birth, us, ub, skind, user, label, scopes, level, born, deadline, depth⟩, eb, et⟩ := e
  simp only at hk
  subst hk
  unfold Evt.arr
  simp only
  go_enter Tryd.func24, Tryd.ntmps24
  go_wp2
  go_ret
  exact ⟨rfl, (Below.refl _ _).alloc (Nat.le_refl _) _⟩

set_option maxRecDepth 100000 in
set_option maxHeartbeats 4000000 in
theorem happened_tick (e : Evt) (w : World) (hk : e.kind = 2) : Calls Tryd.prog 24 #[.agg e.arr] w fun x w' => x = .returned (.iface 95 (.agg #[nu e.ticks])) ∧ Below w.heap.size w w' := by
  obtain ⟨kind, ⟨slot, birth, us, ub, skind, user, label, scopes, level, born, deadline, depth⟩, eb, et⟩ := e
  simp only at hk
  subst hk
  unfold Evt.arr
  simp only
  go_enter Tryd.func24, Tryd.ntmps24
  go_wp2
  go_ret
  exact ⟨rfl, (Below.refl _ _).alloc (Nat.le_refl _) _⟩

set_option maxRecDepth 100000 in
set_option maxHeartbeats 4000000 in
theorem happened_none (e : Evt) (w : World) (h0 : e.kind ≠ 0) (h1 : e.kind ≠ 1) (h2 : e.kind ≠ 2) : Calls Tryd.prog 24 #[.agg e.arr] w fun x w' => x = .returned (.iface 97 (.agg #[])) ∧ Below w.heap.size w w' := by
  obtain ⟨kind, ⟨slot, birth, us, ub, skind, user, label, scopes, level, born, deadline, depth⟩, eb, et⟩ := e
  simp only at h0 h1 h2
  unfold Evt.arr
  simp only
  go_enter Tryd.func24, Tryd.ntmps24
  go_wp2
  go_ret
  exact ⟨rfl, (Below.refl _ _).alloc (Nat.le_refl _) _⟩

theorem sizeEv (e : Evt) : (Tryd.prog.info? 29).map (·.size) = some e.arr.size := by
  show _ = some 15
  kernel_rfl

theorem as_bb (v : Value) (x : TypeId) (w : World) : (Instr.typeAssert (.iface 91 v) x 91 true).run Tryd.prog w = .ok (.tuple #[v, .bool true]) w := by
  have h := Tryd.underlying91
  simp [Instr.typeAssert, run_underlying h, go_sem, Result.andThen]

theorem as_rb (v : Value) (x : TypeId) (w : World) : (Instr.typeAssert (.iface 93 v) x 91 true).run Tryd.prog w = .ok (.tuple #[.agg #[nu 0, nu 0, nu 0, nu 0, nu 0, .string ⟨#[]⟩, .string ⟨#[]⟩, .int .u64 0, nu 0, nu 0, nu 0, nu 0], .bool false]) w := by
  have h := Tryd.underlying91
  have hz := Tryd.zeroValue91
  simp [Instr.typeAssert, run_underlying h, go_sem, Result.andThen, hz]

theorem as_rr (v : Value) (x : TypeId) (w : World) : (Instr.typeAssert (.iface 93 v) x 93 true).run Tryd.prog w = .ok (.tuple #[v, .bool true]) w := by
  have h := Tryd.underlying93
  simp [Instr.typeAssert, run_underlying h, go_sem, Result.andThen]

theorem as_tb (v : Value) (x : TypeId) (w : World) : (Instr.typeAssert (.iface 95 v) x 91 true).run Tryd.prog w = .ok (.tuple #[.agg #[nu 0, nu 0, nu 0, nu 0, nu 0, .string ⟨#[]⟩, .string ⟨#[]⟩, .int .u64 0, nu 0, nu 0, nu 0, nu 0], .bool false]) w := by
  have h := Tryd.underlying91
  have hz := Tryd.zeroValue91
  simp [Instr.typeAssert, run_underlying h, go_sem, Result.andThen, hz]

theorem as_tr (v : Value) (x : TypeId) (w : World) : (Instr.typeAssert (.iface 95 v) x 93 true).run Tryd.prog w = .ok (.tuple #[.agg #[nu 0], .bool false]) w := by
  have h := Tryd.underlying93
  have hz := Tryd.zeroValue93
  simp [Instr.typeAssert, run_underlying h, go_sem, Result.andThen, hz]

theorem as_tt (v : Value) (x : TypeId) (w : World) : (Instr.typeAssert (.iface 95 v) x 95 true).run Tryd.prog w = .ok (.tuple #[v, .bool true]) w := by
  have h := Tryd.underlying95
  simp [Instr.typeAssert, run_underlying h, go_sem, Result.andThen]

theorem as_nb (v : Value) (x : TypeId) (w : World) : (Instr.typeAssert (.iface 97 v) x 91 true).run Tryd.prog w = .ok (.tuple #[.agg #[nu 0, nu 0, nu 0, nu 0, nu 0, .string ⟨#[]⟩, .string ⟨#[]⟩, .int .u64 0, nu 0, nu 0, nu 0, nu 0], .bool false]) w := by
  have h := Tryd.underlying91
  have hz := Tryd.zeroValue91
  simp [Instr.typeAssert, run_underlying h, go_sem, Result.andThen, hz]

theorem as_nr (v : Value) (x : TypeId) (w : World) : (Instr.typeAssert (.iface 97 v) x 93 true).run Tryd.prog w = .ok (.tuple #[.agg #[nu 0], .bool false]) w := by
  have h := Tryd.underlying93
  have hz := Tryd.zeroValue93
  simp [Instr.typeAssert, run_underlying h, go_sem, Result.andThen, hz]

theorem as_nt (v : Value) (x : TypeId) (w : World) : (Instr.typeAssert (.iface 97 v) x 95 true).run Tryd.prog w = .ok (.tuple #[.agg #[nu 0], .bool false]) w := by
  have h := Tryd.underlying95
  have hz := Tryd.zeroValue95
  simp [Instr.typeAssert, run_underlying h, go_sem, Result.andThen, hz]

theorem two_new (w : World) (o1 o2 : Obj) : ((w.alloc o1).alloc o2).heap[w.heap.size]? = some o1 := (Below.heap_alloc _ _ _ (by simp)).trans (heap_alloc_new w o1)

theorem two_below (w : World) (o1 o2 : Obj) : Below w.heap.size w ((w.alloc o1).alloc o2) := ((Below.refl _ w).alloc (Nat.le_refl _) _).alloc (by simp) _

set_option maxRecDepth 100000 in
set_option maxHeartbeats 4000000 in
theorem told_birth (s : Sn) (w : World) : Calls Tryd.prog 25 #[.iface 91 (.agg s.arr)] w fun x w' => x = .returned (.agg (Evt.mk 0 s 0 0).arr) ∧ Below w.heap.size w w' := by
  obtain ⟨slot, birth, us, ub, skind, user, label, scopes, level, born, deadline, depth⟩ := s
  unfold Evt.arr Sn.arr
  simp only
  have f1 := as_bb
  go_enter Tryd.func25, Tryd.ntmps25
  go_wp2
  refine bodyPost_ret (results_cell_row rfl _ _ w.heap.size _ _ _ _ rfl (two_new w (.cells (Evt.mk 0 ⟨slot, birth, us, ub, skind, user, label, scopes, level, born, deadline, depth⟩ 0 0).arr 29) _) Tryd.underlying29 rfl (sizeEv (Evt.mk 0 ⟨slot, birth, us, ub, skind, user, label, scopes, level, born, deadline, depth⟩ 0 0))) rfl ?_
  exact ⟨rfl, two_below _ _ _⟩

set_option maxRecDepth 100000 in
set_option maxHeartbeats 4000000 in
theorem told_rev (n : Int) (w : World) : Calls Tryd.prog 25 #[.iface 93 (.agg #[nu n])] w fun x w' => x = .returned (.agg (Evt.mk 1 Sn.zero n 0).arr) ∧ Below w.heap.size w w' := by
  have f1 := as_rb
  have f2 := as_rr
  go_enter Tryd.func25, Tryd.ntmps25
  go_wp2
  refine bodyPost_ret (results_cell_row rfl _ _ w.heap.size _ _ _ _ rfl (two_new w (.cells (Evt.mk 1 Sn.zero n 0).arr 29) _) Tryd.underlying29 rfl (sizeEv (Evt.mk 1 Sn.zero n 0))) rfl ?_
  exact ⟨rfl, two_below _ _ _⟩

set_option maxRecDepth 100000 in
set_option maxHeartbeats 4000000 in
theorem told_tick (n : Int) (w : World) : Calls Tryd.prog 25 #[.iface 95 (.agg #[nu n])] w fun x w' => x = .returned (.agg (Evt.mk 2 Sn.zero 0 n).arr) ∧ Below w.heap.size w w' := by
  have f1 := as_tb
  have f2 := as_tr
  have f3 := as_tt
  go_enter Tryd.func25, Tryd.ntmps25
  go_wp2
  refine bodyPost_ret (results_cell_row rfl _ _ w.heap.size _ _ _ _ rfl (two_new w (.cells (Evt.mk 2 Sn.zero 0 n).arr 29) _) Tryd.underlying29 rfl (sizeEv (Evt.mk 2 Sn.zero 0 n))) rfl ?_
  exact ⟨rfl, two_below _ _ _⟩

set_option maxRecDepth 100000 in
set_option maxHeartbeats 4000000 in
theorem told_none (w : World) : Calls Tryd.prog 25 #[.iface 97 (.agg #[])] w fun x w' => x = .returned (.agg (Evt.zero).arr) ∧ Below w.heap.size w w' := by
  have f1 := as_nb
  have f2 := as_nr
  have f3 := as_nt
  go_enter Tryd.func25, Tryd.ntmps25
  go_wp2
  refine bodyPost_ret (results_cell_row rfl _ _ w.heap.size _ _ _ _ rfl (heap_alloc_new w (.cells (Evt.zero).arr 29)) Tryd.underlying29 rfl (sizeEv (Evt.zero))) rfl ?_
  exact ⟨rfl, (Below.refl _ w).alloc (Nat.le_refl _) _⟩

set_option maxRecDepth 100000 in
theorem evt_ne {a b : Evt} (h : a ≠ b) (w : World) : (binOp .neq 29 (.agg a.arr) (.agg b.arr)).run Tryd.prog w = .ok (.bool true) w := by
  have hu := Tryd.underlying29
  have hu2 := Tryd.underlying27
  have hp : Tryd.prog.stoodInHeld 29 = false := by kernel_rfl
  have p1 : Tryd.prog.stoodInHeld 27 = false := by kernel_rfl
  have p2 : Tryd.prog.stoodInHeld 23 = false := by kernel_rfl
  rw [run_neq_struct]
  rw [show (10000 : Nat) = 9999 + 1 from rfl, run_equalIn_agg _ _ _ _ _ (by rw [hu]; simp [Program.fieldsOf, hu]) hp]
  simp only [Program.fieldsOf, hu, Evt.arr]
  simp [go_sem, Op.eqFields, part, hp, p1, p2, hu2, Program.fieldsOf, Tryd.underlying3, Tryd.underlying9, Tryd.underlying25, Tryd.underlying23, Tryd.isAgg3, Tryd.isAgg9, Tryd.isAgg25, Tryd.isAgg23, Tryd.isAgg27, Tryd.sizeOf3, Tryd.sizeOf9, Tryd.sizeOf25, Tryd.sizeOf23, Tryd.sizeOf27]
  intro e0 e1 e2 e3 e4 e5 e6 e7 e8 e9 e10 e11 e12 e13 e14
  refine h ?_
  obtain ⟨a0, ⟨a1, a2, a3, a4, a5, a6, a7, a8, a9, a10, a11, a12⟩, a13, a14⟩ := a
  obtain ⟨b0, ⟨b1, b2, b3, b4, b5, b6, b7, b8, b9, b10, b11, b12⟩, b13, b14⟩ := b
  simp only at e0 e1 e2 e3 e4 e5 e6 e7 e8 e9 e10 e11 e12 e13 e14
  subst e0 e1 e2 e3 e4 e5 e6 e7 e8 e9 e10 e11 e12 e13 e14
  rfl

theorem m_bm (v : Value) (w : World) : (Go.method 281 91 v "lineage/event.may").run Tryd.prog w = .ok (94, v) w := by kernel_rfl

theorem m_rm (v : Value) (w : World) : (Go.method 281 93 v "lineage/event.may").run Tryd.prog w = .ok (104, v) w := by kernel_rfl

theorem m_tm (v : Value) (w : World) : (Go.method 281 95 v "lineage/event.may").run Tryd.prog w = .ok (106, v) w := by kernel_rfl

theorem m_nm (v : Value) (w : World) : (Go.method 281 97 v "lineage/event.may").run Tryd.prog w = .ok (108, v) w := by kernel_rfl

theorem m_bp (v : Value) (w : World) : (Go.method 281 91 v "lineage/event.put").run Tryd.prog w = .ok (95, v) w := by kernel_rfl

theorem m_rp (v : Value) (w : World) : (Go.method 281 93 v "lineage/event.put").run Tryd.prog w = .ok (105, v) w := by kernel_rfl

theorem m_tp (v : Value) (w : World) : (Go.method 281 95 v "lineage/event.put").run Tryd.prog w = .ok (107, v) w := by kernel_rfl

end Pe
end Ev
end Go.Proofs.YtnllplholfhbdaaDoor
