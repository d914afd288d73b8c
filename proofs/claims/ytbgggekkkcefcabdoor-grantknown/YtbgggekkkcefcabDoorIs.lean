/- errors.Is at the errors of package api: a number, or a number with a place. -/
import Derived.Test.YtbgggekkkcefcabDoorProg
import Derived.WalkKit
import Derived.LaidEql
import Derived.Stop.Asserts
namespace Go.Proofs.YtbgggekkkcefcabDoor
open Go.RowKit Go.Extern.Stop Go.Stop Go.Extern
namespace Er
set_option linter.unusedSimpArgs false
set_option linter.unusedVariables false

/-- An error's number. -/
def noV (n : Int) : Value := .iface 49 (.int .i64 n)

/-- An error with a place. -/
def atV (n k : Int) : Value := .iface 73 (.agg #[.int .i64 n, .int .i64 k])

section
variable {P : Program}

theorem eq_in (w : World) (d : Nat) {ti tn : TypeId} {ms : Array (String × TypeId)} {i : TypeInfo} {k : IntKind} (a b : Int)
    (hi : P.underlying ti = some (.interface ms)) (hn : P.underlying tn = some (.int k)) (hc : P.info? tn = some i) (hm : i.comparable = true) :
    (Op.equalIn (d + 2) ti (.iface tn (.int k a)) (.iface tn (.int k b))).run P w = .ok (a == b) w := by
  simp [Op.equalIn, run_underlying hi, run_underlying hn, typeInfo, hc, hm]

theorem eq_errno (w : World) {ti tn : TypeId} {ms : Array (String × TypeId)} {k : IntKind} (a b : Int)
    (hi : P.underlying ti = some (.interface ms)) (hn : P.underlying tn = some (.int k)) (hc : (P.info? tn).map (·.comparable) = some true) :
    (binOp .eql ti (.iface tn (.int k a)) (.iface tn (.int k b))).run P w = .ok (.bool (a == b)) w := by
  obtain ⟨i, h1, h2⟩ := Option.map_eq_some_iff.1 hc
  simp only [binOp]
  simp [Op.equal, Op.maxDepth, eq_in w 9998 a b hi hn h1 h2]
end

theorem cmp62 : (Tryd.prog.info? 49).map (·.comparable) = some true := by kernel_rfl

theorem eqE (a b : Int) (w : World) : (binOp .eql 30 (noV a) (noV b)).run Tryd.prog w = .ok (.bool (a == b)) w :=
  eq_errno w a b Tryd.underlying30 Tryd.underlying49 cmp62

theorem eqF (n k b : Int) (w : World) : (binOp .eql 30 (atV n k) (noV b)).run Tryd.prog w = .ok (.bool false) w :=
  run_eql_iface_types 73 49 _ _ Tryd.underlying30 (by decide) w

theorem noIsE (v : Value) (x : TypeId) (w : World) : (Instr.typeAssert (.iface 49 v) x 106 true).run Tryd.prog w = .ok (.tuple #[.nilIface, .bool false]) w :=
  run_typeAssert_lacksB Tryd.underlying106 (by kernel_rfl) (by kernel_rfl) v x w

theorem noIsF (v : Value) (x : TypeId) (w : World) : (Instr.typeAssert (.iface 73 v) x 106 true).run Tryd.prog w = .ok (.tuple #[.nilIface, .bool false]) w :=
  run_typeAssert_lacksB Tryd.underlying106 (by kernel_rfl) (by kernel_rfl) v x w

theorem noUnE (v : Value) (x : TypeId) (w : World) : (Instr.typeAssert (.iface 49 v) x 108 true).run Tryd.prog w = .ok (.tuple #[.nilIface, .bool false]) w :=
  run_typeAssert_lacksB Tryd.underlying108 (by kernel_rfl) (by kernel_rfl) v x w

theorem noUlE (v : Value) (x : TypeId) (w : World) : (Instr.typeAssert (.iface 49 v) x 110 true).run Tryd.prog w = .ok (.tuple #[.nilIface, .bool false]) w :=
  run_typeAssert_lacksB Tryd.underlying110 (by kernel_rfl) (by kernel_rfl) v x w

theorem unF (v : Value) (x : TypeId) (w : World) : (Instr.typeAssert (.iface 73 v) x 108 true).run Tryd.prog w = .ok (.tuple #[.iface 73 v, .bool true]) w :=
  run_typeAssert_hasB Tryd.underlying108 (by kernel_rfl) v x w

theorem methUn (v : Value) (w : World) : (Go.method 248 73 v "Unwrap").run Tryd.prog w = .ok (90, v) w := by kernel_rfl

theorem unwrap_any (n k : Int) (w : World) : Calls Tryd.prog 90 #[.agg #[.int .i64 n, .int .i64 k]] w fun e w' => e = .returned (noV n) ∧ w' = w.alloc (.cells #[.int .i64 n, .int .i64 k] 73) := by
  go_enter Tryd.func90, Tryd.ntmps90
  go_wp2
  go_ret
  exact ⟨rfl, rfl⟩

/-- errors.is at a number. -/
theorem is_no (a b : Int) (w : World) : Calls Tryd.prog 59 #[noV a, noV b, .bool true] w fun e w' => e = .returned (.bool (a == b)) ∧ w' = w := by
  have h1 := eqE a b
  have h2 := noIsE
  have h3 := noUnE
  have h4 := noUlE
  unfold noV at h1 ⊢
  go_enter Tryd.func59, Tryd.ntmps59
  cases hab : (a == b) with
  | true =>
    rw [hab] at h1
    go_wp2
    refine wp_loop_rounds 1 ?_
    rw [rounds_succ]
    go_wp2
    go_ret
    exact ⟨rfl, rfl⟩
  | false =>
    rw [hab] at h1
    go_wp2
    refine wp_loop_rounds 1 ?_
    rw [rounds_succ]
    go_wp2
    go_ret
    exact ⟨rfl, rfl⟩

set_option maxRecDepth 100000 in
/-- errors.is at a number with a place. -/
theorem is_at (n k b : Int) (w : World) : Calls Tryd.prog 59 #[atV n k, noV b, .bool true] w fun e w' => e = .returned (.bool (n == b)) ∧ w' = w.alloc (.cells #[.int .i64 n, .int .i64 k] 73) := by
  have h0 := eqF n k b
  have h1 := eqE n b
  have h2 := noIsE
  have h3 := noUnE
  have h4 := noUlE
  have h5 := noIsF
  have h6 := unF
  have h7 := methUn
  unfold noV at h0 h1 ⊢
  unfold atV at h0 ⊢
  go_enter Tryd.func59, Tryd.ntmps59
  cases hab : (n == b) with
  | true =>
    rw [hab] at h1
    go_wp2
    refine wp_loop_rounds 2 ?_
    rw [rounds_succ]
    go_wp2_with (go_at_call 90; refine (unwrap_any n k _).mono ?_; unfold noV; rintro e w' ⟨rfl, rfl⟩)
    rw [rounds_succ]
    go_wp2
    go_ret
    exact ⟨rfl, rfl⟩
  | false =>
    rw [hab] at h1
    go_wp2
    refine wp_loop_rounds 2 ?_
    rw [rounds_succ]
    go_wp2_with (go_at_call 90; refine (unwrap_any n k _).mono ?_; unfold noV; rintro e w' ⟨rfl, rfl⟩)
    rw [rounds_succ]
    go_wp2
    go_ret
    exact ⟨rfl, rfl⟩

theorem typeOfE (v : Value) (w : World) : (ReflectliteType.typeOf #[.iface 49 v]).run Tryd.prog w = .ok (.iface 104 (.agg #[.pointer (some ⟨2, 49, none⟩)])) w := by kernel_rfl

theorem methComparable (h : Value) (w : World) : (Go.method 248 104 (.agg #[h]) "Comparable").run Tryd.prog w = .ok (96, .agg #[h]) w := by kernel_rfl

theorem comparableE (w : World) : (ReflectliteType.method (fun t => do Rtype.noPackHeld "Comparable" t; (fun a => Value.bool a.comparable) <$> typeInfo t) #[.agg #[.pointer (some ⟨2, 49, none⟩)]]).run Tryd.prog w = .ok (.bool true) w := by kernel_rfl

set_option maxRecDepth 100000 in
theorem Is_no (a b : Int) (w : World) : Calls Tryd.prog 42 #[noV a, noV b] w fun e w' => e = .returned (.bool (a == b)) ∧ w' = w := by
  have hT := @run_callFunc_extern Tryd.prog 58 _ ReflectliteType.typeOf Tryd.func58 (by kernel_rfl) (by kernel_rfl) (by kernel_rfl) (by kernel_rfl)
  have hC := @run_callFunc_extern Tryd.prog 96 _ (ReflectliteType.method (fun t => do Rtype.noPackHeld "Comparable" t; pure (.bool (← typeInfo t).comparable))) Tryd.func96 (by kernel_rfl) (by kernel_rfl) (by kernel_rfl) (by kernel_rfl)
  have h1 := typeOfE
  have h2 := methComparable
  have h3 := comparableE
  have c := is_no a b
  unfold noV at c ⊢
  go_enter Tryd.func42, Tryd.ntmps42
  go_wp2_with (go_at_call 59; refine (c _).mono ?_; rintro e w' ⟨rfl, rfl⟩)
  go_ret
  exact ⟨rfl, rfl⟩

set_option maxRecDepth 100000 in
theorem Is_at (n k b : Int) (w : World) : Calls Tryd.prog 42 #[atV n k, noV b] w fun e w' => e = .returned (.bool (n == b)) ∧ w' = w.alloc (.cells #[.int .i64 n, .int .i64 k] 73) := by
  have hT := @run_callFunc_extern Tryd.prog 58 _ ReflectliteType.typeOf Tryd.func58 (by kernel_rfl) (by kernel_rfl) (by kernel_rfl) (by kernel_rfl)
  have hC := @run_callFunc_extern Tryd.prog 96 _ (ReflectliteType.method (fun t => do Rtype.noPackHeld "Comparable" t; pure (.bool (← typeInfo t).comparable))) Tryd.func96 (by kernel_rfl) (by kernel_rfl) (by kernel_rfl) (by kernel_rfl)
  have h1 := typeOfE
  have h2 := methComparable
  have h3 := comparableE
  have c := is_at n k b
  unfold noV at c ⊢
  unfold atV at c ⊢
  go_enter Tryd.func42, Tryd.ntmps42
  go_wp2_with (go_at_call 59; refine (c _).mono ?_; rintro e w' ⟨rfl, rfl⟩)
  go_ret
  exact ⟨rfl, rfl⟩
end Er
end Go.Proofs.YtbgggekkkcefcabDoor
