/- errors.Is at the errors of package api: a number, or a number with a place. -/
import Derived.Test.YtalpbciceogjlaaProg
import Derived.WalkKit
import Derived.LaidEql
import Derived.Stop.Asserts
namespace Go.Proofs.Ytalpbciceogjlaa
open Go.RowKit Go.Extern.Stop Go.Stop Go.Extern
namespace Er
set_option linter.unusedSimpArgs false
set_option linter.unusedVariables false

/-- An error's number. -/
def noV (n : Int) : Value := .iface 60 (.int .i64 n)

section
variable {P : Program}

theorem eq_in (w : World) (d : Nat) {ti tn : TypeId} {ms : Array (String × TypeId)} {i : TypeInfo} {k : IntKind} (a b : Int)
    (hi : P.underlying ti = some (.interface ms)) (hn : P.underlying tn = some (.int k)) (hc : P.info? tn = some i) (hm : i.comparable = true) :
    (Op.equalIn (d + 2) ti (.iface tn (.int k a)) (.iface tn (.int k b))).run P w = .ok (a == b) w := by
  simp [Op.equalIn, run_underlying hi, run_underlying hn, typeInfo, hc, hm]

theorem eq_errno (w : World) {ti tn : TypeId} {ms : Array (String × TypeId)} {k : IntKind} (a b : Int)
    (hi : P.underlying ti = some (.interface ms)) (hn : P.underlying tn = some (.int k)) (hc : (P.info? tn).map (·.comparable) = some true) :
    (binOp .eql ti (.iface tn (.int k a)) (.iface tn (.int k b))).run P w = .ok (.bool (a == b)) w := by
  obtain ⟨i, h1, h2⟩ := Option.map_eq_some_iff.1 hc
  simp only [binOp]
  simp [Op.equal, Op.maxDepth, eq_in w 9998 a b hi hn h1 h2]
end

theorem cmp62 : (Try.prog.info? 60).map (·.comparable) = some true := by kernel_rfl

theorem eqE (a b : Int) (w : World) : (binOp .eql 39 (noV a) (noV b)).run Try.prog w = .ok (.bool (a == b)) w :=
  eq_errno w a b Try.underlying39 Try.underlying60 cmp62

theorem noIsE (v : Value) (x : TypeId) (w : World) : (Instr.typeAssert (.iface 60 v) x 75 true).run Try.prog w = .ok (.tuple #[.nilIface, .bool false]) w :=
  run_typeAssert_lacksB Try.underlying75 (by kernel_rfl) (by kernel_rfl) v x w

theorem noUnE (v : Value) (x : TypeId) (w : World) : (Instr.typeAssert (.iface 60 v) x 78 true).run Try.prog w = .ok (.tuple #[.nilIface, .bool false]) w :=
  run_typeAssert_lacksB Try.underlying78 (by kernel_rfl) (by kernel_rfl) v x w

theorem noUlE (v : Value) (x : TypeId) (w : World) : (Instr.typeAssert (.iface 60 v) x 80 true).run Try.prog w = .ok (.tuple #[.nilIface, .bool false]) w :=
  run_typeAssert_lacksB Try.underlying80 (by kernel_rfl) (by kernel_rfl) v x w

/-- errors.is at a number. -/
theorem is_no (a b : Int) (w : World) : Calls Try.prog 31 #[noV a, noV b, .bool true] w fun e w' => e = .returned (.bool (a == b)) ∧ w' = w := by
  have h1 := eqE a b
  have h2 := noIsE
  have h3 := noUnE
  have h4 := noUlE
  unfold noV at h1 ⊢
  go_enter Try.func31, Try.ntmps31
  cases hab : (a == b) with
  | true =>
    rw [hab] at h1
    go_wp2
    refine wp_loop_rounds 1 ?_
    rw [rounds_succ]
    go_wp2
    go_ret
    exact ⟨rfl, rfl⟩
  | false =>
    rw [hab] at h1
    go_wp2
    refine wp_loop_rounds 1 ?_
    rw [rounds_succ]
    go_wp2
    go_ret
    exact ⟨rfl, rfl⟩

theorem typeOfE (v : Value) (w : World) : (ReflectliteType.typeOf #[.iface 60 v]).run Try.prog w = .ok (.iface 73 (.agg #[.pointer (some ⟨0, 60, none⟩)])) w := by kernel_rfl

theorem methComparable (h : Value) (w : World) : (Go.method 217 73 (.agg #[h]) "Comparable").run Try.prog w = .ok (52, .agg #[h]) w := by kernel_rfl

theorem comparableE (w : World) : (ReflectliteType.method (fun t => do Rtype.noPackHeld "Comparable" t; (fun a => Value.bool a.comparable) <$> typeInfo t) #[.agg #[.pointer (some ⟨0, 60, none⟩)]]).run Try.prog w = .ok (.bool true) w := by kernel_rfl

set_option maxRecDepth 100000 in
theorem Is_no (a b : Int) (w : World) : Calls Try.prog 27 #[noV a, noV b] w fun e w' => e = .returned (.bool (a == b)) ∧ w' = w := by
  have hT := @run_callFunc_extern Try.prog 30 _ ReflectliteType.typeOf Try.func30 (by kernel_rfl) (by kernel_rfl) (by kernel_rfl) (by kernel_rfl)
  have hC := @run_callFunc_extern Try.prog 52 _ (ReflectliteType.method (fun t => do Rtype.noPackHeld "Comparable" t; pure (.bool (← typeInfo t).comparable))) Try.func52 (by kernel_rfl) (by kernel_rfl) (by kernel_rfl) (by kernel_rfl)
  have h1 := typeOfE
  have h2 := methComparable
  have h3 := comparableE
  have c := is_no a b
  unfold noV at c ⊢
  go_enter Try.func27, Try.ntmps27
  go_wp2_with (go_at_call 31; refine (c _).mono ?_; rintro e w' ⟨rfl, rfl⟩)
  go_ret
  exact ⟨rfl, rfl⟩

end Er
end Go.Proofs.Ytalpbciceogjlaa
