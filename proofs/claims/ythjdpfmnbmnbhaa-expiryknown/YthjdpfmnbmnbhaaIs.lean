/- errors.Is at the errors of package api: a number, or a number with a place. -/
import Derived.Test.YthjdpfmnbmnbhaaProg
import Derived.WalkKit
import Derived.LaidEql
import Derived.Stop.Asserts
namespace Go.Proofs.Ythjdpfmnbmnbhaa
open Go.RowKit Go.Extern.Stop Go.Stop Go.Extern
namespace Er
set_option linter.unusedSimpArgs false
set_option linter.unusedVariables false

/-- An error's number. -/
def noV (n : Int) : Value := .iface 51 (.int .i64 n)

section
variable {P : Program}

theorem eq_in (w : World) (d : Nat) {ti tn : TypeId} {ms : Array (String × TypeId)} {i : TypeInfo} {k : IntKind} (a b : Int)
    (hi : P.underlying ti = some (.interface ms)) (hn : P.underlying tn = some (.int k)) (hc : P.info? tn = some i) (hm : i.comparable = true) :
    (Op.equalIn (d + 2) ti (.iface tn (.int k a)) (.iface tn (.int k b))).run P w = .ok (a == b) w := by
  simp [Op.equalIn, run_underlying hi, run_underlying hn, typeInfo, hc, hm]

theorem eq_errno (w : World) {ti tn : TypeId} {ms : Array (String × TypeId)} {k : IntKind} (a b : Int)
    (hi : P.underlying ti = some (.interface ms)) (hn : P.underlying tn = some (.int k)) (hc : (P.info? tn).map (·.comparable) = some true) :
    (binOp .eql ti (.iface tn (.int k a)) (.iface tn (.int k b))).run P w = .ok (.bool (a == b)) w := by
  obtain ⟨i, h1, h2⟩ := Option.map_eq_some_iff.1 hc
  simp only [binOp]
  simp [Op.equal, Op.maxDepth, eq_in w 9998 a b hi hn h1 h2]
end

theorem cmp62 : (Try.prog.info? 51).map (·.comparable) = some true := by kernel_rfl

theorem eqE (a b : Int) (w : World) : (binOp .eql 29 (noV a) (noV b)).run Try.prog w = .ok (.bool (a == b)) w :=
  eq_errno w a b Try.underlying29 Try.underlying51 cmp62

theorem noIsE (v : Value) (x : TypeId) (w : World) : (Instr.typeAssert (.iface 51 v) x 82 true).run Try.prog w = .ok (.tuple #[.nilIface, .bool false]) w :=
  run_typeAssert_lacksB Try.underlying82 (by kernel_rfl) (by kernel_rfl) v x w

theorem noUnE (v : Value) (x : TypeId) (w : World) : (Instr.typeAssert (.iface 51 v) x 85 true).run Try.prog w = .ok (.tuple #[.nilIface, .bool false]) w :=
  run_typeAssert_lacksB Try.underlying85 (by kernel_rfl) (by kernel_rfl) v x w

theorem noUlE (v : Value) (x : TypeId) (w : World) : (Instr.typeAssert (.iface 51 v) x 87 true).run Try.prog w = .ok (.tuple #[.nilIface, .bool false]) w :=
  run_typeAssert_lacksB Try.underlying87 (by kernel_rfl) (by kernel_rfl) v x w

/-- errors.is at a number. -/
theorem is_no (a b : Int) (w : World) : Calls Try.prog 32 #[noV a, noV b, .bool true] w fun e w' => e = .returned (.bool (a == b)) ∧ w' = w := by
  have h1 := eqE a b
  have h2 := noIsE
  have h3 := noUnE
  have h4 := noUlE
  unfold noV at h1 ⊢
  go_enter Try.func32, Try.ntmps32
  cases hab : (a == b) with
  | true =>
    rw [hab] at h1
    go_wp2
    refine wp_loop_rounds 1 ?_
    rw [rounds_succ]
    go_wp2
    go_ret
    exact ⟨rfl, rfl⟩
  | false =>
    rw [hab] at h1
    go_wp2
    refine wp_loop_rounds 1 ?_
    rw [rounds_succ]
    go_wp2
    go_ret
    exact ⟨rfl, rfl⟩

theorem typeOfE (v : Value) (w : World) : (ReflectliteType.typeOf #[.iface 51 v]).run Try.prog w = .ok (.iface 80 (.agg #[.pointer (some ⟨0, 51, none⟩)])) w := by kernel_rfl

theorem methComparable (h : Value) (w : World) : (Go.method 235 80 (.agg #[h]) "Comparable").run Try.prog w = .ok (65, .agg #[h]) w := by kernel_rfl

theorem comparableE (w : World) : (ReflectliteType.method (fun t => do Rtype.noPackHeld "Comparable" t; (fun a => Value.bool a.comparable) <$> typeInfo t) #[.agg #[.pointer (some ⟨0, 51, none⟩)]]).run Try.prog w = .ok (.bool true) w := by kernel_rfl

set_option maxRecDepth 100000 in
theorem Is_no (a b : Int) (w : World) : Calls Try.prog 22 #[noV a, noV b] w fun e w' => e = .returned (.bool (a == b)) ∧ w' = w := by
  have hT := @run_callFunc_extern Try.prog 31 _ ReflectliteType.typeOf Try.func31 (by kernel_rfl) (by kernel_rfl) (by kernel_rfl) (by kernel_rfl)
  have hC := @run_callFunc_extern Try.prog 65 _ (ReflectliteType.method (fun t => do Rtype.noPackHeld "Comparable" t; pure (.bool (← typeInfo t).comparable))) Try.func65 (by kernel_rfl) (by kernel_rfl) (by kernel_rfl) (by kernel_rfl)
  have h1 := typeOfE
  have h2 := methComparable
  have h3 := comparableE
  have c := is_no a b
  unfold noV at c ⊢
  go_enter Try.func22, Try.ntmps22
  go_wp2_with (go_at_call 32; refine (c _).mono ?_; rintro e w' ⟨rfl, rfl⟩)
  go_ret
  exact ⟨rfl, rfl⟩

end Er
end Go.Proofs.Ythjdpfmnbmnbhaa
