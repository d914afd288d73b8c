/- errors.Is at the errors of package api: a number, or a number with a place. -/
import Derived.Test.YteclbmmhidmklaaProg
import Derived.WalkKit
import Derived.LaidEql
import Derived.Stop.Asserts
namespace Go.Proofs.Yteclbmmhidmklaa
open Go.RowKit Go.Extern.Stop Go.Stop Go.Extern
namespace Er
set_option linter.unusedSimpArgs false
set_option linter.unusedVariables false

/-- An error's number. -/
def noV (n : Int) : Value := .iface 59 (.int .i64 n)

section
variable {P : Program}

theorem eq_in (w : World) (d : Nat) {ti tn : TypeId} {ms : Array (String × TypeId)} {i : TypeInfo} {k : IntKind} (a b : Int)
    (hi : P.underlying ti = some (.interface ms)) (hn : P.underlying tn = some (.int k)) (hc : P.info? tn = some i) (hm : i.comparable = true) :
    (Op.equalIn (d + 2) ti (.iface tn (.int k a)) (.iface tn (.int k b))).run P w = .ok (a == b) w := by
  simp [Op.equalIn, run_underlying hi, run_underlying hn, typeInfo, hc, hm]

theorem eq_errno (w : World) {ti tn : TypeId} {ms : Array (String × TypeId)} {k : IntKind} (a b : Int)
    (hi : P.underlying ti = some (.interface ms)) (hn : P.underlying tn = some (.int k)) (hc : (P.info? tn).map (·.comparable) = some true) :
    (binOp .eql ti (.iface tn (.int k a)) (.iface tn (.int k b))).run P w = .ok (.bool (a == b)) w := by
  obtain ⟨i, h1, h2⟩ := Option.map_eq_some_iff.1 hc
  simp only [binOp]
  simp [Op.equal, Op.maxDepth, eq_in w 9998 a b hi hn h1 h2]
end

theorem cmp62 : (Try.prog.info? 59).map (·.comparable) = some true := by kernel_rfl

theorem eqE (a b : Int) (w : World) : (binOp .eql 44 (noV a) (noV b)).run Try.prog w = .ok (.bool (a == b)) w :=
  eq_errno w a b Try.underlying44 Try.underlying59 cmp62

theorem comparableE (w : World) : (ReflectliteType.method (fun t => do Rtype.noPackHeld "Comparable" t; (fun a => Value.bool a.comparable) <$> typeInfo t) #[.agg #[.pointer (some ⟨0, 59, none⟩)]]).run Try.prog w = .ok (.bool true) w := by kernel_rfl

end Er
end Go.Proofs.Yteclbmmhidmklaa
