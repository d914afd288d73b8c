/- What a walk gets of the listed variables, and a world that holds them: for every list. -/
import Derived.Test.YtbgggekkkcefcabDoorAsTop
import Derived.Test.YtbgggekkkcefcabDoorFlat
import Derived.Test.YtbgggekkkcefcabDoorRows
import Derived.LaidMore
import Derived.Lay
import Derived.LaidOnce
import Derived.LaidLaws
import Derived.LaidHandle
import Derived.LaidSub
import Derived.MakeChecks
import Derived.OpenVars
import Derived.OpenShut
import Derived.ChangeSame
import Derived.ChangeVars
import Derived.JoinedOf
import Derived.RowKit
import Derived.RowKitTokens
import Derived.Stop.Joined
import Derived.Lib.LaidTab
namespace Go.Proofs.YtbgggekkkcefcabDoor
open Go.ChangeShapes Go.WideShapes Go.RowKit
set_option linter.unusedVariables false

theorem wf_i64 {a : Int} (h : (Lit.int .i64 a).wf = true) : -9223372036854775808 ≤ a ∧ a ≤ 9223372036854775807 := by
  simp [Lit.wf, IntKind.min, IntKind.max, IntKind.signed, IntKind.bits] at h
  omega

theorem wf_u64 {a : Int} (h : (Lit.int .u64 a).wf = true) : ∃ x : Nat, a = x ∧ x < 18446744073709551616 := by
  simp [Lit.wf, IntKind.min, IntKind.max, IntKind.signed, IntKind.bits] at h
  exact ⟨a.toNat, by omega, by omega⟩

theorem Tryd.ownX : ownKnob Tryd.prog.godebug = none := by kernel_rfl

namespace Er

def errLaid : List (String × DataW Unit) := [("errors.errorType", Rows.laid_errors_errorType)]
theorem etX : Tryd.prog.globalNamed "errors.errorType" = some 0 := by kernel_rfl
theorem rtX : (Tryd.prog.cutTypes.find? (·.1 == "internal/reflectlite.rtype")).map (·.2) = some 104 := by kernel_rfl
theorem oneRowX : ((List.range 148).filter fun t => Tryd.prog.rowNamed t [101, 114, 114, 111, 114]) = [30] := by kernel_rfl
theorem sizeX : Tryd.prog.types.size = 148 := by kernel_rfl
theorem handle_of {W : World} (h' : handlesMet Tryd.prog errLaid W) : Handle W := by
  obtain ⟨name, u, ty, e1, e2, e3, e4, e5⟩ := h' _ (List.mem_singleton.2 rfl)
  have en : name = [101, 114, 114, 111, 114] := (Option.some.inj e1).symm
  subst en
  obtain rfl := Option.some.inj (rtX.symm.trans e2)
  have hm : ty ∈ (List.range 148).filter fun t => Tryd.prog.rowNamed t [101, 114, 114, 111, 114] := List.mem_filter.2 ⟨List.mem_range.2 (by rw [← sizeX]; exact e3), e4⟩
  rw [oneRowX] at hm
  obtain rfl := List.mem_singleton.1 hm
  have hh : typeHandle Tryd.prog 30 = .pointer (some ⟨2, 30, none⟩) := by kernel_rfl
  rw [hh] at e5
  have := World.var?_cell etX e5 0
  show W.cell? _ = _
  simpa using this
theorem err_of {L : List (String × DataW Unit)} {W : World} (h : laidMetH Tryd.prog L W) (e : (L.filter fun x => x.1 == "errors.errorType") = errLaid) : Handle W := by
  have h2 := h.filter fun x => x.1 == "errors.errorType"
  rw [e] at h2
  have h' : laidMet Tryd.prog [] W ∧ handlesMet Tryd.prog errLaid W := h2
  exact handle_of h'.2

/-- A world with the variable's cell laid. -/
noncomputable def withE (w0 : World) : World :=
  { w0 with heap := w0.heap.modify 0 fun
      | .cells _ t frozen => .cells #[.iface 104 (.agg #[.pointer (some ⟨2, 30, none⟩)])] t frozen
      | o => o }
end Er

/-- A world that holds the listed variables. -/
noncomputable def worldOf (os : Os) (L : List (String × DataW Unit)) : World := Er.withE (World.laidAll Tryd.prog os (L.filter fun x => x.2.handleName?.isNone))
theorem worldOf_os (os : Os) (L : List (String × DataW Unit)) : (worldOf os L).os = os := by
  show (World.laidAll Tryd.prog os _).os = os
  exact World.laidAll_os _ _ _
theorem worldOf_met (os : Os) (L : List (String × DataW Unit)) (args : Array Value)
    (h1 : (DataW.laidRun Tryd.prog ((worldOf os L).forCall (fun _ _ => 0) ⟨#[], args, []⟩).memory 8 ((L.filter fun x => x.2.handleName?.isNone).map (·.1))).map (·.1) = some (L.filter fun x => x.2.handleName?.isNone))
    (h2 : (DataW.laidRun Tryd.prog ((worldOf os L).forCall (fun _ _ => 0) ⟨#[], args, []⟩).memory 8 ((L.filter fun x => x.2.handleName?.isNone).map (·.1))).map (fun x => decide x.2.Nodup && laidRowsB Tryd.prog ((worldOf os L).forCall (fun _ _ => 0) ⟨#[], args, []⟩).memory x.2) = some true)
    (h3 : (L.filter fun x => x.2.handleName?.isSome).all (handleAtB Tryd.prog ((worldOf os L).forCall (fun _ _ => 0) ⟨#[], args, []⟩).memory) = true) :
    laidMetH Tryd.prog L ((worldOf os L).forCall (fun _ _ => 0) ⟨#[], args, []⟩).memory :=
  laidMetH_of_parts (laidMet_of_run' 8 h1 h2) h3

end Go.Proofs.YtbgggekkkcefcabDoor
