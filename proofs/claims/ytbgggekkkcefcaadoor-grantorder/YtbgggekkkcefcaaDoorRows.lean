/-
  NARROWER THAN 'FOR EVERY INPUT', by the rows' own cells (each row's printed sentence says how): GrantLogins: laid · GrantChildren: laid · GrantRaises: laid · GrantNarrower: laid · GrantOrder: laid · GrantLess: laid.
  DERIVED. THE GIVEN ROWS OF THIS SEAT. 6 by the template 'for every input the law returns true; each argument reads behind the call as it read before'; 0 by the template 'total and deterministic' (their statements: YtbgggekkkcefcaaDoorTotals.lean).
  GIVEN WITH THE SEED: the statements are not yours to turn. If you find one false, say at which input.
  Laid BY PROGRAM, IN A SANDBOX (cutbox-rows.mjs): the forced cells as the released guide's own fill.sh prints them over the translation 3ea8be2e2b5fb989… (all of the seat's roots in one cut). By AI agents, Wed Nov 11 2026. No macro, syntax, notation, axiom, sorry.
-/
import Derived.Test.YtbgggekkkcefcaaDoorChecked
import GoSem.Claim
import GoSem.ClaimJoined
import GoSem.ClaimMapViews
import Derived.JoinedTies
import Derived.KernelRfl
namespace Go.Proofs.YtbgggekkkcefcaaDoor
/- THE CELL 'sum', in the pinned program and in every row, IS THE sha256 OF THE DUMP (.gsa) THAT YtbgggekkkcefcaaDoorProg.lean LOADS. Nothing in Lean hashes anything: it is a label: what it is worth is what the hold of that sum in a sandbox is worth. -/
noncomputable def Tryd.pinned : Pinned := { name := "ytbgggekkkcefcaadoor", sum := "3ea8be2e2b5fb9898da15ce94f0ef8b1502d386ee3269f44a46f68ad841e6264", checked := Tryd.checked }
namespace Rows
def none {H : Type} : Left H := { results := [], args := [] }

/- WHAT THE LISTED PACKAGE-LEVEL VARIABLES READ AS WHEN THE CALL BEGINS. Each datum BY PROGRAM (the guide's laid-datum.mjs) off the statement by which the dump's own 'gosem.cut.vars' lays the variable. In a bare row this is a premise. The card (YtbgggekkkcefcaaDoorCards.lean) ties it to the program's text. -/
def laid_errors_errorType {H : Type} : DataW H := .iface "internal/reflectlite.rtype" (.agg [.ptr (.lit (.string [101, 114, 114, 111, 114]))])
def laid_lineage_level_steps {H : Type} : DataW H := .agg [.agg [.lit (.int .i64 0), .lit (.int .i64 1)], .agg [.lit (.int .i64 0), .lit (.int .i64 2)], .agg [.lit (.int .i64 1), .lit (.int .i64 2)]]

/-- 'lineagelaw22.GrantLogins': WHATEVER THE INPUT: true; the input reads as it did. -/
def grantLoginsSpec : ChangeSpec := { name := "grantLogins", fn := fun _ => fun
  | [d1, d2] => { results := [.lit (.bool true)], args := [d1, d2] }
  | _ => none }
def grantLoginsRow : OpenClaim := { program := "ytbgggekkkcefcaadoor", sum := "3ea8be2e2b5fb9898da15ce94f0ef8b1502d386ee3269f44a46f68ad841e6264", func := "lineage/lineagelaw22.GrantLogins", spec := "grantLogins", inPlace := ["internal/reflectlite.TypeOf", "internal/reflectlite.ValueOf", "(internal/reflectlite.Value).Type", "(internal/reflectlite.Value).IsNil", "(internal/reflectlite.Value).Elem", "(internal/reflectlite.Value).Set"], unfollowed := true, recurses := true, named := ["errors.errorType"], apart := false, laid := [("errors.errorType", laid_errors_errorType)] }
def GrantLoginsSaid : Prop := grantLoginsRow.holds Tryd.pinned (OpenSpec.ofChange grantLoginsSpec)

/-- ITS FALSE NEIGHBOUR: 'it returns false'. Refute it at one input. -/
def grantLoginsWrong : ChangeSpec := { name := "grantLogins", fn := fun _ => fun
  | [d1, d2] => { results := [.lit (.bool false)], args := [d1, d2] }
  | _ => none }
def GrantLoginsWrongFalsely : Prop := grantLoginsRow.holds Tryd.pinned (OpenSpec.ofChange grantLoginsWrong)

/-- 'lineagelaw22.GrantChildren': WHATEVER THE INPUT: true; the input reads as it did. -/
def grantChildrenSpec : ChangeSpec := { name := "grantChildren", fn := fun _ => fun
  | [d1, d2, d3] => { results := [.lit (.bool true)], args := [d1, d2, d3] }
  | _ => none }
def grantChildrenRow : OpenClaim := { program := "ytbgggekkkcefcaadoor", sum := "3ea8be2e2b5fb9898da15ce94f0ef8b1502d386ee3269f44a46f68ad841e6264", func := "lineage/lineagelaw22.GrantChildren", spec := "grantChildren", inPlace := ["internal/reflectlite.TypeOf", "internal/reflectlite.ValueOf", "(internal/reflectlite.Value).Type", "(internal/reflectlite.Value).IsNil", "(internal/reflectlite.Value).Elem", "(internal/reflectlite.Value).Set"], unfollowed := true, recurses := true, named := ["errors.errorType"], apart := false, laid := [("errors.errorType", laid_errors_errorType)] }
def GrantChildrenSaid : Prop := grantChildrenRow.holds Tryd.pinned (OpenSpec.ofChange grantChildrenSpec)

/-- ITS FALSE NEIGHBOUR: 'it returns false'. Refute it at one input. -/
def grantChildrenWrong : ChangeSpec := { name := "grantChildren", fn := fun _ => fun
  | [d1, d2, d3] => { results := [.lit (.bool false)], args := [d1, d2, d3] }
  | _ => none }
def GrantChildrenWrongFalsely : Prop := grantChildrenRow.holds Tryd.pinned (OpenSpec.ofChange grantChildrenWrong)

/-- 'lineagelaw22.GrantRaises': WHATEVER THE INPUT: true; the input reads as it did. -/
def grantRaisesSpec : ChangeSpec := { name := "grantRaises", fn := fun _ => fun
  | [d1, d2, d3] => { results := [.lit (.bool true)], args := [d1, d2, d3] }
  | _ => none }
def grantRaisesRow : OpenClaim := { program := "ytbgggekkkcefcaadoor", sum := "3ea8be2e2b5fb9898da15ce94f0ef8b1502d386ee3269f44a46f68ad841e6264", func := "lineage/lineagelaw22.GrantRaises", spec := "grantRaises", inPlace := ["internal/reflectlite.TypeOf", "internal/reflectlite.ValueOf", "(internal/reflectlite.Value).Type", "(internal/reflectlite.Value).IsNil", "(internal/reflectlite.Value).Elem", "(internal/reflectlite.Value).Set"], unfollowed := true, recurses := true, named := ["lineage/level.steps", "errors.errorType"], apart := false, laid := [("errors.errorType", laid_errors_errorType), ("lineage/level.steps", laid_lineage_level_steps)] }
def GrantRaisesSaid : Prop := grantRaisesRow.holds Tryd.pinned (OpenSpec.ofChange grantRaisesSpec)

/-- ITS FALSE NEIGHBOUR: 'it returns false'. Refute it at one input. -/
def grantRaisesWrong : ChangeSpec := { name := "grantRaises", fn := fun _ => fun
  | [d1, d2, d3] => { results := [.lit (.bool false)], args := [d1, d2, d3] }
  | _ => none }
def GrantRaisesWrongFalsely : Prop := grantRaisesRow.holds Tryd.pinned (OpenSpec.ofChange grantRaisesWrong)

/-- 'lineagelaw22.GrantNarrower': WHATEVER THE INPUT: true; the input reads as it did. -/
def grantNarrowerSpec : ChangeSpec := { name := "grantNarrower", fn := fun _ => fun
  | [d1, d2, d3] => { results := [.lit (.bool true)], args := [d1, d2, d3] }
  | _ => none }
def grantNarrowerRow : OpenClaim := { program := "ytbgggekkkcefcaadoor", sum := "3ea8be2e2b5fb9898da15ce94f0ef8b1502d386ee3269f44a46f68ad841e6264", func := "lineage/lineagelaw22.GrantNarrower", spec := "grantNarrower", unfollowed := true, recurses := true, named := ["lineage/level.steps"], apart := false, laid := [("lineage/level.steps", laid_lineage_level_steps)] }
def GrantNarrowerSaid : Prop := grantNarrowerRow.holds Tryd.pinned (OpenSpec.ofChange grantNarrowerSpec)

/-- ITS FALSE NEIGHBOUR: 'it returns false'. Refute it at one input. -/
def grantNarrowerWrong : ChangeSpec := { name := "grantNarrower", fn := fun _ => fun
  | [d1, d2, d3] => { results := [.lit (.bool false)], args := [d1, d2, d3] }
  | _ => none }
def GrantNarrowerWrongFalsely : Prop := grantNarrowerRow.holds Tryd.pinned (OpenSpec.ofChange grantNarrowerWrong)

/-- 'lineagelaw22.GrantOrder': WHATEVER THE INPUT: true; the input reads as it did. -/
def grantOrderSpec : ChangeSpec := { name := "grantOrder", fn := fun _ => fun
  | [d1, d2, d3] => { results := [.lit (.bool true)], args := [d1, d2, d3] }
  | _ => none }
def grantOrderRow : OpenClaim := { program := "ytbgggekkkcefcaadoor", sum := "3ea8be2e2b5fb9898da15ce94f0ef8b1502d386ee3269f44a46f68ad841e6264", func := "lineage/lineagelaw22.GrantOrder", spec := "grantOrder", inPlace := ["internal/reflectlite.TypeOf"], unfollowed := true, recurses := true, named := ["lineage/level.steps"], apart := false, laid := [("lineage/level.steps", laid_lineage_level_steps)] }
def GrantOrderSaid : Prop := grantOrderRow.holds Tryd.pinned (OpenSpec.ofChange grantOrderSpec)

/-- ITS FALSE NEIGHBOUR: 'it returns false'. Refute it at one input. -/
def grantOrderWrong : ChangeSpec := { name := "grantOrder", fn := fun _ => fun
  | [d1, d2, d3] => { results := [.lit (.bool false)], args := [d1, d2, d3] }
  | _ => none }
def GrantOrderWrongFalsely : Prop := grantOrderRow.holds Tryd.pinned (OpenSpec.ofChange grantOrderWrong)

/-- 'lineagelaw22.GrantLess': WHATEVER THE INPUT: true; the input reads as it did. -/
def grantLessSpec : ChangeSpec := { name := "grantLess", fn := fun _ => fun
  | [d1, d2, d3] => { results := [.lit (.bool true)], args := [d1, d2, d3] }
  | _ => none }
def grantLessRow : OpenClaim := { program := "ytbgggekkkcefcaadoor", sum := "3ea8be2e2b5fb9898da15ce94f0ef8b1502d386ee3269f44a46f68ad841e6264", func := "lineage/lineagelaw22.GrantLess", spec := "grantLess", unfollowed := true, recurses := true, named := ["lineage/level.steps"], apart := false, laid := [("lineage/level.steps", laid_lineage_level_steps)] }
def GrantLessSaid : Prop := grantLessRow.holds Tryd.pinned (OpenSpec.ofChange grantLessSpec)

/-- ITS FALSE NEIGHBOUR: 'it returns false'. Refute it at one input. -/
def grantLessWrong : ChangeSpec := { name := "grantLess", fn := fun _ => fun
  | [d1, d2, d3] => { results := [.lit (.bool false)], args := [d1, d2, d3] }
  | _ => none }
def GrantLessWrongFalsely : Prop := grantLessRow.holds Tryd.pinned (OpenSpec.ofChange grantLessWrong)

/- THE SECOND FORM. 'bulk': how many values and letters a reading holds, each counted each time it is reached (what is shared counts as often as it is met; a slice's spare places count too). A statement '..UptoSaid' is the law's where the arguments, and the package variables that the reading takes, are together of bulk at most 1048576: NARROWER than '..Said'. Prove '..Said' where nothing that the law and all that it calls make is longer than what came in: it says more and counts as full. Else prove '..UptoSaid'. A law counts once. -/
mutual
def uptoBulk {H : Type} : DataW H → Nat
  | .lit (.string bytes) => bytes.length + 1
  | .lit _ => 1
  | .nil => 1
  | .ptr d => uptoBulk d + 1
  | .slice elems spare => uptoBulkAll elems + uptoBulkAll spare + 1
  | .agg parts => uptoBulkAll parts + 1
  | .iface _ d => uptoBulk d + 1
  | .map entries => uptoBulkEntries entries + 1
  | .held _ => 1
def uptoBulkAll {H : Type} : List (DataW H) → Nat
  | [] => 0
  | d :: r => uptoBulk d + uptoBulkAll r
def uptoBulkEntries {H : Type} : List (Lit × DataW H) → Nat
  | [] => 0
  | x :: r => uptoBulkEntry x + uptoBulkEntries r
def uptoBulkEntry {H : Type} : Lit × DataW H → Nat
  | (.string bytes, d) => bytes.length + uptoBulk d + 1
  | (_, d) => uptoBulk d + 1
 end
def uptoSmall : (H : Type) → List (DataW H) → Bool := fun _ ds => decide (uptoBulkAll ds ≤ 1048576)
def OpenSpec.upto (s : _root_.Go.ChangeSpec) : _root_.Go.OpenSpec := { _root_.Go.OpenSpec.ofChange s with cond := some uptoSmall }

/-- 'lineagelaw22.GrantLogins', WHERE WHAT IT READS IS OF BULK AT MOST 1048576: true; the input reads as it did. -/
def grantLoginsUptoRow : OpenClaim := { program := "ytbgggekkkcefcaadoor", sum := "3ea8be2e2b5fb9898da15ce94f0ef8b1502d386ee3269f44a46f68ad841e6264", func := "lineage/lineagelaw22.GrantLogins", spec := "grantLogins", inPlace := ["internal/reflectlite.TypeOf", "internal/reflectlite.ValueOf", "(internal/reflectlite.Value).Type", "(internal/reflectlite.Value).IsNil", "(internal/reflectlite.Value).Elem", "(internal/reflectlite.Value).Set"], unfollowed := true, recurses := true, named := ["errors.errorType"], apart := false, laid := [("errors.errorType", laid_errors_errorType)], narrowed := true }
def GrantLoginsUptoSaid : Prop := grantLoginsUptoRow.holds Tryd.pinned (OpenSpec.upto grantLoginsSpec)

/-- 'lineagelaw22.GrantChildren', WHERE WHAT IT READS IS OF BULK AT MOST 1048576: true; the input reads as it did. -/
def grantChildrenUptoRow : OpenClaim := { program := "ytbgggekkkcefcaadoor", sum := "3ea8be2e2b5fb9898da15ce94f0ef8b1502d386ee3269f44a46f68ad841e6264", func := "lineage/lineagelaw22.GrantChildren", spec := "grantChildren", inPlace := ["internal/reflectlite.TypeOf", "internal/reflectlite.ValueOf", "(internal/reflectlite.Value).Type", "(internal/reflectlite.Value).IsNil", "(internal/reflectlite.Value).Elem", "(internal/reflectlite.Value).Set"], unfollowed := true, recurses := true, named := ["errors.errorType"], apart := false, laid := [("errors.errorType", laid_errors_errorType)], narrowed := true }
def GrantChildrenUptoSaid : Prop := grantChildrenUptoRow.holds Tryd.pinned (OpenSpec.upto grantChildrenSpec)

/-- 'lineagelaw22.GrantRaises', WHERE WHAT IT READS IS OF BULK AT MOST 1048576: true; the input reads as it did. -/
def grantRaisesUptoRow : OpenClaim := { program := "ytbgggekkkcefcaadoor", sum := "3ea8be2e2b5fb9898da15ce94f0ef8b1502d386ee3269f44a46f68ad841e6264", func := "lineage/lineagelaw22.GrantRaises", spec := "grantRaises", inPlace := ["internal/reflectlite.TypeOf", "internal/reflectlite.ValueOf", "(internal/reflectlite.Value).Type", "(internal/reflectlite.Value).IsNil", "(internal/reflectlite.Value).Elem", "(internal/reflectlite.Value).Set"], unfollowed := true, recurses := true, named := ["lineage/level.steps", "errors.errorType"], apart := false, laid := [("errors.errorType", laid_errors_errorType), ("lineage/level.steps", laid_lineage_level_steps)], narrowed := true }
def GrantRaisesUptoSaid : Prop := grantRaisesUptoRow.holds Tryd.pinned (OpenSpec.upto grantRaisesSpec)

/-- 'lineagelaw22.GrantNarrower', WHERE WHAT IT READS IS OF BULK AT MOST 1048576: true; the input reads as it did. -/
def grantNarrowerUptoRow : OpenClaim := { program := "ytbgggekkkcefcaadoor", sum := "3ea8be2e2b5fb9898da15ce94f0ef8b1502d386ee3269f44a46f68ad841e6264", func := "lineage/lineagelaw22.GrantNarrower", spec := "grantNarrower", unfollowed := true, recurses := true, named := ["lineage/level.steps"], apart := false, laid := [("lineage/level.steps", laid_lineage_level_steps)], narrowed := true }
def GrantNarrowerUptoSaid : Prop := grantNarrowerUptoRow.holds Tryd.pinned (OpenSpec.upto grantNarrowerSpec)

/-- 'lineagelaw22.GrantOrder', WHERE WHAT IT READS IS OF BULK AT MOST 1048576: true; the input reads as it did. -/
def grantOrderUptoRow : OpenClaim := { program := "ytbgggekkkcefcaadoor", sum := "3ea8be2e2b5fb9898da15ce94f0ef8b1502d386ee3269f44a46f68ad841e6264", func := "lineage/lineagelaw22.GrantOrder", spec := "grantOrder", inPlace := ["internal/reflectlite.TypeOf"], unfollowed := true, recurses := true, named := ["lineage/level.steps"], apart := false, laid := [("lineage/level.steps", laid_lineage_level_steps)], narrowed := true }
def GrantOrderUptoSaid : Prop := grantOrderUptoRow.holds Tryd.pinned (OpenSpec.upto grantOrderSpec)

/-- 'lineagelaw22.GrantLess', WHERE WHAT IT READS IS OF BULK AT MOST 1048576: true; the input reads as it did. -/
def grantLessUptoRow : OpenClaim := { program := "ytbgggekkkcefcaadoor", sum := "3ea8be2e2b5fb9898da15ce94f0ef8b1502d386ee3269f44a46f68ad841e6264", func := "lineage/lineagelaw22.GrantLess", spec := "grantLess", unfollowed := true, recurses := true, named := ["lineage/level.steps"], apart := false, laid := [("lineage/level.steps", laid_lineage_level_steps)], narrowed := true }
def GrantLessUptoSaid : Prop := grantLessUptoRow.holds Tryd.pinned (OpenSpec.upto grantLessSpec)

end Rows
end Go.Proofs.YtbgggekkkcefcaaDoor
