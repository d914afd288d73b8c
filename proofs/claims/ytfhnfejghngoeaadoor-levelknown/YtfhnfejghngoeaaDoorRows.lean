/-
  NARROWER THAN 'FOR EVERY INPUT', by the rows' own cells (each row's printed sentence says how): LevelNames: laid · LevelRaises: laid · LevelBack: laid · LevelMost: laid · LevelKnown: laid.
  DERIVED. THE GIVEN ROWS OF THIS SEAT. 5 by the template 'for every input the law returns true; each argument reads behind the call as it read before'; 0 by the template 'total and deterministic' (their statements: YtfhnfejghngoeaaDoorTotals.lean).
  GIVEN WITH THE SEED: the statements are not yours to turn. If you find one false, say at which input.
  Laid BY PROGRAM, IN A SANDBOX (cutbox-rows.mjs): the forced cells as the released guide's own fill.sh prints them over the translation abebbab00d3015c9… (all of the seat's roots in one cut). By AI agents, Wed Nov 11 2026. No macro, syntax, notation, axiom, sorry.
-/
import Derived.Test.YtfhnfejghngoeaaDoorChecked
import GoSem.Claim
import GoSem.ClaimJoined
import GoSem.ClaimMapViews
import Derived.JoinedTies
import Derived.KernelRfl
namespace Go.Proofs.YtfhnfejghngoeaaDoor
/- THE CELL 'sum', in the pinned program and in every row, IS THE sha256 OF THE DUMP (.gsa) THAT YtfhnfejghngoeaaDoorProg.lean LOADS. Nothing in Lean hashes anything: it is a label: what it is worth is what the hold of that sum in a sandbox is worth. -/
noncomputable def Tryd.pinned : Pinned := { name := "ytfhnfejghngoeaadoor", sum := "abebbab00d3015c985d1a97c4e82925a1e70dd6168ee8c27336b9b2314acdb53", checked := Tryd.checked }
namespace Rows
def none {H : Type} : Left H := { results := [], args := [] }

/- WHAT THE LISTED PACKAGE-LEVEL VARIABLES READ AS WHEN THE CALL BEGINS. Each datum BY PROGRAM (the guide's laid-datum.mjs) off the statement by which the dump's own 'gosem.cut.vars' lays the variable. In a bare row this is a premise. The card (YtfhnfejghngoeaaDoorCards.lean) ties it to the program's text. -/
def laid_errors_errorType {H : Type} : DataW H := .iface "internal/reflectlite.rtype" (.agg [.ptr (.lit (.string [101, 114, 114, 111, 114]))])
def laid_lineage_level_names {H : Type} : DataW H := .agg [.lit (.string [108, 111, 119]), .lit (.string [109, 105, 100]), .lit (.string [104, 105, 103, 104])]
def laid_lineage_level_steps {H : Type} : DataW H := .agg [.agg [.lit (.int .i64 0), .lit (.int .i64 1)], .agg [.lit (.int .i64 0), .lit (.int .i64 2)], .agg [.lit (.int .i64 1), .lit (.int .i64 2)]]

/-- 'lineagelaw05.LevelNames': WHATEVER THE INPUT: true; the input reads as it did. -/
def levelNamesSpec : ChangeSpec := { name := "levelNames", fn := fun _ => fun
  | [d1, d2] => { results := [.lit (.bool true)], args := [d1, d2] }
  | _ => none }
def levelNamesRow : OpenClaim := { program := "ytfhnfejghngoeaadoor", sum := "abebbab00d3015c985d1a97c4e82925a1e70dd6168ee8c27336b9b2314acdb53", func := "lineage/lineagelaw05.LevelNames", spec := "levelNames", inPlace := ["internal/reflectlite.TypeOf", "internal/reflectlite.ValueOf", "(internal/reflectlite.Value).Type", "(internal/reflectlite.Value).IsNil", "(internal/reflectlite.Value).Elem", "(internal/reflectlite.Value).Set"], unfollowed := true, recurses := true, named := ["lineage/level.names", "errors.errorType"], apart := false, laid := [("errors.errorType", laid_errors_errorType), ("lineage/level.names", laid_lineage_level_names)] }
def LevelNamesSaid : Prop := levelNamesRow.holds Tryd.pinned (OpenSpec.ofChange levelNamesSpec)

/-- ITS FALSE NEIGHBOUR: 'it returns false'. Refute it at one input. -/
def levelNamesWrong : ChangeSpec := { name := "levelNames", fn := fun _ => fun
  | [d1, d2] => { results := [.lit (.bool false)], args := [d1, d2] }
  | _ => none }
def LevelNamesWrongFalsely : Prop := levelNamesRow.holds Tryd.pinned (OpenSpec.ofChange levelNamesWrong)

/-- 'lineagelaw05.LevelRaises': WHATEVER THE INPUT: true; the input reads as it did. -/
def levelRaisesSpec : ChangeSpec := { name := "levelRaises", fn := fun _ => fun
  | [d1, d2, d3] => { results := [.lit (.bool true)], args := [d1, d2, d3] }
  | _ => none }
def levelRaisesRow : OpenClaim := { program := "ytfhnfejghngoeaadoor", sum := "abebbab00d3015c985d1a97c4e82925a1e70dd6168ee8c27336b9b2314acdb53", func := "lineage/lineagelaw05.LevelRaises", spec := "levelRaises", inPlace := ["internal/reflectlite.TypeOf", "internal/reflectlite.ValueOf", "(internal/reflectlite.Value).Type", "(internal/reflectlite.Value).IsNil", "(internal/reflectlite.Value).Elem", "(internal/reflectlite.Value).Set"], unfollowed := true, recurses := true, named := ["lineage/level.steps", "errors.errorType"], apart := false, laid := [("errors.errorType", laid_errors_errorType), ("lineage/level.steps", laid_lineage_level_steps)] }
def LevelRaisesSaid : Prop := levelRaisesRow.holds Tryd.pinned (OpenSpec.ofChange levelRaisesSpec)

/-- ITS FALSE NEIGHBOUR: 'it returns false'. Refute it at one input. -/
def levelRaisesWrong : ChangeSpec := { name := "levelRaises", fn := fun _ => fun
  | [d1, d2, d3] => { results := [.lit (.bool false)], args := [d1, d2, d3] }
  | _ => none }
def LevelRaisesWrongFalsely : Prop := levelRaisesRow.holds Tryd.pinned (OpenSpec.ofChange levelRaisesWrong)

/-- 'lineagelaw05.LevelBack': WHATEVER THE INPUT: true; the input reads as it did. -/
def levelBackSpec : ChangeSpec := { name := "levelBack", fn := fun _ => fun
  | [d1, d2, d3, d4] => { results := [.lit (.bool true)], args := [d1, d2, d3, d4] }
  | _ => none }
def levelBackRow : OpenClaim := { program := "ytfhnfejghngoeaadoor", sum := "abebbab00d3015c985d1a97c4e82925a1e70dd6168ee8c27336b9b2314acdb53", func := "lineage/lineagelaw05.LevelBack", spec := "levelBack", named := ["lineage/level.names", "lineage/level.steps"], apart := false, laid := [("lineage/level.names", laid_lineage_level_names), ("lineage/level.steps", laid_lineage_level_steps)] }
def LevelBackSaid : Prop := levelBackRow.holds Tryd.pinned (OpenSpec.ofChange levelBackSpec)

/-- ITS FALSE NEIGHBOUR: 'it returns false'. Refute it at one input. -/
def levelBackWrong : ChangeSpec := { name := "levelBack", fn := fun _ => fun
  | [d1, d2, d3, d4] => { results := [.lit (.bool false)], args := [d1, d2, d3, d4] }
  | _ => none }
def LevelBackWrongFalsely : Prop := levelBackRow.holds Tryd.pinned (OpenSpec.ofChange levelBackWrong)

/-- 'lineagelaw05.LevelMost': WHATEVER THE INPUT: true; the input reads as it did. -/
def levelMostSpec : ChangeSpec := { name := "levelMost", fn := fun _ => fun
  | [d1, d2, d3] => { results := [.lit (.bool true)], args := [d1, d2, d3] }
  | _ => none }
def levelMostRow : OpenClaim := { program := "ytfhnfejghngoeaadoor", sum := "abebbab00d3015c985d1a97c4e82925a1e70dd6168ee8c27336b9b2314acdb53", func := "lineage/lineagelaw05.LevelMost", spec := "levelMost", named := ["lineage/level.names"], apart := false, laid := [("lineage/level.names", laid_lineage_level_names)] }
def LevelMostSaid : Prop := levelMostRow.holds Tryd.pinned (OpenSpec.ofChange levelMostSpec)

/-- ITS FALSE NEIGHBOUR: 'it returns false'. Refute it at one input. -/
def levelMostWrong : ChangeSpec := { name := "levelMost", fn := fun _ => fun
  | [d1, d2, d3] => { results := [.lit (.bool false)], args := [d1, d2, d3] }
  | _ => none }
def LevelMostWrongFalsely : Prop := levelMostRow.holds Tryd.pinned (OpenSpec.ofChange levelMostWrong)

/-- 'lineagelaw05.LevelKnown': WHATEVER THE INPUT: true; the input reads as it did. -/
def levelKnownSpec : ChangeSpec := { name := "levelKnown", fn := fun _ => fun
  | [] => { results := [.lit (.bool true)], args := [] }
  | _ => none }
def levelKnownRow : OpenClaim := { program := "ytfhnfejghngoeaadoor", sum := "abebbab00d3015c985d1a97c4e82925a1e70dd6168ee8c27336b9b2314acdb53", func := "lineage/lineagelaw05.LevelKnown", spec := "levelKnown", inPlace := ["internal/reflectlite.TypeOf"], unfollowed := true, recurses := true, named := ["lineage/level.names", "lineage/level.steps"], apart := false, laid := [("lineage/level.names", laid_lineage_level_names), ("lineage/level.steps", laid_lineage_level_steps)] }
def LevelKnownSaid : Prop := levelKnownRow.holds Tryd.pinned (OpenSpec.ofChange levelKnownSpec)

/-- ITS FALSE NEIGHBOUR: 'it returns false'. Refute it at one input. -/
def levelKnownWrong : ChangeSpec := { name := "levelKnown", fn := fun _ => fun
  | [] => { results := [.lit (.bool false)], args := [] }
  | _ => none }
def LevelKnownWrongFalsely : Prop := levelKnownRow.holds Tryd.pinned (OpenSpec.ofChange levelKnownWrong)

/- THE SECOND FORM. 'bulk': how many values and letters a reading holds, each counted each time it is reached (what is shared counts as often as it is met; a slice's spare places count too). A statement '..UptoSaid' is the law's where the arguments, and the package variables that the reading takes, are together of bulk at most 1048576: NARROWER than '..Said'. Prove '..Said' where nothing that the law and all that it calls make is longer than what came in: it says more and counts as full. Else prove '..UptoSaid'. A law counts once. -/
mutual
def uptoBulk {H : Type} : DataW H → Nat
  | .lit (.string bytes) => bytes.length + 1
  | .lit _ => 1
  | .nil => 1
  | .ptr d => uptoBulk d + 1
  | .slice elems spare => uptoBulkAll elems + uptoBulkAll spare + 1
  | .agg parts => uptoBulkAll parts + 1
  | .iface _ d => uptoBulk d + 1
  | .map entries => uptoBulkEntries entries + 1
  | .held _ => 1
def uptoBulkAll {H : Type} : List (DataW H) → Nat
  | [] => 0
  | d :: r => uptoBulk d + uptoBulkAll r
def uptoBulkEntries {H : Type} : List (Lit × DataW H) → Nat
  | [] => 0
  | x :: r => uptoBulkEntry x + uptoBulkEntries r
def uptoBulkEntry {H : Type} : Lit × DataW H → Nat
  | (.string bytes, d) => bytes.length + uptoBulk d + 1
  | (_, d) => uptoBulk d + 1
 end
def uptoSmall : (H : Type) → List (DataW H) → Bool := fun _ ds => decide (uptoBulkAll ds ≤ 1048576)
def OpenSpec.upto (s : _root_.Go.ChangeSpec) : _root_.Go.OpenSpec := { _root_.Go.OpenSpec.ofChange s with cond := some uptoSmall }

/-- 'lineagelaw05.LevelNames', WHERE WHAT IT READS IS OF BULK AT MOST 1048576: true; the input reads as it did. -/
def levelNamesUptoRow : OpenClaim := { program := "ytfhnfejghngoeaadoor", sum := "abebbab00d3015c985d1a97c4e82925a1e70dd6168ee8c27336b9b2314acdb53", func := "lineage/lineagelaw05.LevelNames", spec := "levelNames", inPlace := ["internal/reflectlite.TypeOf", "internal/reflectlite.ValueOf", "(internal/reflectlite.Value).Type", "(internal/reflectlite.Value).IsNil", "(internal/reflectlite.Value).Elem", "(internal/reflectlite.Value).Set"], unfollowed := true, recurses := true, named := ["lineage/level.names", "errors.errorType"], apart := false, laid := [("errors.errorType", laid_errors_errorType), ("lineage/level.names", laid_lineage_level_names)], narrowed := true }
def LevelNamesUptoSaid : Prop := levelNamesUptoRow.holds Tryd.pinned (OpenSpec.upto levelNamesSpec)

/-- 'lineagelaw05.LevelRaises', WHERE WHAT IT READS IS OF BULK AT MOST 1048576: true; the input reads as it did. -/
def levelRaisesUptoRow : OpenClaim := { program := "ytfhnfejghngoeaadoor", sum := "abebbab00d3015c985d1a97c4e82925a1e70dd6168ee8c27336b9b2314acdb53", func := "lineage/lineagelaw05.LevelRaises", spec := "levelRaises", inPlace := ["internal/reflectlite.TypeOf", "internal/reflectlite.ValueOf", "(internal/reflectlite.Value).Type", "(internal/reflectlite.Value).IsNil", "(internal/reflectlite.Value).Elem", "(internal/reflectlite.Value).Set"], unfollowed := true, recurses := true, named := ["lineage/level.steps", "errors.errorType"], apart := false, laid := [("errors.errorType", laid_errors_errorType), ("lineage/level.steps", laid_lineage_level_steps)], narrowed := true }
def LevelRaisesUptoSaid : Prop := levelRaisesUptoRow.holds Tryd.pinned (OpenSpec.upto levelRaisesSpec)

/-- 'lineagelaw05.LevelBack', WHERE WHAT IT READS IS OF BULK AT MOST 1048576: true; the input reads as it did. -/
def levelBackUptoRow : OpenClaim := { program := "ytfhnfejghngoeaadoor", sum := "abebbab00d3015c985d1a97c4e82925a1e70dd6168ee8c27336b9b2314acdb53", func := "lineage/lineagelaw05.LevelBack", spec := "levelBack", named := ["lineage/level.names", "lineage/level.steps"], apart := false, laid := [("lineage/level.names", laid_lineage_level_names), ("lineage/level.steps", laid_lineage_level_steps)], narrowed := true }
def LevelBackUptoSaid : Prop := levelBackUptoRow.holds Tryd.pinned (OpenSpec.upto levelBackSpec)

/-- 'lineagelaw05.LevelMost', WHERE WHAT IT READS IS OF BULK AT MOST 1048576: true; the input reads as it did. -/
def levelMostUptoRow : OpenClaim := { program := "ytfhnfejghngoeaadoor", sum := "abebbab00d3015c985d1a97c4e82925a1e70dd6168ee8c27336b9b2314acdb53", func := "lineage/lineagelaw05.LevelMost", spec := "levelMost", named := ["lineage/level.names"], apart := false, laid := [("lineage/level.names", laid_lineage_level_names)], narrowed := true }
def LevelMostUptoSaid : Prop := levelMostUptoRow.holds Tryd.pinned (OpenSpec.upto levelMostSpec)

/-- 'lineagelaw05.LevelKnown', WHERE WHAT IT READS IS OF BULK AT MOST 1048576: true; the input reads as it did. -/
def levelKnownUptoRow : OpenClaim := { program := "ytfhnfejghngoeaadoor", sum := "abebbab00d3015c985d1a97c4e82925a1e70dd6168ee8c27336b9b2314acdb53", func := "lineage/lineagelaw05.LevelKnown", spec := "levelKnown", inPlace := ["internal/reflectlite.TypeOf"], unfollowed := true, recurses := true, named := ["lineage/level.names", "lineage/level.steps"], apart := false, laid := [("lineage/level.names", laid_lineage_level_names), ("lineage/level.steps", laid_lineage_level_steps)], narrowed := true }
def LevelKnownUptoSaid : Prop := levelKnownUptoRow.holds Tryd.pinned (OpenSpec.upto levelKnownSpec)

end Rows
end Go.Proofs.YtfhnfejghngoeaaDoor
