/-
  NARROWER THAN 'FOR EVERY INPUT', by the rows' own cells (each row's printed sentence says how): TagSums: laid · TagOf: laid · TagBytes: laid · TagKnown: laid.
  DERIVED. THE GIVEN ROWS OF THIS SEAT. 4 by the template 'for every input the law returns true; each argument reads behind the call as it read before'; 0 by the template 'total and deterministic' (their statements: YtfflmpmhacfijaaDoorTotals.lean).
  GIVEN WITH THE SEED: the statements are not yours to turn. If you find one false, say at which input.
  Laid BY PROGRAM, IN A SANDBOX (cutbox-rows.mjs): the forced cells as the released guide's own fill.sh prints them over the translation 6058f63868451b80… (all of the seat's roots in one cut). By AI agents, Wed Nov 11 2026. No macro, syntax, notation, axiom, sorry.
-/
import Derived.Test.YtfflmpmhacfijaaDoorChecked
import GoSem.Claim
import GoSem.ClaimJoined
import GoSem.ClaimMapViews
import Derived.JoinedTies
import Derived.KernelRfl
namespace Go.Proofs.YtfflmpmhacfijaaDoor
/- THE CELL 'sum', in the pinned program and in every row, IS THE sha256 OF THE DUMP (.gsa) THAT YtfflmpmhacfijaaDoorProg.lean LOADS. Nothing in Lean hashes anything: it is a label: what it is worth is what the hold of that sum in a sandbox is worth. -/
noncomputable def Tryd.pinned : Pinned := { name := "ytfflmpmhacfijaadoor", sum := "6058f63868451b80187e88ccad7ef212ebdca36cce9cb3b5d8019e3cc31d0400", checked := Tryd.checked }
namespace Rows
def none {H : Type} : Left H := { results := [], args := [] }

/- WHAT THE LISTED PACKAGE-LEVEL VARIABLES READ AS WHEN THE CALL BEGINS. Each datum BY PROGRAM (the guide's laid-datum.mjs) off the statement by which the dump's own 'gosem.cut.vars' lays the variable. In a bare row this is a premise. The card (YtfflmpmhacfijaaDoorCards.lean) ties it to the program's text. -/
def laid_lineage_tag_beginning {H : Type} : DataW H := .agg [.lit (.int .u64 8317987319222330741), .lit (.int .u64 7237128888997146477), .lit (.int .u64 7816392313619706465), .lit (.int .u64 8387220255154660723)]
def laid_errors_errorType {H : Type} : DataW H := .iface "internal/reflectlite.rtype" (.agg [.ptr (.lit (.string [101, 114, 114, 111, 114]))])

/-- 'lineagelaw07.TagSums': WHATEVER THE INPUT: true; the input reads as it did. -/
def tagSumsSpec : ChangeSpec := { name := "tagSums", fn := fun _ => fun
  | [d1, d2, d3] => { results := [.lit (.bool true)], args := [d1, d2, d3] }
  | _ => none }
def tagSumsRow : OpenClaim := { program := "ytfflmpmhacfijaadoor", sum := "6058f63868451b80187e88ccad7ef212ebdca36cce9cb3b5d8019e3cc31d0400", func := "lineage/lineagelaw07.TagSums", spec := "tagSums", inPlace := ["internal/reflectlite.TypeOf", "internal/reflectlite.ValueOf", "(internal/reflectlite.Value).Type", "(internal/reflectlite.Value).IsNil", "(internal/reflectlite.Value).Elem", "(internal/reflectlite.Value).Set"], unfollowed := true, recurses := true, named := ["lineage/tag.beginning", "errors.errorType"], apart := false, laid := [("lineage/tag.beginning", laid_lineage_tag_beginning), ("errors.errorType", laid_errors_errorType)] }
def TagSumsSaid : Prop := tagSumsRow.holds Tryd.pinned (OpenSpec.ofChange tagSumsSpec)

/-- ITS FALSE NEIGHBOUR: 'it returns false'. Refute it at one input. -/
def tagSumsWrong : ChangeSpec := { name := "tagSums", fn := fun _ => fun
  | [d1, d2, d3] => { results := [.lit (.bool false)], args := [d1, d2, d3] }
  | _ => none }
def TagSumsWrongFalsely : Prop := tagSumsRow.holds Tryd.pinned (OpenSpec.ofChange tagSumsWrong)

/-- 'lineagelaw07.TagOf': WHATEVER THE INPUT: true; the input reads as it did. -/
def tagOfSpec : ChangeSpec := { name := "tagOf", fn := fun _ => fun
  | [d1, d2, d3, d4, d5] => { results := [.lit (.bool true)], args := [d1, d2, d3, d4, d5] }
  | _ => none }
def tagOfRow : OpenClaim := { program := "ytfflmpmhacfijaadoor", sum := "6058f63868451b80187e88ccad7ef212ebdca36cce9cb3b5d8019e3cc31d0400", func := "lineage/lineagelaw07.TagOf", spec := "tagOf", inPlace := ["internal/reflectlite.TypeOf", "internal/reflectlite.ValueOf", "(internal/reflectlite.Value).Type", "(internal/reflectlite.Value).IsNil", "(internal/reflectlite.Value).Elem", "(internal/reflectlite.Value).Set"], unfollowed := true, recurses := true, named := ["lineage/tag.beginning", "errors.errorType"], apart := false, laid := [("lineage/tag.beginning", laid_lineage_tag_beginning), ("errors.errorType", laid_errors_errorType)] }
def TagOfSaid : Prop := tagOfRow.holds Tryd.pinned (OpenSpec.ofChange tagOfSpec)

/-- ITS FALSE NEIGHBOUR: 'it returns false'. Refute it at one input. -/
def tagOfWrong : ChangeSpec := { name := "tagOf", fn := fun _ => fun
  | [d1, d2, d3, d4, d5] => { results := [.lit (.bool false)], args := [d1, d2, d3, d4, d5] }
  | _ => none }
def TagOfWrongFalsely : Prop := tagOfRow.holds Tryd.pinned (OpenSpec.ofChange tagOfWrong)

/-- 'lineagelaw07.TagBytes': WHATEVER THE INPUT: true; the input reads as it did. -/
def tagBytesSpec : ChangeSpec := { name := "tagBytes", fn := fun _ => fun
  | [d1, d2, d3, d4] => { results := [.lit (.bool true)], args := [d1, d2, d3, d4] }
  | _ => none }
def tagBytesRow : OpenClaim := { program := "ytfflmpmhacfijaadoor", sum := "6058f63868451b80187e88ccad7ef212ebdca36cce9cb3b5d8019e3cc31d0400", func := "lineage/lineagelaw07.TagBytes", spec := "tagBytes", named := ["lineage/tag.beginning"], apart := false, laid := [("lineage/tag.beginning", laid_lineage_tag_beginning)] }
def TagBytesSaid : Prop := tagBytesRow.holds Tryd.pinned (OpenSpec.ofChange tagBytesSpec)

/-- ITS FALSE NEIGHBOUR: 'it returns false'. Refute it at one input. -/
def tagBytesWrong : ChangeSpec := { name := "tagBytes", fn := fun _ => fun
  | [d1, d2, d3, d4] => { results := [.lit (.bool false)], args := [d1, d2, d3, d4] }
  | _ => none }
def TagBytesWrongFalsely : Prop := tagBytesRow.holds Tryd.pinned (OpenSpec.ofChange tagBytesWrong)

/-- 'lineagelaw07.TagKnown': WHATEVER THE INPUT: true; the input reads as it did. -/
def tagKnownSpec : ChangeSpec := { name := "tagKnown", fn := fun _ => fun
  | [] => { results := [.lit (.bool true)], args := [] }
  | _ => none }
def tagKnownRow : OpenClaim := { program := "ytfflmpmhacfijaadoor", sum := "6058f63868451b80187e88ccad7ef212ebdca36cce9cb3b5d8019e3cc31d0400", func := "lineage/lineagelaw07.TagKnown", spec := "tagKnown", inPlace := ["internal/reflectlite.TypeOf", "internal/reflectlite.ValueOf", "(internal/reflectlite.Value).Type", "(internal/reflectlite.Value).IsNil", "(internal/reflectlite.Value).Elem", "(internal/reflectlite.Value).Set"], unfollowed := true, recurses := true, named := ["lineage/tag.beginning", "errors.errorType"], apart := false, laid := [("lineage/tag.beginning", laid_lineage_tag_beginning), ("errors.errorType", laid_errors_errorType)] }
def TagKnownSaid : Prop := tagKnownRow.holds Tryd.pinned (OpenSpec.ofChange tagKnownSpec)

/-- ITS FALSE NEIGHBOUR: 'it returns false'. Refute it at one input. -/
def tagKnownWrong : ChangeSpec := { name := "tagKnown", fn := fun _ => fun
  | [] => { results := [.lit (.bool false)], args := [] }
  | _ => none }
def TagKnownWrongFalsely : Prop := tagKnownRow.holds Tryd.pinned (OpenSpec.ofChange tagKnownWrong)

/- THE SECOND FORM. 'bulk': how many values and letters a reading holds, each counted each time it is reached (what is shared counts as often as it is met; a slice's spare places count too). A statement '..UptoSaid' is the law's where the arguments, and the package variables that the reading takes, are together of bulk at most 1048576: NARROWER than '..Said'. Prove '..Said' where nothing that the law and all that it calls make is longer than what came in: it says more and counts as full. Else prove '..UptoSaid'. A law counts once. -/
mutual
def uptoBulk {H : Type} : DataW H → Nat
  | .lit (.string bytes) => bytes.length + 1
  | .lit _ => 1
  | .nil => 1
  | .ptr d => uptoBulk d + 1
  | .slice elems spare => uptoBulkAll elems + uptoBulkAll spare + 1
  | .agg parts => uptoBulkAll parts + 1
  | .iface _ d => uptoBulk d + 1
  | .map entries => uptoBulkEntries entries + 1
  | .held _ => 1
def uptoBulkAll {H : Type} : List (DataW H) → Nat
  | [] => 0
  | d :: r => uptoBulk d + uptoBulkAll r
def uptoBulkEntries {H : Type} : List (Lit × DataW H) → Nat
  | [] => 0
  | x :: r => uptoBulkEntry x + uptoBulkEntries r
def uptoBulkEntry {H : Type} : Lit × DataW H → Nat
  | (.string bytes, d) => bytes.length + uptoBulk d + 1
  | (_, d) => uptoBulk d + 1
 end
def uptoSmall : (H : Type) → List (DataW H) → Bool := fun _ ds => decide (uptoBulkAll ds ≤ 1048576)
def OpenSpec.upto (s : _root_.Go.ChangeSpec) : _root_.Go.OpenSpec := { _root_.Go.OpenSpec.ofChange s with cond := some uptoSmall }

/-- 'lineagelaw07.TagSums', WHERE WHAT IT READS IS OF BULK AT MOST 1048576: true; the input reads as it did. -/
def tagSumsUptoRow : OpenClaim := { program := "ytfflmpmhacfijaadoor", sum := "6058f63868451b80187e88ccad7ef212ebdca36cce9cb3b5d8019e3cc31d0400", func := "lineage/lineagelaw07.TagSums", spec := "tagSums", inPlace := ["internal/reflectlite.TypeOf", "internal/reflectlite.ValueOf", "(internal/reflectlite.Value).Type", "(internal/reflectlite.Value).IsNil", "(internal/reflectlite.Value).Elem", "(internal/reflectlite.Value).Set"], unfollowed := true, recurses := true, named := ["lineage/tag.beginning", "errors.errorType"], apart := false, laid := [("lineage/tag.beginning", laid_lineage_tag_beginning), ("errors.errorType", laid_errors_errorType)], narrowed := true }
def TagSumsUptoSaid : Prop := tagSumsUptoRow.holds Tryd.pinned (OpenSpec.upto tagSumsSpec)

/-- 'lineagelaw07.TagOf', WHERE WHAT IT READS IS OF BULK AT MOST 1048576: true; the input reads as it did. -/
def tagOfUptoRow : OpenClaim := { program := "ytfflmpmhacfijaadoor", sum := "6058f63868451b80187e88ccad7ef212ebdca36cce9cb3b5d8019e3cc31d0400", func := "lineage/lineagelaw07.TagOf", spec := "tagOf", inPlace := ["internal/reflectlite.TypeOf", "internal/reflectlite.ValueOf", "(internal/reflectlite.Value).Type", "(internal/reflectlite.Value).IsNil", "(internal/reflectlite.Value).Elem", "(internal/reflectlite.Value).Set"], unfollowed := true, recurses := true, named := ["lineage/tag.beginning", "errors.errorType"], apart := false, laid := [("lineage/tag.beginning", laid_lineage_tag_beginning), ("errors.errorType", laid_errors_errorType)], narrowed := true }
def TagOfUptoSaid : Prop := tagOfUptoRow.holds Tryd.pinned (OpenSpec.upto tagOfSpec)

/-- 'lineagelaw07.TagBytes', WHERE WHAT IT READS IS OF BULK AT MOST 1048576: true; the input reads as it did. -/
def tagBytesUptoRow : OpenClaim := { program := "ytfflmpmhacfijaadoor", sum := "6058f63868451b80187e88ccad7ef212ebdca36cce9cb3b5d8019e3cc31d0400", func := "lineage/lineagelaw07.TagBytes", spec := "tagBytes", named := ["lineage/tag.beginning"], apart := false, laid := [("lineage/tag.beginning", laid_lineage_tag_beginning)], narrowed := true }
def TagBytesUptoSaid : Prop := tagBytesUptoRow.holds Tryd.pinned (OpenSpec.upto tagBytesSpec)

/-- 'lineagelaw07.TagKnown', WHERE WHAT IT READS IS OF BULK AT MOST 1048576: true; the input reads as it did. -/
def tagKnownUptoRow : OpenClaim := { program := "ytfflmpmhacfijaadoor", sum := "6058f63868451b80187e88ccad7ef212ebdca36cce9cb3b5d8019e3cc31d0400", func := "lineage/lineagelaw07.TagKnown", spec := "tagKnown", inPlace := ["internal/reflectlite.TypeOf", "internal/reflectlite.ValueOf", "(internal/reflectlite.Value).Type", "(internal/reflectlite.Value).IsNil", "(internal/reflectlite.Value).Elem", "(internal/reflectlite.Value).Set"], unfollowed := true, recurses := true, named := ["lineage/tag.beginning", "errors.errorType"], apart := false, laid := [("lineage/tag.beginning", laid_lineage_tag_beginning), ("errors.errorType", laid_errors_errorType)], narrowed := true }
def TagKnownUptoSaid : Prop := tagKnownUptoRow.holds Tryd.pinned (OpenSpec.upto tagKnownSpec)

end Rows
end Go.Proofs.YtfflmpmhacfijaaDoor
