/-
  No cell of these rows narrows 'for every input' (looked for: loops, veiled, ifaces, maps, wideKeys, modest, calm, conditions, laid).
  DERIVED. THE GIVEN ROWS OF THIS SEAT. 6 by the template 'for every input the law returns true; each argument reads behind the call as it read before'; 0 by the template 'total and deterministic' (their statements: YtlfoipddhcdmmaaTotals.lean).
  GIVEN WITH THE SEED: the statements are not yours to turn. If you find one false, say at which input.
  Laid BY PROGRAM, IN A SANDBOX (cutbox-rows.mjs): the forced cells as the released guide's own fill.sh prints them over the translation 0143c01342d295e8… (all of the seat's roots in one cut). By AI agents, Wed Nov 11 2026. No macro, syntax, notation, axiom, sorry.
-/
import Derived.Test.YtlfoipddhcdmmaaChecked
import GoSem.Claim
import GoSem.ClaimJoined
import GoSem.ClaimMapViews
import Derived.JoinedTies
import Derived.KernelRfl
namespace Go.Proofs.Ytlfoipddhcdmmaa
/- THE CELL 'sum', in the pinned program and in every row, IS THE sha256 OF THE DUMP (.gsa) THAT YtlfoipddhcdmmaaProg.lean LOADS. Nothing in Lean hashes anything: it is a label: what it is worth is what the hold of that sum in a sandbox is worth. -/
noncomputable def Try.pinned : Pinned := { name := "ytlfoipddhcdmmaa", sum := "0143c01342d295e89983d0f1e38db98f2d526cf90da0ec1c8a77b79ab88bcbf2", checked := Try.checked }
namespace Rows
def none {H : Type} : Left H := { results := [], args := [] }

/-- 'lineagelaw01.NamesWhich': WHATEVER THE INPUT: true; the input reads as it did. -/
def namesWhichSpec : ChangeSpec := { name := "namesWhich", fn := fun _ => fun
  | [d] => { results := [.lit (.bool true)], args := [d] }
  | _ => none }
def namesWhichRow : OpenClaim := { program := "ytlfoipddhcdmmaa", sum := "0143c01342d295e89983d0f1e38db98f2d526cf90da0ec1c8a77b79ab88bcbf2", func := "lineage/lineagelaw01.NamesWhich", spec := "namesWhich", apart := false }
def NamesWhichSaid : Prop := namesWhichRow.holds Try.pinned (OpenSpec.ofChange namesWhichSpec)

/-- ITS FALSE NEIGHBOUR: 'it returns false'. Refute it at one input. -/
def namesWhichWrong : ChangeSpec := { name := "namesWhich", fn := fun _ => fun
  | [d] => { results := [.lit (.bool false)], args := [d] }
  | _ => none }
def NamesWhichWrongFalsely : Prop := namesWhichRow.holds Try.pinned (OpenSpec.ofChange namesWhichWrong)

/-- 'lineagelaw01.NamesUnder': WHATEVER THE INPUT: true; the input reads as it did. -/
def namesUnderSpec : ChangeSpec := { name := "namesUnder", fn := fun _ => fun
  | [d1, d2] => { results := [.lit (.bool true)], args := [d1, d2] }
  | _ => none }
def namesUnderRow : OpenClaim := { program := "ytlfoipddhcdmmaa", sum := "0143c01342d295e89983d0f1e38db98f2d526cf90da0ec1c8a77b79ab88bcbf2", func := "lineage/lineagelaw01.NamesUnder", spec := "namesUnder", apart := false }
def NamesUnderSaid : Prop := namesUnderRow.holds Try.pinned (OpenSpec.ofChange namesUnderSpec)

/-- ITS FALSE NEIGHBOUR: 'it returns false'. Refute it at one input. -/
def namesUnderWrong : ChangeSpec := { name := "namesUnder", fn := fun _ => fun
  | [d1, d2] => { results := [.lit (.bool false)], args := [d1, d2] }
  | _ => none }
def NamesUnderWrongFalsely : Prop := namesUnderRow.holds Try.pinned (OpenSpec.ofChange namesUnderWrong)

/-- 'lineagelaw01.NamesCompare': WHATEVER THE INPUT: true; the input reads as it did. -/
def namesCompareSpec : ChangeSpec := { name := "namesCompare", fn := fun _ => fun
  | [d1, d2] => { results := [.lit (.bool true)], args := [d1, d2] }
  | _ => none }
def namesCompareRow : OpenClaim := { program := "ytlfoipddhcdmmaa", sum := "0143c01342d295e89983d0f1e38db98f2d526cf90da0ec1c8a77b79ab88bcbf2", func := "lineage/lineagelaw01.NamesCompare", spec := "namesCompare", inPlace := ["internal/bytealg.abigen_runtime_cmpstring"], apart := false }
def NamesCompareSaid : Prop := namesCompareRow.holds Try.pinned (OpenSpec.ofChange namesCompareSpec)

/-- ITS FALSE NEIGHBOUR: 'it returns false'. Refute it at one input. -/
def namesCompareWrong : ChangeSpec := { name := "namesCompare", fn := fun _ => fun
  | [d1, d2] => { results := [.lit (.bool false)], args := [d1, d2] }
  | _ => none }
def NamesCompareWrongFalsely : Prop := namesCompareRow.holds Try.pinned (OpenSpec.ofChange namesCompareWrong)

/-- 'lineagelaw01.NamesJoined': WHATEVER THE INPUT: true; the input reads as it did. -/
def namesJoinedSpec : ChangeSpec := { name := "namesJoined", fn := fun _ => fun
  | [d1, d2] => { results := [.lit (.bool true)], args := [d1, d2] }
  | _ => none }
def namesJoinedRow : OpenClaim := { program := "ytlfoipddhcdmmaa", sum := "0143c01342d295e89983d0f1e38db98f2d526cf90da0ec1c8a77b79ab88bcbf2", func := "lineage/lineagelaw01.NamesJoined", spec := "namesJoined", inPlace := ["internal/bytealg.abigen_runtime_cmpstring"], apart := false }
def NamesJoinedSaid : Prop := namesJoinedRow.holds Try.pinned (OpenSpec.ofChange namesJoinedSpec)

/-- ITS FALSE NEIGHBOUR: 'it returns false'. Refute it at one input. -/
def namesJoinedWrong : ChangeSpec := { name := "namesJoined", fn := fun _ => fun
  | [d1, d2] => { results := [.lit (.bool false)], args := [d1, d2] }
  | _ => none }
def NamesJoinedWrongFalsely : Prop := namesJoinedRow.holds Try.pinned (OpenSpec.ofChange namesJoinedWrong)

/-- 'lineagelaw01.NamesAbove': WHATEVER THE INPUT: true; the input reads as it did. -/
def namesAboveSpec : ChangeSpec := { name := "namesAbove", fn := fun _ => fun
  | [d1, d2, d3] => { results := [.lit (.bool true)], args := [d1, d2, d3] }
  | _ => none }
def namesAboveRow : OpenClaim := { program := "ytlfoipddhcdmmaa", sum := "0143c01342d295e89983d0f1e38db98f2d526cf90da0ec1c8a77b79ab88bcbf2", func := "lineage/lineagelaw01.NamesAbove", spec := "namesAbove", inPlace := ["internal/bytealg.abigen_runtime_cmpstring"], apart := false }
def NamesAboveSaid : Prop := namesAboveRow.holds Try.pinned (OpenSpec.ofChange namesAboveSpec)

/-- ITS FALSE NEIGHBOUR: 'it returns false'. Refute it at one input. -/
def namesAboveWrong : ChangeSpec := { name := "namesAbove", fn := fun _ => fun
  | [d1, d2, d3] => { results := [.lit (.bool false)], args := [d1, d2, d3] }
  | _ => none }
def NamesAboveWrongFalsely : Prop := namesAboveRow.holds Try.pinned (OpenSpec.ofChange namesAboveWrong)

/-- 'lineagelaw01.NamesOrder': WHATEVER THE INPUT: true; the input reads as it did. -/
def namesOrderSpec : ChangeSpec := { name := "namesOrder", fn := fun _ => fun
  | [d1, d2, d3] => { results := [.lit (.bool true)], args := [d1, d2, d3] }
  | _ => none }
def namesOrderRow : OpenClaim := { program := "ytlfoipddhcdmmaa", sum := "0143c01342d295e89983d0f1e38db98f2d526cf90da0ec1c8a77b79ab88bcbf2", func := "lineage/lineagelaw01.NamesOrder", spec := "namesOrder", inPlace := ["internal/bytealg.abigen_runtime_cmpstring"], apart := false }
def NamesOrderSaid : Prop := namesOrderRow.holds Try.pinned (OpenSpec.ofChange namesOrderSpec)

/-- ITS FALSE NEIGHBOUR: 'it returns false'. Refute it at one input. -/
def namesOrderWrong : ChangeSpec := { name := "namesOrder", fn := fun _ => fun
  | [d1, d2, d3] => { results := [.lit (.bool false)], args := [d1, d2, d3] }
  | _ => none }
def NamesOrderWrongFalsely : Prop := namesOrderRow.holds Try.pinned (OpenSpec.ofChange namesOrderWrong)

/- THE SECOND FORM. 'bulk': how many values and letters a reading holds, each counted each time it is reached (what is shared counts as often as it is met; a slice's spare places count too). A statement '..UptoSaid' is the law's where the arguments, and the package variables that the reading takes, are together of bulk at most 1048576: NARROWER than '..Said'. Prove '..Said' where nothing that the law and all that it calls make is longer than what came in: it says more and counts as full. Else prove '..UptoSaid'. A law counts once. -/
mutual
def uptoBulk {H : Type} : DataW H → Nat
  | .lit (.string bytes) => bytes.length + 1
  | .lit _ => 1
  | .nil => 1
  | .ptr d => uptoBulk d + 1
  | .slice elems spare => uptoBulkAll elems + uptoBulkAll spare + 1
  | .agg parts => uptoBulkAll parts + 1
  | .iface _ d => uptoBulk d + 1
  | .map entries => uptoBulkEntries entries + 1
  | .held _ => 1
def uptoBulkAll {H : Type} : List (DataW H) → Nat
  | [] => 0
  | d :: r => uptoBulk d + uptoBulkAll r
def uptoBulkEntries {H : Type} : List (Lit × DataW H) → Nat
  | [] => 0
  | x :: r => uptoBulkEntry x + uptoBulkEntries r
def uptoBulkEntry {H : Type} : Lit × DataW H → Nat
  | (.string bytes, d) => bytes.length + uptoBulk d + 1
  | (_, d) => uptoBulk d + 1
 end
def uptoSmall : (H : Type) → List (DataW H) → Bool := fun _ ds => decide (uptoBulkAll ds ≤ 1048576)
def OpenSpec.upto (s : _root_.Go.ChangeSpec) : _root_.Go.OpenSpec := { _root_.Go.OpenSpec.ofChange s with cond := some uptoSmall }

/-- 'lineagelaw01.NamesWhich', WHERE WHAT IT READS IS OF BULK AT MOST 1048576: true; the input reads as it did. -/
def namesWhichUptoRow : OpenClaim := { program := "ytlfoipddhcdmmaa", sum := "0143c01342d295e89983d0f1e38db98f2d526cf90da0ec1c8a77b79ab88bcbf2", func := "lineage/lineagelaw01.NamesWhich", spec := "namesWhich", apart := false, narrowed := true }
def NamesWhichUptoSaid : Prop := namesWhichUptoRow.holds Try.pinned (OpenSpec.upto namesWhichSpec)

/-- 'lineagelaw01.NamesUnder', WHERE WHAT IT READS IS OF BULK AT MOST 1048576: true; the input reads as it did. -/
def namesUnderUptoRow : OpenClaim := { program := "ytlfoipddhcdmmaa", sum := "0143c01342d295e89983d0f1e38db98f2d526cf90da0ec1c8a77b79ab88bcbf2", func := "lineage/lineagelaw01.NamesUnder", spec := "namesUnder", apart := false, narrowed := true }
def NamesUnderUptoSaid : Prop := namesUnderUptoRow.holds Try.pinned (OpenSpec.upto namesUnderSpec)

/-- 'lineagelaw01.NamesCompare', WHERE WHAT IT READS IS OF BULK AT MOST 1048576: true; the input reads as it did. -/
def namesCompareUptoRow : OpenClaim := { program := "ytlfoipddhcdmmaa", sum := "0143c01342d295e89983d0f1e38db98f2d526cf90da0ec1c8a77b79ab88bcbf2", func := "lineage/lineagelaw01.NamesCompare", spec := "namesCompare", inPlace := ["internal/bytealg.abigen_runtime_cmpstring"], apart := false, narrowed := true }
def NamesCompareUptoSaid : Prop := namesCompareUptoRow.holds Try.pinned (OpenSpec.upto namesCompareSpec)

/-- 'lineagelaw01.NamesJoined', WHERE WHAT IT READS IS OF BULK AT MOST 1048576: true; the input reads as it did. -/
def namesJoinedUptoRow : OpenClaim := { program := "ytlfoipddhcdmmaa", sum := "0143c01342d295e89983d0f1e38db98f2d526cf90da0ec1c8a77b79ab88bcbf2", func := "lineage/lineagelaw01.NamesJoined", spec := "namesJoined", inPlace := ["internal/bytealg.abigen_runtime_cmpstring"], apart := false, narrowed := true }
def NamesJoinedUptoSaid : Prop := namesJoinedUptoRow.holds Try.pinned (OpenSpec.upto namesJoinedSpec)

/-- 'lineagelaw01.NamesAbove', WHERE WHAT IT READS IS OF BULK AT MOST 1048576: true; the input reads as it did. -/
def namesAboveUptoRow : OpenClaim := { program := "ytlfoipddhcdmmaa", sum := "0143c01342d295e89983d0f1e38db98f2d526cf90da0ec1c8a77b79ab88bcbf2", func := "lineage/lineagelaw01.NamesAbove", spec := "namesAbove", inPlace := ["internal/bytealg.abigen_runtime_cmpstring"], apart := false, narrowed := true }
def NamesAboveUptoSaid : Prop := namesAboveUptoRow.holds Try.pinned (OpenSpec.upto namesAboveSpec)

/-- 'lineagelaw01.NamesOrder', WHERE WHAT IT READS IS OF BULK AT MOST 1048576: true; the input reads as it did. -/
def namesOrderUptoRow : OpenClaim := { program := "ytlfoipddhcdmmaa", sum := "0143c01342d295e89983d0f1e38db98f2d526cf90da0ec1c8a77b79ab88bcbf2", func := "lineage/lineagelaw01.NamesOrder", spec := "namesOrder", inPlace := ["internal/bytealg.abigen_runtime_cmpstring"], apart := false, narrowed := true }
def NamesOrderUptoSaid : Prop := namesOrderUptoRow.holds Try.pinned (OpenSpec.upto namesOrderSpec)

end Rows
end Go.Proofs.Ytlfoipddhcdmmaa
