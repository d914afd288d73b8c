/-
  No cell of these rows narrows 'for every input' (looked for: loops, veiled, ifaces, maps, wideKeys, modest, calm, conditions, laid).
  DERIVED. THE GIVEN ROWS OF THIS SEAT. 3 by the template 'for every input the law returns true; each argument reads behind the call as it read before'; 0 by the template 'total and deterministic' (their statements: YtckgecmcjnhceaaTotals.lean).
  GIVEN WITH THE SEED: the statements are not yours to turn. If you find one false, say at which input.
  Laid BY PROGRAM, IN A SANDBOX (cutbox-rows.mjs): the forced cells as the released guide's own fill.sh prints them over the translation b0a381c96c1be775… (all of the seat's roots in one cut). By AI agents, Wed Nov 11 2026. No macro, syntax, notation, axiom, sorry.
-/
import Derived.Test.YtckgecmcjnhceaaChecked
import GoSem.Claim
import GoSem.ClaimJoined
import GoSem.ClaimMapViews
import Derived.JoinedTies
import Derived.KernelRfl
namespace Go.Proofs.Ytckgecmcjnhceaa
/- THE CELL 'sum', in the pinned program and in every row, IS THE sha256 OF THE DUMP (.gsa) THAT YtckgecmcjnhceaaProg.lean LOADS. Nothing in Lean hashes anything: it is a label: what it is worth is what the hold of that sum in a sandbox is worth. -/
noncomputable def Try.pinned : Pinned := { name := "ytckgecmcjnhceaa", sum := "b0a381c96c1be775f03b215513c3bbb5aea91233c04ce0dea8686aa9d2d5f16f", checked := Try.checked }
namespace Rows
def none {H : Type} : Left H := { results := [], args := [] }

/-- 'lineagelaw16.RingRow': WHATEVER THE INPUT: true; the input reads as it did. -/
def ringRowSpec : ChangeSpec := { name := "ringRow", fn := fun _ => fun
  | [d] => { results := [.lit (.bool true)], args := [d] }
  | _ => none }
def ringRowRow : OpenClaim := { program := "ytckgecmcjnhceaa", sum := "b0a381c96c1be775f03b215513c3bbb5aea91233c04ce0dea8686aa9d2d5f16f", func := "lineage/lineagelaw16.RingRow", spec := "ringRow", unfollowed := true, recurses := true, apart := false }
def RingRowSaid : Prop := ringRowRow.holds Try.pinned (OpenSpec.ofChange ringRowSpec)

/-- ITS FALSE NEIGHBOUR: 'it returns false'. Refute it at one input. -/
def ringRowWrong : ChangeSpec := { name := "ringRow", fn := fun _ => fun
  | [d] => { results := [.lit (.bool false)], args := [d] }
  | _ => none }
def RingRowWrongFalsely : Prop := ringRowRow.holds Try.pinned (OpenSpec.ofChange ringRowWrong)

/-- 'lineagelaw16.RingDropped': WHATEVER THE INPUT: true; the input reads as it did. -/
def ringDroppedSpec : ChangeSpec := { name := "ringDropped", fn := fun _ => fun
  | [d1, d2] => { results := [.lit (.bool true)], args := [d1, d2] }
  | _ => none }
def ringDroppedRow : OpenClaim := { program := "ytckgecmcjnhceaa", sum := "b0a381c96c1be775f03b215513c3bbb5aea91233c04ce0dea8686aa9d2d5f16f", func := "lineage/lineagelaw16.RingDropped", spec := "ringDropped", unfollowed := true, recurses := true, apart := false }
def RingDroppedSaid : Prop := ringDroppedRow.holds Try.pinned (OpenSpec.ofChange ringDroppedSpec)

/-- ITS FALSE NEIGHBOUR: 'it returns false'. Refute it at one input. -/
def ringDroppedWrong : ChangeSpec := { name := "ringDropped", fn := fun _ => fun
  | [d1, d2] => { results := [.lit (.bool false)], args := [d1, d2] }
  | _ => none }
def RingDroppedWrongFalsely : Prop := ringDroppedRow.holds Try.pinned (OpenSpec.ofChange ringDroppedWrong)

/-- 'lineagelaw16.RingSpliced': WHATEVER THE INPUT: true; the input reads as it did. -/
def ringSplicedSpec : ChangeSpec := { name := "ringSpliced", fn := fun _ => fun
  | [d1, d2, d3] => { results := [.lit (.bool true)], args := [d1, d2, d3] }
  | _ => none }
def ringSplicedRow : OpenClaim := { program := "ytckgecmcjnhceaa", sum := "b0a381c96c1be775f03b215513c3bbb5aea91233c04ce0dea8686aa9d2d5f16f", func := "lineage/lineagelaw16.RingSpliced", spec := "ringSpliced", unfollowed := true, recurses := true, apart := false }
def RingSplicedSaid : Prop := ringSplicedRow.holds Try.pinned (OpenSpec.ofChange ringSplicedSpec)

/-- ITS FALSE NEIGHBOUR: 'it returns false'. Refute it at one input. -/
def ringSplicedWrong : ChangeSpec := { name := "ringSpliced", fn := fun _ => fun
  | [d1, d2, d3] => { results := [.lit (.bool false)], args := [d1, d2, d3] }
  | _ => none }
def RingSplicedWrongFalsely : Prop := ringSplicedRow.holds Try.pinned (OpenSpec.ofChange ringSplicedWrong)

/- THE SECOND FORM. 'bulk': how many values and letters a reading holds, each counted each time it is reached (what is shared counts as often as it is met; a slice's spare places count too). A statement '..UptoSaid' is the law's where the arguments, and the package variables that the reading takes, are together of bulk at most 1048576: NARROWER than '..Said'. Prove '..Said' where nothing that the law and all that it calls make is longer than what came in: it says more and counts as full. Else prove '..UptoSaid'. A law counts once. -/
mutual
def uptoBulk {H : Type} : DataW H → Nat
  | .lit (.string bytes) => bytes.length + 1
  | .lit _ => 1
  | .nil => 1
  | .ptr d => uptoBulk d + 1
  | .slice elems spare => uptoBulkAll elems + uptoBulkAll spare + 1
  | .agg parts => uptoBulkAll parts + 1
  | .iface _ d => uptoBulk d + 1
  | .map entries => uptoBulkEntries entries + 1
  | .held _ => 1
def uptoBulkAll {H : Type} : List (DataW H) → Nat
  | [] => 0
  | d :: r => uptoBulk d + uptoBulkAll r
def uptoBulkEntries {H : Type} : List (Lit × DataW H) → Nat
  | [] => 0
  | x :: r => uptoBulkEntry x + uptoBulkEntries r
def uptoBulkEntry {H : Type} : Lit × DataW H → Nat
  | (.string bytes, d) => bytes.length + uptoBulk d + 1
  | (_, d) => uptoBulk d + 1
 end
def uptoSmall : (H : Type) → List (DataW H) → Bool := fun _ ds => decide (uptoBulkAll ds ≤ 1048576)
def OpenSpec.upto (s : _root_.Go.ChangeSpec) : _root_.Go.OpenSpec := { _root_.Go.OpenSpec.ofChange s with cond := some uptoSmall }

/-- 'lineagelaw16.RingRow', WHERE WHAT IT READS IS OF BULK AT MOST 1048576: true; the input reads as it did. -/
def ringRowUptoRow : OpenClaim := { program := "ytckgecmcjnhceaa", sum := "b0a381c96c1be775f03b215513c3bbb5aea91233c04ce0dea8686aa9d2d5f16f", func := "lineage/lineagelaw16.RingRow", spec := "ringRow", unfollowed := true, recurses := true, apart := false, narrowed := true }
def RingRowUptoSaid : Prop := ringRowUptoRow.holds Try.pinned (OpenSpec.upto ringRowSpec)

/-- 'lineagelaw16.RingDropped', WHERE WHAT IT READS IS OF BULK AT MOST 1048576: true; the input reads as it did. -/
def ringDroppedUptoRow : OpenClaim := { program := "ytckgecmcjnhceaa", sum := "b0a381c96c1be775f03b215513c3bbb5aea91233c04ce0dea8686aa9d2d5f16f", func := "lineage/lineagelaw16.RingDropped", spec := "ringDropped", unfollowed := true, recurses := true, apart := false, narrowed := true }
def RingDroppedUptoSaid : Prop := ringDroppedUptoRow.holds Try.pinned (OpenSpec.upto ringDroppedSpec)

/-- 'lineagelaw16.RingSpliced', WHERE WHAT IT READS IS OF BULK AT MOST 1048576: true; the input reads as it did. -/
def ringSplicedUptoRow : OpenClaim := { program := "ytckgecmcjnhceaa", sum := "b0a381c96c1be775f03b215513c3bbb5aea91233c04ce0dea8686aa9d2d5f16f", func := "lineage/lineagelaw16.RingSpliced", spec := "ringSpliced", unfollowed := true, recurses := true, apart := false, narrowed := true }
def RingSplicedUptoSaid : Prop := ringSplicedUptoRow.holds Try.pinned (OpenSpec.upto ringSplicedSpec)

end Rows
end Go.Proofs.Ytckgecmcjnhceaa
