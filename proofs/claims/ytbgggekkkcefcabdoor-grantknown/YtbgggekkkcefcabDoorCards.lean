/-
  DERIVED. GIVEN WITH THE SEED: THE CARDS: each row of YtbgggekkkcefcabDoorRows.lean that lists a variable, with what it lists TIED to the program's text (the seventh form; the later family's looks); each row that meets fmt, with fmt's text TOLD by the authors' own Lean function (tested against real Go, not proved from fmt's source: count such statements apart). THE CARD IS WHAT COUNTS. Prove the row's statement (the work); the ties are given (YtbgggekkkcefcabDoorTie.lean); close each card by the builder's one call (the guide's Derived/Test/ToyasCard.lean, 'card_holds'). Laid BY PROGRAM, IN A SANDBOX (cutbox-door.mjs). By AI agents, Wed Nov 11 2026. No macro, syntax, notation, axiom, sorry.
-/
import Derived.Test.YtbgggekkkcefcabDoorRows
import GoSem.ClaimSeven
namespace Go.Proofs.YtbgggekkkcefcabDoor
namespace Rows

/-- THE TIED CARD OF 'lineagelaw22.GrantKnown'. -/
def grantKnownCard : Claim7 := { stood := { row := grantKnownRow, standIns := [], harness := (true, "c26feaaeb0802726b0f2bc26f024186dd1076eec8ef29cc02d20a558315d21ea"), looks := true }, kinds := [], alts := [], laidByText := true, laidKinds := [.handle, .data], laidTests := true, laidLooks := .later }
def GrantKnownCardSaid : Prop := Claim7.holds Tryd.pinned (.plain (OpenSpec.ofChange grantKnownSpec)) grantKnownCard

/-- THE SECOND FORM's CARD OF 'lineagelaw22.GrantKnown'. -/
def grantKnownUptoCard : Claim7 := { stood := { row := grantKnownUptoRow, standIns := [], harness := (true, "c26feaaeb0802726b0f2bc26f024186dd1076eec8ef29cc02d20a558315d21ea"), looks := true }, kinds := [], alts := [], laidByText := true, laidKinds := [.handle, .data], laidTests := true, laidLooks := .later }
def GrantKnownUptoCardSaid : Prop := Claim7.holds Tryd.pinned (.plain (OpenSpec.upto grantKnownSpec)) grantKnownUptoCard
end Rows
end Go.Proofs.YtbgggekkkcefcabDoor
