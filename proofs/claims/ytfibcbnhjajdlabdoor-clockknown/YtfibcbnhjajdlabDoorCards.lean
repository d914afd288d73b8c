/-
  DERIVED. GIVEN WITH THE SEED: THE CARDS: each row of YtfibcbnhjajdlabDoorRows.lean that lists a variable, with what it lists TIED to the program's text (the seventh form; the later family's looks); each row that meets fmt, with fmt's text TOLD by the authors' own Lean function (tested against real Go, not proved from fmt's source: count such statements apart). THE CARD IS WHAT COUNTS. Prove the row's statement (the work); the ties are given (YtfibcbnhjajdlabDoorTie.lean); close each card by the builder's one call (the guide's Derived/Test/ToyasCard.lean, 'card_holds'). Laid BY PROGRAM, IN A SANDBOX (cutbox-door.mjs). By AI agents, Wed Nov 11 2026. No macro, syntax, notation, axiom, sorry.
-/
import Derived.Test.YtfibcbnhjajdlabDoorRows
import GoSem.ClaimSeven
namespace Go.Proofs.YtfibcbnhjajdlabDoor
namespace Rows

/-- THE TIED CARD OF 'lineagelaw04.ClockLives'. -/
def clockLivesCard : Claim7 := { stood := { row := clockLivesRow, standIns := [], harness := (true, "8ad77ea750daeb36a46cfc81cc78ce286a26c9b8ab7e8843ad4c5c4b8cddec56"), looks := true }, kinds := [], alts := [], laidByText := true, laidKinds := [.data, .data, .data, .data], laidTests := true, laidLooks := .later }
def ClockLivesCardSaid : Prop := Claim7.holds Tryd.pinned (.plain (OpenSpec.ofChange clockLivesSpec)) clockLivesCard

/-- THE TIED CARD OF 'lineagelaw04.ClockLeft'. -/
def clockLeftCard : Claim7 := { stood := { row := clockLeftRow, standIns := [], harness := (true, "8ad77ea750daeb36a46cfc81cc78ce286a26c9b8ab7e8843ad4c5c4b8cddec56"), looks := true }, kinds := [], alts := [], laidByText := true, laidKinds := [.data, .data, .data, .data], laidTests := true, laidLooks := .later }
def ClockLeftCardSaid : Prop := Claim7.holds Tryd.pinned (.plain (OpenSpec.ofChange clockLeftSpec)) clockLeftCard

/-- THE TIED CARD OF 'lineagelaw04.ClockKnown'. -/
def clockKnownCard : Claim7 := { stood := { row := clockKnownRow, standIns := [], harness := (true, "8ad77ea750daeb36a46cfc81cc78ce286a26c9b8ab7e8843ad4c5c4b8cddec56"), looks := true }, kinds := [], alts := [], laidByText := true, laidKinds := [.data, .data, .data, .handle, .data], laidTests := true, laidLooks := .later }
def ClockKnownCardSaid : Prop := Claim7.holds Tryd.pinned (.plain (OpenSpec.ofChange clockKnownSpec)) clockKnownCard

/-- THE SECOND FORM's CARD OF 'lineagelaw04.ClockLives'. -/
def clockLivesUptoCard : Claim7 := { stood := { row := clockLivesUptoRow, standIns := [], harness := (true, "8ad77ea750daeb36a46cfc81cc78ce286a26c9b8ab7e8843ad4c5c4b8cddec56"), looks := true }, kinds := [], alts := [], laidByText := true, laidKinds := [.data, .data, .data, .data], laidTests := true, laidLooks := .later }
def ClockLivesUptoCardSaid : Prop := Claim7.holds Tryd.pinned (.plain (OpenSpec.upto clockLivesSpec)) clockLivesUptoCard

/-- THE SECOND FORM's CARD OF 'lineagelaw04.ClockLeft'. -/
def clockLeftUptoCard : Claim7 := { stood := { row := clockLeftUptoRow, standIns := [], harness := (true, "8ad77ea750daeb36a46cfc81cc78ce286a26c9b8ab7e8843ad4c5c4b8cddec56"), looks := true }, kinds := [], alts := [], laidByText := true, laidKinds := [.data, .data, .data, .data], laidTests := true, laidLooks := .later }
def ClockLeftUptoCardSaid : Prop := Claim7.holds Tryd.pinned (.plain (OpenSpec.upto clockLeftSpec)) clockLeftUptoCard

/-- THE SECOND FORM's CARD OF 'lineagelaw04.ClockKnown'. -/
def clockKnownUptoCard : Claim7 := { stood := { row := clockKnownUptoRow, standIns := [], harness := (true, "8ad77ea750daeb36a46cfc81cc78ce286a26c9b8ab7e8843ad4c5c4b8cddec56"), looks := true }, kinds := [], alts := [], laidByText := true, laidKinds := [.data, .data, .data, .handle, .data], laidTests := true, laidLooks := .later }
def ClockKnownUptoCardSaid : Prop := Claim7.holds Tryd.pinned (.plain (OpenSpec.upto clockKnownSpec)) clockKnownUptoCard
end Rows
end Go.Proofs.YtfibcbnhjajdlabDoor
