/-
  DERIVED. GIVEN WITH THE SEED: THE CARDS: each row of YtfibcbnhjajdlaaDoorRows.lean that lists a variable, with what it lists TIED to the program's text (the seventh form; the later family's looks); each row that meets fmt, with fmt's text TOLD by the authors' own Lean function (tested against real Go, not proved from fmt's source: count such statements apart). THE CARD IS WHAT COUNTS. Prove the row's statement (the work); the ties are given (YtfibcbnhjajdlaaDoorTie.lean); close each card by the builder's one call (the guide's Derived/Test/ToyasCard.lean, 'card_holds'). Laid BY PROGRAM, IN A SANDBOX (cutbox-door.mjs). By AI agents, Wed Nov 11 2026. No macro, syntax, notation, axiom, sorry.
-/
import Derived.Test.YtfibcbnhjajdlaaDoorRows
import GoSem.ClaimSeven
namespace Go.Proofs.YtfibcbnhjajdlaaDoor
namespace Rows

/-- THE TIED CARD OF 'lineagelaw04.ClockAfter'. -/
def clockAfterCard : Claim7 := { stood := { row := clockAfterRow, standIns := [], harness := (true, "a0ec677d63aa241e0dc96369969f59ddb00c6ff5bb532467de903b69ca3e48a6"), looks := true }, kinds := [], alts := [], laidByText := true, laidKinds := [.handle], laidTests := true, laidLooks := .later }
def ClockAfterCardSaid : Prop := Claim7.holds Tryd.pinned (.plain (OpenSpec.ofChange clockAfterSpec)) clockAfterCard

/-- THE TIED CARD OF 'lineagelaw04.ClockUntil'. -/
def clockUntilCard : Claim7 := { stood := { row := clockUntilRow, standIns := [], harness := (true, "a0ec677d63aa241e0dc96369969f59ddb00c6ff5bb532467de903b69ca3e48a6"), looks := true }, kinds := [], alts := [], laidByText := true, laidKinds := [.handle], laidTests := true, laidLooks := .later }
def ClockUntilCardSaid : Prop := Claim7.holds Tryd.pinned (.plain (OpenSpec.ofChange clockUntilSpec)) clockUntilCard

/-- THE TIED CARD OF 'lineagelaw04.ClockPrints'. -/
def clockPrintsCard : Claim7 := { stood := { row := clockPrintsRow, standIns := [], harness := (true, "a0ec677d63aa241e0dc96369969f59ddb00c6ff5bb532467de903b69ca3e48a6"), looks := true }, kinds := [], alts := [], laidByText := true, laidKinds := [.data, .data, .data, .handle, .data], laidTests := true, laidLooks := .later }
def ClockPrintsCardSaid : Prop := Claim7.holds Tryd.pinned (.plain (OpenSpec.ofChange clockPrintsSpec)) clockPrintsCard

/-- THE TIED CARD OF 'lineagelaw04.ClockParses'. -/
def clockParsesCard : Claim7 := { stood := { row := clockParsesRow, standIns := [], harness := (true, "a0ec677d63aa241e0dc96369969f59ddb00c6ff5bb532467de903b69ca3e48a6"), looks := true }, kinds := [], alts := [], laidByText := true, laidKinds := [.handle, .data], laidTests := true, laidLooks := .later }
def ClockParsesCardSaid : Prop := Claim7.holds Tryd.pinned (.plain (OpenSpec.ofChange clockParsesSpec)) clockParsesCard

/-- THE TIED CARD OF 'lineagelaw04.ClockThere'. -/
def clockThereCard : Claim7 := { stood := { row := clockThereRow, standIns := [], harness := (true, "a0ec677d63aa241e0dc96369969f59ddb00c6ff5bb532467de903b69ca3e48a6"), looks := true }, kinds := [], alts := [], laidByText := true, laidKinds := [.data, .data, .data, .data], laidTests := true, laidLooks := .later }
def ClockThereCardSaid : Prop := Claim7.holds Tryd.pinned (.plain (OpenSpec.ofChange clockThereSpec)) clockThereCard

/-- THE TIED CARD OF 'lineagelaw04.ClockBack'. -/
def clockBackCard : Claim7 := { stood := { row := clockBackRow, standIns := [], harness := (true, "a0ec677d63aa241e0dc96369969f59ddb00c6ff5bb532467de903b69ca3e48a6"), looks := true }, kinds := [], alts := [], laidByText := true, laidKinds := [.data, .data, .data, .data], laidTests := true, laidLooks := .later }
def ClockBackCardSaid : Prop := Claim7.holds Tryd.pinned (.plain (OpenSpec.ofChange clockBackSpec)) clockBackCard

/-- THE SECOND FORM's CARD OF 'lineagelaw04.ClockAfter'. -/
def clockAfterUptoCard : Claim7 := { stood := { row := clockAfterUptoRow, standIns := [], harness := (true, "a0ec677d63aa241e0dc96369969f59ddb00c6ff5bb532467de903b69ca3e48a6"), looks := true }, kinds := [], alts := [], laidByText := true, laidKinds := [.handle], laidTests := true, laidLooks := .later }
def ClockAfterUptoCardSaid : Prop := Claim7.holds Tryd.pinned (.plain (OpenSpec.upto clockAfterSpec)) clockAfterUptoCard

/-- THE SECOND FORM's CARD OF 'lineagelaw04.ClockUntil'. -/
def clockUntilUptoCard : Claim7 := { stood := { row := clockUntilUptoRow, standIns := [], harness := (true, "a0ec677d63aa241e0dc96369969f59ddb00c6ff5bb532467de903b69ca3e48a6"), looks := true }, kinds := [], alts := [], laidByText := true, laidKinds := [.handle], laidTests := true, laidLooks := .later }
def ClockUntilUptoCardSaid : Prop := Claim7.holds Tryd.pinned (.plain (OpenSpec.upto clockUntilSpec)) clockUntilUptoCard

/-- THE SECOND FORM's CARD OF 'lineagelaw04.ClockPrints'. -/
def clockPrintsUptoCard : Claim7 := { stood := { row := clockPrintsUptoRow, standIns := [], harness := (true, "a0ec677d63aa241e0dc96369969f59ddb00c6ff5bb532467de903b69ca3e48a6"), looks := true }, kinds := [], alts := [], laidByText := true, laidKinds := [.data, .data, .data, .handle, .data], laidTests := true, laidLooks := .later }
def ClockPrintsUptoCardSaid : Prop := Claim7.holds Tryd.pinned (.plain (OpenSpec.upto clockPrintsSpec)) clockPrintsUptoCard

/-- THE SECOND FORM's CARD OF 'lineagelaw04.ClockParses'. -/
def clockParsesUptoCard : Claim7 := { stood := { row := clockParsesUptoRow, standIns := [], harness := (true, "a0ec677d63aa241e0dc96369969f59ddb00c6ff5bb532467de903b69ca3e48a6"), looks := true }, kinds := [], alts := [], laidByText := true, laidKinds := [.handle, .data], laidTests := true, laidLooks := .later }
def ClockParsesUptoCardSaid : Prop := Claim7.holds Tryd.pinned (.plain (OpenSpec.upto clockParsesSpec)) clockParsesUptoCard

/-- THE SECOND FORM's CARD OF 'lineagelaw04.ClockThere'. -/
def clockThereUptoCard : Claim7 := { stood := { row := clockThereUptoRow, standIns := [], harness := (true, "a0ec677d63aa241e0dc96369969f59ddb00c6ff5bb532467de903b69ca3e48a6"), looks := true }, kinds := [], alts := [], laidByText := true, laidKinds := [.data, .data, .data, .data], laidTests := true, laidLooks := .later }
def ClockThereUptoCardSaid : Prop := Claim7.holds Tryd.pinned (.plain (OpenSpec.upto clockThereSpec)) clockThereUptoCard

/-- THE SECOND FORM's CARD OF 'lineagelaw04.ClockBack'. -/
def clockBackUptoCard : Claim7 := { stood := { row := clockBackUptoRow, standIns := [], harness := (true, "a0ec677d63aa241e0dc96369969f59ddb00c6ff5bb532467de903b69ca3e48a6"), looks := true }, kinds := [], alts := [], laidByText := true, laidKinds := [.data, .data, .data, .data], laidTests := true, laidLooks := .later }
def ClockBackUptoCardSaid : Prop := Claim7.holds Tryd.pinned (.plain (OpenSpec.upto clockBackSpec)) clockBackUptoCard
end Rows
end Go.Proofs.YtfibcbnhjajdlaaDoor
