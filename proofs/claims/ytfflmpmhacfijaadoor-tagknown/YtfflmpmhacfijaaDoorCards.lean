/-
  DERIVED. GIVEN WITH THE SEED: THE CARDS: each row of YtfflmpmhacfijaaDoorRows.lean that lists a variable, with what it lists TIED to the program's text (the seventh form; the later family's looks); each row that meets fmt, with fmt's text TOLD by the authors' own Lean function (tested against real Go, not proved from fmt's source: count such statements apart). THE CARD IS WHAT COUNTS. Prove the row's statement (the work); the ties are given (YtfflmpmhacfijaaDoorTie.lean); close each card by the builder's one call (the guide's Derived/Test/ToyasCard.lean, 'card_holds'). Laid BY PROGRAM, IN A SANDBOX (cutbox-door.mjs). By AI agents, Wed Nov 11 2026. No macro, syntax, notation, axiom, sorry.
-/
import Derived.Test.YtfflmpmhacfijaaDoorRows
import GoSem.ClaimSeven
namespace Go.Proofs.YtfflmpmhacfijaaDoor
namespace Rows

/-- THE TIED CARD OF 'lineagelaw07.TagSums'. -/
def tagSumsCard : Claim7 := { stood := { row := tagSumsRow, standIns := [], harness := (true, "a4bd9414a5e03b78d31fef9196f1e7a2bdd34223a99327ec9b61f00f7c21cd08"), looks := true }, kinds := [], alts := [], laidByText := true, laidKinds := [.data, .handle], laidTests := true, laidLooks := .later }
def TagSumsCardSaid : Prop := Claim7.holds Tryd.pinned (.plain (OpenSpec.ofChange tagSumsSpec)) tagSumsCard

/-- THE TIED CARD OF 'lineagelaw07.TagOf'. -/
def tagOfCard : Claim7 := { stood := { row := tagOfRow, standIns := [], harness := (true, "a4bd9414a5e03b78d31fef9196f1e7a2bdd34223a99327ec9b61f00f7c21cd08"), looks := true }, kinds := [], alts := [], laidByText := true, laidKinds := [.data, .handle], laidTests := true, laidLooks := .later }
def TagOfCardSaid : Prop := Claim7.holds Tryd.pinned (.plain (OpenSpec.ofChange tagOfSpec)) tagOfCard

/-- THE TIED CARD OF 'lineagelaw07.TagBytes'. -/
def tagBytesCard : Claim7 := { stood := { row := tagBytesRow, standIns := [], harness := (true, "a4bd9414a5e03b78d31fef9196f1e7a2bdd34223a99327ec9b61f00f7c21cd08"), looks := true }, kinds := [], alts := [], laidByText := true, laidKinds := [.data], laidTests := true, laidLooks := .later }
def TagBytesCardSaid : Prop := Claim7.holds Tryd.pinned (.plain (OpenSpec.ofChange tagBytesSpec)) tagBytesCard

/-- THE TIED CARD OF 'lineagelaw07.TagKnown'. -/
def tagKnownCard : Claim7 := { stood := { row := tagKnownRow, standIns := [], harness := (true, "a4bd9414a5e03b78d31fef9196f1e7a2bdd34223a99327ec9b61f00f7c21cd08"), looks := true }, kinds := [], alts := [], laidByText := true, laidKinds := [.data, .handle], laidTests := true, laidLooks := .later }
def TagKnownCardSaid : Prop := Claim7.holds Tryd.pinned (.plain (OpenSpec.ofChange tagKnownSpec)) tagKnownCard

/-- THE SECOND FORM's CARD OF 'lineagelaw07.TagSums'. -/
def tagSumsUptoCard : Claim7 := { stood := { row := tagSumsUptoRow, standIns := [], harness := (true, "a4bd9414a5e03b78d31fef9196f1e7a2bdd34223a99327ec9b61f00f7c21cd08"), looks := true }, kinds := [], alts := [], laidByText := true, laidKinds := [.data, .handle], laidTests := true, laidLooks := .later }
def TagSumsUptoCardSaid : Prop := Claim7.holds Tryd.pinned (.plain (OpenSpec.upto tagSumsSpec)) tagSumsUptoCard

/-- THE SECOND FORM's CARD OF 'lineagelaw07.TagOf'. -/
def tagOfUptoCard : Claim7 := { stood := { row := tagOfUptoRow, standIns := [], harness := (true, "a4bd9414a5e03b78d31fef9196f1e7a2bdd34223a99327ec9b61f00f7c21cd08"), looks := true }, kinds := [], alts := [], laidByText := true, laidKinds := [.data, .handle], laidTests := true, laidLooks := .later }
def TagOfUptoCardSaid : Prop := Claim7.holds Tryd.pinned (.plain (OpenSpec.upto tagOfSpec)) tagOfUptoCard

/-- THE SECOND FORM's CARD OF 'lineagelaw07.TagBytes'. -/
def tagBytesUptoCard : Claim7 := { stood := { row := tagBytesUptoRow, standIns := [], harness := (true, "a4bd9414a5e03b78d31fef9196f1e7a2bdd34223a99327ec9b61f00f7c21cd08"), looks := true }, kinds := [], alts := [], laidByText := true, laidKinds := [.data], laidTests := true, laidLooks := .later }
def TagBytesUptoCardSaid : Prop := Claim7.holds Tryd.pinned (.plain (OpenSpec.upto tagBytesSpec)) tagBytesUptoCard

/-- THE SECOND FORM's CARD OF 'lineagelaw07.TagKnown'. -/
def tagKnownUptoCard : Claim7 := { stood := { row := tagKnownUptoRow, standIns := [], harness := (true, "a4bd9414a5e03b78d31fef9196f1e7a2bdd34223a99327ec9b61f00f7c21cd08"), looks := true }, kinds := [], alts := [], laidByText := true, laidKinds := [.data, .handle], laidTests := true, laidLooks := .later }
def TagKnownUptoCardSaid : Prop := Claim7.holds Tryd.pinned (.plain (OpenSpec.upto tagKnownSpec)) tagKnownUptoCard
end Rows
end Go.Proofs.YtfflmpmhacfijaaDoor
