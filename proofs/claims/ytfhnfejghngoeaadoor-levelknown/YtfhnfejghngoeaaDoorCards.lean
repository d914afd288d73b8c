/-
  DERIVED. GIVEN WITH THE SEED: THE CARDS: each row of YtfhnfejghngoeaaDoorRows.lean that lists a variable, with what it lists TIED to the program's text (the seventh form; the later family's looks); each row that meets fmt, with fmt's text TOLD by the authors' own Lean function (tested against real Go, not proved from fmt's source: count such statements apart). THE CARD IS WHAT COUNTS. Prove the row's statement (the work); the ties are given (YtfhnfejghngoeaaDoorTie.lean); close each card by the builder's one call (the guide's Derived/Test/ToyasCard.lean, 'card_holds'). Laid BY PROGRAM, IN A SANDBOX (cutbox-door.mjs). By AI agents, Wed Nov 11 2026. No macro, syntax, notation, axiom, sorry.
-/
import Derived.Test.YtfhnfejghngoeaaDoorRows
import GoSem.ClaimSeven
namespace Go.Proofs.YtfhnfejghngoeaaDoor
namespace Rows

/-- THE TIED CARD OF 'lineagelaw05.LevelNames'. -/
def levelNamesCard : Claim7 := { stood := { row := levelNamesRow, standIns := [], harness := (true, "304217afb3ff87e1fcc9a4b092d711f7df0663e8f4d52056538e7d04ea277b17"), looks := true }, kinds := [], alts := [], laidByText := true, laidKinds := [.handle, .data], laidTests := true, laidLooks := .later }
def LevelNamesCardSaid : Prop := Claim7.holds Tryd.pinned (.plain (OpenSpec.ofChange levelNamesSpec)) levelNamesCard

/-- THE TIED CARD OF 'lineagelaw05.LevelRaises'. -/
def levelRaisesCard : Claim7 := { stood := { row := levelRaisesRow, standIns := [], harness := (true, "304217afb3ff87e1fcc9a4b092d711f7df0663e8f4d52056538e7d04ea277b17"), looks := true }, kinds := [], alts := [], laidByText := true, laidKinds := [.handle, .data], laidTests := true, laidLooks := .later }
def LevelRaisesCardSaid : Prop := Claim7.holds Tryd.pinned (.plain (OpenSpec.ofChange levelRaisesSpec)) levelRaisesCard

/-- THE TIED CARD OF 'lineagelaw05.LevelBack'. -/
def levelBackCard : Claim7 := { stood := { row := levelBackRow, standIns := [], harness := (true, "304217afb3ff87e1fcc9a4b092d711f7df0663e8f4d52056538e7d04ea277b17"), looks := true }, kinds := [], alts := [], laidByText := true, laidKinds := [.data, .data], laidTests := true, laidLooks := .later }
def LevelBackCardSaid : Prop := Claim7.holds Tryd.pinned (.plain (OpenSpec.ofChange levelBackSpec)) levelBackCard

/-- THE TIED CARD OF 'lineagelaw05.LevelMost'. -/
def levelMostCard : Claim7 := { stood := { row := levelMostRow, standIns := [], harness := (true, "304217afb3ff87e1fcc9a4b092d711f7df0663e8f4d52056538e7d04ea277b17"), looks := true }, kinds := [], alts := [], laidByText := true, laidKinds := [.data], laidTests := true, laidLooks := .later }
def LevelMostCardSaid : Prop := Claim7.holds Tryd.pinned (.plain (OpenSpec.ofChange levelMostSpec)) levelMostCard

/-- THE TIED CARD OF 'lineagelaw05.LevelKnown'. -/
def levelKnownCard : Claim7 := { stood := { row := levelKnownRow, standIns := [], harness := (true, "304217afb3ff87e1fcc9a4b092d711f7df0663e8f4d52056538e7d04ea277b17"), looks := true }, kinds := [], alts := [], laidByText := true, laidKinds := [.data, .data], laidTests := true, laidLooks := .later }
def LevelKnownCardSaid : Prop := Claim7.holds Tryd.pinned (.plain (OpenSpec.ofChange levelKnownSpec)) levelKnownCard

/-- THE SECOND FORM's CARD OF 'lineagelaw05.LevelNames'. -/
def levelNamesUptoCard : Claim7 := { stood := { row := levelNamesUptoRow, standIns := [], harness := (true, "304217afb3ff87e1fcc9a4b092d711f7df0663e8f4d52056538e7d04ea277b17"), looks := true }, kinds := [], alts := [], laidByText := true, laidKinds := [.handle, .data], laidTests := true, laidLooks := .later }
def LevelNamesUptoCardSaid : Prop := Claim7.holds Tryd.pinned (.plain (OpenSpec.upto levelNamesSpec)) levelNamesUptoCard

/-- THE SECOND FORM's CARD OF 'lineagelaw05.LevelRaises'. -/
def levelRaisesUptoCard : Claim7 := { stood := { row := levelRaisesUptoRow, standIns := [], harness := (true, "304217afb3ff87e1fcc9a4b092d711f7df0663e8f4d52056538e7d04ea277b17"), looks := true }, kinds := [], alts := [], laidByText := true, laidKinds := [.handle, .data], laidTests := true, laidLooks := .later }
def LevelRaisesUptoCardSaid : Prop := Claim7.holds Tryd.pinned (.plain (OpenSpec.upto levelRaisesSpec)) levelRaisesUptoCard

/-- THE SECOND FORM's CARD OF 'lineagelaw05.LevelBack'. -/
def levelBackUptoCard : Claim7 := { stood := { row := levelBackUptoRow, standIns := [], harness := (true, "304217afb3ff87e1fcc9a4b092d711f7df0663e8f4d52056538e7d04ea277b17"), looks := true }, kinds := [], alts := [], laidByText := true, laidKinds := [.data, .data], laidTests := true, laidLooks := .later }
def LevelBackUptoCardSaid : Prop := Claim7.holds Tryd.pinned (.plain (OpenSpec.upto levelBackSpec)) levelBackUptoCard

/-- THE SECOND FORM's CARD OF 'lineagelaw05.LevelMost'. -/
def levelMostUptoCard : Claim7 := { stood := { row := levelMostUptoRow, standIns := [], harness := (true, "304217afb3ff87e1fcc9a4b092d711f7df0663e8f4d52056538e7d04ea277b17"), looks := true }, kinds := [], alts := [], laidByText := true, laidKinds := [.data], laidTests := true, laidLooks := .later }
def LevelMostUptoCardSaid : Prop := Claim7.holds Tryd.pinned (.plain (OpenSpec.upto levelMostSpec)) levelMostUptoCard

/-- THE SECOND FORM's CARD OF 'lineagelaw05.LevelKnown'. -/
def levelKnownUptoCard : Claim7 := { stood := { row := levelKnownUptoRow, standIns := [], harness := (true, "304217afb3ff87e1fcc9a4b092d711f7df0663e8f4d52056538e7d04ea277b17"), looks := true }, kinds := [], alts := [], laidByText := true, laidKinds := [.data, .data], laidTests := true, laidLooks := .later }
def LevelKnownUptoCardSaid : Prop := Claim7.holds Tryd.pinned (.plain (OpenSpec.upto levelKnownSpec)) levelKnownUptoCard
end Rows
end Go.Proofs.YtfhnfejghngoeaaDoor
