/-
  DERIVED. GIVEN WITH THE SEED: THE CARDS: each row of YtcleeidfiaafcaaGreatDoorRows.lean that lists a variable, with what it lists TIED to the program's text (the seventh form; the later family's looks); each row that meets fmt, with fmt's text TOLD by the authors' own Lean function (tested against real Go, not proved from fmt's source: count such statements apart). THE CARD IS WHAT COUNTS. Prove the row's statement (the work); the ties are given (YtcleeidfiaafcaaGreatDoorTie.lean); close each card by the builder's one call (the guide's Derived/Test/ToyasCard.lean, 'card_holds'). Laid BY PROGRAM, IN A SANDBOX (cutbox-door.mjs). By AI agents, Wed Nov 11 2026. No macro, syntax, notation, axiom, sorry.
-/
import Derived.Test.YtcleeidfiaafcaaGreatDoorRows
import GoSem.ClaimSeven
namespace Go.Proofs.YtcleeidfiaafcaaGreatDoor
namespace Rows

/-- THE TIED CARD OF 'lineagelaw17.TreePlays'. -/
def treePlaysCard : Claim7 := { stood := { row := treePlaysRow, standIns := [], harness := (true, "387959a818d948388fc28de2a307fb9821f39c640b893e123a764996652667d8"), looks := true }, kinds := [], alts := [], laidByText := true, laidKinds := [.handle], laidTests := true, laidLooks := .later }
def TreePlaysCardSaid : Prop := Claim7.holds Tryz.pinned (.plain (OpenSpec.ofChange treePlaysSpec)) treePlaysCard

/-- THE TIED CARD OF 'lineagelaw17.TreeLasts'. -/
def treeLastsCard : Claim7 := { stood := { row := treeLastsRow, standIns := [], harness := (true, "387959a818d948388fc28de2a307fb9821f39c640b893e123a764996652667d8"), looks := true }, kinds := [], alts := [], laidByText := true, laidKinds := [.handle], laidTests := true, laidLooks := .later }
def TreeLastsCardSaid : Prop := Claim7.holds Tryz.pinned (.plain (OpenSpec.ofChange treeLastsSpec)) treeLastsCard

/-- THE SECOND FORM's CARD OF 'lineagelaw17.TreePlays'. -/
def treePlaysUptoCard : Claim7 := { stood := { row := treePlaysUptoRow, standIns := [], harness := (true, "387959a818d948388fc28de2a307fb9821f39c640b893e123a764996652667d8"), looks := true }, kinds := [], alts := [], laidByText := true, laidKinds := [.handle], laidTests := true, laidLooks := .later }
def TreePlaysUptoCardSaid : Prop := Claim7.holds Tryz.pinned (.plain (OpenSpec.upto treePlaysSpec)) treePlaysUptoCard

/-- THE SECOND FORM's CARD OF 'lineagelaw17.TreeLasts'. -/
def treeLastsUptoCard : Claim7 := { stood := { row := treeLastsUptoRow, standIns := [], harness := (true, "387959a818d948388fc28de2a307fb9821f39c640b893e123a764996652667d8"), looks := true }, kinds := [], alts := [], laidByText := true, laidKinds := [.handle], laidTests := true, laidLooks := .later }
def TreeLastsUptoCardSaid : Prop := Claim7.holds Tryz.pinned (.plain (OpenSpec.upto treeLastsSpec)) treeLastsUptoCard
end Rows
end Go.Proofs.YtcleeidfiaafcaaGreatDoor
