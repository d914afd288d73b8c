/-
  DERIVED. GIVEN WITH THE SEED: THE CARDS: each row of YtalpbciceogjlaaDoorRows.lean that lists a variable, with what it lists TIED to the program's text (the seventh form; the later family's looks); each row that meets fmt, with fmt's text TOLD by the authors' own Lean function (tested against real Go, not proved from fmt's source: count such statements apart). THE CARD IS WHAT COUNTS. Prove the row's statement (the work); the ties are given (YtalpbciceogjlaaDoorTie.lean); close each card by the builder's one call (the guide's Derived/Test/ToyasCard.lean, 'card_holds'). Laid BY PROGRAM, IN A SANDBOX (cutbox-door.mjs). By AI agents, Wed Nov 11 2026. No macro, syntax, notation, axiom, sorry.
-/
import Derived.Test.YtalpbciceogjlaaDoorRows
import GoSem.ClaimSeven
namespace Go.Proofs.YtalpbciceogjlaaDoor
namespace Rows

/-- THE TIED CARD OF 'lineagelaw15.ArenaPlays'. -/
def arenaPlaysCard : Claim7 := { stood := { row := arenaPlaysRow, standIns := [], harness := (true, "1c5cdbe98c9bcee8f88cbbb342cc21baac0675a256bb4be439ec46bd14cae0db"), looks := true }, kinds := [], alts := [], laidByText := true, laidKinds := [.handle], laidTests := true, laidLooks := .later }
def ArenaPlaysCardSaid : Prop := Claim7.holds Tryd.pinned (.plain (OpenSpec.ofChange arenaPlaysSpec)) arenaPlaysCard

/-- THE TIED CARD OF 'lineagelaw15.ArenaLasts'. -/
def arenaLastsCard : Claim7 := { stood := { row := arenaLastsRow, standIns := [], harness := (true, "1c5cdbe98c9bcee8f88cbbb342cc21baac0675a256bb4be439ec46bd14cae0db"), looks := true }, kinds := [], alts := [], laidByText := true, laidKinds := [.handle], laidTests := true, laidLooks := .later }
def ArenaLastsCardSaid : Prop := Claim7.holds Tryd.pinned (.plain (OpenSpec.ofChange arenaLastsSpec)) arenaLastsCard

/-- THE SECOND FORM's CARD OF 'lineagelaw15.ArenaPlays'. -/
def arenaPlaysUptoCard : Claim7 := { stood := { row := arenaPlaysUptoRow, standIns := [], harness := (true, "1c5cdbe98c9bcee8f88cbbb342cc21baac0675a256bb4be439ec46bd14cae0db"), looks := true }, kinds := [], alts := [], laidByText := true, laidKinds := [.handle], laidTests := true, laidLooks := .later }
def ArenaPlaysUptoCardSaid : Prop := Claim7.holds Tryd.pinned (.plain (OpenSpec.upto arenaPlaysSpec)) arenaPlaysUptoCard

/-- THE SECOND FORM's CARD OF 'lineagelaw15.ArenaLasts'. -/
def arenaLastsUptoCard : Claim7 := { stood := { row := arenaLastsUptoRow, standIns := [], harness := (true, "1c5cdbe98c9bcee8f88cbbb342cc21baac0675a256bb4be439ec46bd14cae0db"), looks := true }, kinds := [], alts := [], laidByText := true, laidKinds := [.handle], laidTests := true, laidLooks := .later }
def ArenaLastsUptoCardSaid : Prop := Claim7.holds Tryd.pinned (.plain (OpenSpec.upto arenaLastsSpec)) arenaLastsUptoCard
end Rows
end Go.Proofs.YtalpbciceogjlaaDoor
