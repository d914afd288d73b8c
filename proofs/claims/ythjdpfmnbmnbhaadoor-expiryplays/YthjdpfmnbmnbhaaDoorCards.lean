/-
  DERIVED. GIVEN WITH THE SEED: THE CARDS: each row of YthjdpfmnbmnbhaaDoorRows.lean that lists a variable, with what it lists TIED to the program's text (the seventh form; the later family's looks); each row that meets fmt, with fmt's text TOLD by the authors' own Lean function (tested against real Go, not proved from fmt's source: count such statements apart). THE CARD IS WHAT COUNTS. Prove the row's statement (the work); the ties are given (YthjdpfmnbmnbhaaDoorTie.lean); close each card by the builder's one call (the guide's Derived/Test/ToyasCard.lean, 'card_holds'). Laid BY PROGRAM, IN A SANDBOX (cutbox-door.mjs). By AI agents, Wed Nov 11 2026. No macro, syntax, notation, axiom, sorry.
-/
import Derived.Test.YthjdpfmnbmnbhaaDoorRows
import GoSem.ClaimSeven
namespace Go.Proofs.YthjdpfmnbmnbhaaDoor
namespace Rows

/-- THE TIED CARD OF 'lineagelaw21.ExpiryPlays'. -/
def expiryPlaysCard : Claim7 := { stood := { row := expiryPlaysRow, standIns := [], harness := (true, "ade392eafb7c63903b6e9ffb1dcd5885921a539e1bd75afbd8c2df7276416bfa"), looks := true }, kinds := [], alts := [], laidByText := true, laidKinds := [.handle], laidTests := true, laidLooks := .later }
def ExpiryPlaysCardSaid : Prop := Claim7.holds Tryd.pinned (.plain (OpenSpec.ofChange expiryPlaysSpec)) expiryPlaysCard

/-- THE SECOND FORM's CARD OF 'lineagelaw21.ExpiryPlays'. -/
def expiryPlaysUptoCard : Claim7 := { stood := { row := expiryPlaysUptoRow, standIns := [], harness := (true, "ade392eafb7c63903b6e9ffb1dcd5885921a539e1bd75afbd8c2df7276416bfa"), looks := true }, kinds := [], alts := [], laidByText := true, laidKinds := [.handle], laidTests := true, laidLooks := .later }
def ExpiryPlaysUptoCardSaid : Prop := Claim7.holds Tryd.pinned (.plain (OpenSpec.upto expiryPlaysSpec)) expiryPlaysUptoCard
end Rows
end Go.Proofs.YthjdpfmnbmnbhaaDoor
