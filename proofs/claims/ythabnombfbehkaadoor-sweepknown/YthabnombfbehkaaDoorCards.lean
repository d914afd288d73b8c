/-
  DERIVED. GIVEN WITH THE SEED: THE CARDS: each row of YthabnombfbehkaaDoorRows.lean that lists a variable, with what it lists TIED to the program's text (the seventh form; the later family's looks); each row that meets fmt, with fmt's text TOLD by the authors' own Lean function (tested against real Go, not proved from fmt's source: count such statements apart). THE CARD IS WHAT COUNTS. Prove the row's statement (the work); the ties are given (YthabnombfbehkaaDoorTie.lean); close each card by the builder's one call (the guide's Derived/Test/ToyasCard.lean, 'card_holds'). Laid BY PROGRAM, IN A SANDBOX (cutbox-door.mjs). By AI agents, Wed Nov 11 2026. No macro, syntax, notation, axiom, sorry.
-/
import Derived.Test.YthabnombfbehkaaDoorRows
import GoSem.ClaimSeven
namespace Go.Proofs.YthabnombfbehkaaDoor
namespace Rows

/-- THE TIED CARD OF 'lineagelaw19.SweepKnown'. -/
def sweepKnownCard : Claim7 := { stood := { row := sweepKnownRow, standIns := [], harness := (true, "234e573a95417d5e1d3635a943d0f77bf1b401bb965c4ce691eb859d14350f8c"), looks := true }, kinds := [], alts := [], laidByText := true, laidKinds := [.handle], laidTests := true, laidLooks := .later }
def SweepKnownCardSaid : Prop := Claim7.holds Tryd.pinned (.plain (OpenSpec.ofChange sweepKnownSpec)) sweepKnownCard

/-- THE SECOND FORM's CARD OF 'lineagelaw19.SweepKnown'. -/
def sweepKnownUptoCard : Claim7 := { stood := { row := sweepKnownUptoRow, standIns := [], harness := (true, "234e573a95417d5e1d3635a943d0f77bf1b401bb965c4ce691eb859d14350f8c"), looks := true }, kinds := [], alts := [], laidByText := true, laidKinds := [.handle], laidTests := true, laidLooks := .later }
def SweepKnownUptoCardSaid : Prop := Claim7.holds Tryd.pinned (.plain (OpenSpec.upto sweepKnownSpec)) sweepKnownUptoCard
end Rows
end Go.Proofs.YthabnombfbehkaaDoor
