/-
  DERIVED. GIVEN WITH THE SEED: THE CARDS: each row of YtbgggekkkcefcaaDoorRows.lean that lists a variable, with what it lists TIED to the program's text (the seventh form; the later family's looks); each row that meets fmt, with fmt's text TOLD by the authors' own Lean function (tested against real Go, not proved from fmt's source: count such statements apart). THE CARD IS WHAT COUNTS. Prove the row's statement (the work); the ties are given (YtbgggekkkcefcaaDoorTie.lean); close each card by the builder's one call (the guide's Derived/Test/ToyasCard.lean, 'card_holds'). Laid BY PROGRAM, IN A SANDBOX (cutbox-door.mjs). By AI agents, Wed Nov 11 2026. No macro, syntax, notation, axiom, sorry.
-/
import Derived.Test.YtbgggekkkcefcaaDoorRows
import GoSem.ClaimSeven
namespace Go.Proofs.YtbgggekkkcefcaaDoor
namespace Rows

/-- THE TIED CARD OF 'lineagelaw22.GrantLogins'. -/
def grantLoginsCard : Claim7 := { stood := { row := grantLoginsRow, standIns := [], harness := (true, "db90895ea3bc6bf2b612f90663e1382c46f002e2e9351538dd7cf192b8b1da00"), looks := true }, kinds := [], alts := [], laidByText := true, laidKinds := [.handle], laidTests := true, laidLooks := .later }
def GrantLoginsCardSaid : Prop := Claim7.holds Tryd.pinned (.plain (OpenSpec.ofChange grantLoginsSpec)) grantLoginsCard

/-- THE TIED CARD OF 'lineagelaw22.GrantChildren'. -/
def grantChildrenCard : Claim7 := { stood := { row := grantChildrenRow, standIns := [], harness := (true, "db90895ea3bc6bf2b612f90663e1382c46f002e2e9351538dd7cf192b8b1da00"), looks := true }, kinds := [], alts := [], laidByText := true, laidKinds := [.handle], laidTests := true, laidLooks := .later }
def GrantChildrenCardSaid : Prop := Claim7.holds Tryd.pinned (.plain (OpenSpec.ofChange grantChildrenSpec)) grantChildrenCard

/-- THE TIED CARD OF 'lineagelaw22.GrantRaises'. -/
def grantRaisesCard : Claim7 := { stood := { row := grantRaisesRow, standIns := [], harness := (true, "db90895ea3bc6bf2b612f90663e1382c46f002e2e9351538dd7cf192b8b1da00"), looks := true }, kinds := [], alts := [], laidByText := true, laidKinds := [.handle, .data], laidTests := true, laidLooks := .later }
def GrantRaisesCardSaid : Prop := Claim7.holds Tryd.pinned (.plain (OpenSpec.ofChange grantRaisesSpec)) grantRaisesCard

/-- THE TIED CARD OF 'lineagelaw22.GrantNarrower'. -/
def grantNarrowerCard : Claim7 := { stood := { row := grantNarrowerRow, standIns := [], harness := (true, "db90895ea3bc6bf2b612f90663e1382c46f002e2e9351538dd7cf192b8b1da00"), looks := true }, kinds := [], alts := [], laidByText := true, laidKinds := [.data], laidTests := true, laidLooks := .later }
def GrantNarrowerCardSaid : Prop := Claim7.holds Tryd.pinned (.plain (OpenSpec.ofChange grantNarrowerSpec)) grantNarrowerCard

/-- THE TIED CARD OF 'lineagelaw22.GrantOrder'. -/
def grantOrderCard : Claim7 := { stood := { row := grantOrderRow, standIns := [], harness := (true, "db90895ea3bc6bf2b612f90663e1382c46f002e2e9351538dd7cf192b8b1da00"), looks := true }, kinds := [], alts := [], laidByText := true, laidKinds := [.data], laidTests := true, laidLooks := .later }
def GrantOrderCardSaid : Prop := Claim7.holds Tryd.pinned (.plain (OpenSpec.ofChange grantOrderSpec)) grantOrderCard

/-- THE TIED CARD OF 'lineagelaw22.GrantLess'. -/
def grantLessCard : Claim7 := { stood := { row := grantLessRow, standIns := [], harness := (true, "db90895ea3bc6bf2b612f90663e1382c46f002e2e9351538dd7cf192b8b1da00"), looks := true }, kinds := [], alts := [], laidByText := true, laidKinds := [.data], laidTests := true, laidLooks := .later }
def GrantLessCardSaid : Prop := Claim7.holds Tryd.pinned (.plain (OpenSpec.ofChange grantLessSpec)) grantLessCard

/-- THE SECOND FORM's CARD OF 'lineagelaw22.GrantLogins'. -/
def grantLoginsUptoCard : Claim7 := { stood := { row := grantLoginsUptoRow, standIns := [], harness := (true, "db90895ea3bc6bf2b612f90663e1382c46f002e2e9351538dd7cf192b8b1da00"), looks := true }, kinds := [], alts := [], laidByText := true, laidKinds := [.handle], laidTests := true, laidLooks := .later }
def GrantLoginsUptoCardSaid : Prop := Claim7.holds Tryd.pinned (.plain (OpenSpec.upto grantLoginsSpec)) grantLoginsUptoCard

/-- THE SECOND FORM's CARD OF 'lineagelaw22.GrantChildren'. -/
def grantChildrenUptoCard : Claim7 := { stood := { row := grantChildrenUptoRow, standIns := [], harness := (true, "db90895ea3bc6bf2b612f90663e1382c46f002e2e9351538dd7cf192b8b1da00"), looks := true }, kinds := [], alts := [], laidByText := true, laidKinds := [.handle], laidTests := true, laidLooks := .later }
def GrantChildrenUptoCardSaid : Prop := Claim7.holds Tryd.pinned (.plain (OpenSpec.upto grantChildrenSpec)) grantChildrenUptoCard

/-- THE SECOND FORM's CARD OF 'lineagelaw22.GrantRaises'. -/
def grantRaisesUptoCard : Claim7 := { stood := { row := grantRaisesUptoRow, standIns := [], harness := (true, "db90895ea3bc6bf2b612f90663e1382c46f002e2e9351538dd7cf192b8b1da00"), looks := true }, kinds := [], alts := [], laidByText := true, laidKinds := [.handle, .data], laidTests := true, laidLooks := .later }
def GrantRaisesUptoCardSaid : Prop := Claim7.holds Tryd.pinned (.plain (OpenSpec.upto grantRaisesSpec)) grantRaisesUptoCard

/-- THE SECOND FORM's CARD OF 'lineagelaw22.GrantNarrower'. -/
def grantNarrowerUptoCard : Claim7 := { stood := { row := grantNarrowerUptoRow, standIns := [], harness := (true, "db90895ea3bc6bf2b612f90663e1382c46f002e2e9351538dd7cf192b8b1da00"), looks := true }, kinds := [], alts := [], laidByText := true, laidKinds := [.data], laidTests := true, laidLooks := .later }
def GrantNarrowerUptoCardSaid : Prop := Claim7.holds Tryd.pinned (.plain (OpenSpec.upto grantNarrowerSpec)) grantNarrowerUptoCard

/-- THE SECOND FORM's CARD OF 'lineagelaw22.GrantOrder'. -/
def grantOrderUptoCard : Claim7 := { stood := { row := grantOrderUptoRow, standIns := [], harness := (true, "db90895ea3bc6bf2b612f90663e1382c46f002e2e9351538dd7cf192b8b1da00"), looks := true }, kinds := [], alts := [], laidByText := true, laidKinds := [.data], laidTests := true, laidLooks := .later }
def GrantOrderUptoCardSaid : Prop := Claim7.holds Tryd.pinned (.plain (OpenSpec.upto grantOrderSpec)) grantOrderUptoCard

/-- THE SECOND FORM's CARD OF 'lineagelaw22.GrantLess'. -/
def grantLessUptoCard : Claim7 := { stood := { row := grantLessUptoRow, standIns := [], harness := (true, "db90895ea3bc6bf2b612f90663e1382c46f002e2e9351538dd7cf192b8b1da00"), looks := true }, kinds := [], alts := [], laidByText := true, laidKinds := [.data], laidTests := true, laidLooks := .later }
def GrantLessUptoCardSaid : Prop := Claim7.holds Tryd.pinned (.plain (OpenSpec.upto grantLessSpec)) grantLessUptoCard
end Rows
end Go.Proofs.YtbgggekkkcefcaaDoor
