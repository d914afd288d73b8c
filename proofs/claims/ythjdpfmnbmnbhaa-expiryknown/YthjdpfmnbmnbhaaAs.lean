/- errors.As at the target *api.Fault: of a number, and of a number with a place. -/
import Derived.Test.YthjdpfmnbmnbhaaNum
import Derived.RowKitTokens
namespace Go.Proofs.Ythjdpfmnbmnbhaa
open Go.RowKit Go.Extern.Stop Go.Stop Go.Extern
namespace Er
set_option linter.unusedSimpArgs false
set_option linter.unusedVariables false

/-- A handle of a type. -/
def hdl (t : Nat) : Value := .pointer (some ⟨0, t, none⟩)

end Er
end Go.Proofs.Ythjdpfmnbmnbhaa
