/- The program's heap and the document's side by side; what the law asks of both. -/
import Derived.Test.YteclbmmhidmklaaHepA
namespace Go.Proofs.Yteclbmmhidmklaa
set_option linter.ambiguousOpen false
open Go.RowKit
namespace Hh
open Ft
set_option linter.unusedSimpArgs false
set_option linter.unusedVariables false
attribute [local go_sem] Oper.semAt_some

section
variable {base : Nat} {w w' : World} {t : Nat} {F G : Nat → Prop} {N : Int} {L L' : List It}

end


section
variable {R : RepHT} {base : Nat} {w0 wb w w' : World} {p t : Nat} {F0 G0 F G : Nat → Prop} {N : Int} {L1 L2 L' : List It}

theorem HeapC.below (C : HeapC R) (h : R w p F N L1) (hb : Below w.heap.size w w') : R w' p F N L1 := C.keep h (Keep.of_below (F := fun _ => False) hb) (fun _ _ h => h)

end


end Hh
end Go.Proofs.Yteclbmmhidmklaa
