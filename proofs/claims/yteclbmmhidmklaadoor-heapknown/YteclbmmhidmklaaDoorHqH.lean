import Derived.Test.YteclbmmhidmklaaDoorHqN
import Derived.Test.YteclbmmhidmklaaDoorHqG
/- The program's heap meets what is asked of it, but for All. -/
namespace Go.Proofs.YteclbmmhidmklaaDoor
set_option linter.ambiguousOpen false
open Go.RowKit
namespace Hq
open Hh Ft
set_option linter.unusedVariables false

theorem heapB_of : HeapB RepQ where
  keep h hk hn := rep_keep h hk hn
  lt h := rep_lt h
  new w n := new_p w n
  setYes w p F N L i key h hk hl hi := set_yes w p F N L i key h hk hl hi
  setNo w p F N L i key h hk hi := set_no w p F N L i key h hi
  key w p F N L i h hk hl := keyq_p w p F N L i h hk
  least w p F N L h hk hl := leastq_p w p F N L h hk
  len w p F N L h := (lenq_p w p F N L h).mono (by
    rintro e w' ⟨rfl, rfl⟩
    exact ⟨rfl, Below.refl _ _⟩)
end Hq
end Go.Proofs.YteclbmmhidmklaaDoor
