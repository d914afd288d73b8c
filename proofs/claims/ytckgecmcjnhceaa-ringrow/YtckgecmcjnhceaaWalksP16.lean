/- RingRow, RingDropped, RingSpliced over the program's own calls. -/
import Derived.Test.YtckgecmcjnhceaaRngU
import Derived.Test.YtckgecmcjnhceaaRngZ
namespace Go.Proofs.Ytckgecmcjnhceaa
set_option linter.ambiguousOpen false
open Go.RowKit
namespace Rg
open An Ft Lv
set_option linter.unusedVariables false

theorem ringRow_walk (v : Value) (l : List Int) (w : World) (hR : RdI w v l) (hl : ∀ x ∈ l, I64 x) :
    Calls Try.prog 3 #[v] w fun e w' => e = .returned (.bool true) ∧ Below w.heap.size w w' :=
  ringRow_yes keepP new_any get_any pushP allP v l w hR hl

theorem ringDropped_walk (v : Value) (l : List Int) (which : Int) (w : World) (hR : RdI w v l) (hl : ∀ x ∈ l, I64 x) (hw : I64 which) :
    Calls Try.prog 4 #[v, nu which] w fun e w' => e = .returned (.bool true) ∧ Below w.heap.size w w' :=
  ringDropped_yes keepP new_any get_any pushP dropP allP v l which w hR hl hw

theorem ringSpliced_walk (v : Value) (l : List Int) (u : Value) (m : List Int) (cut : Int) (w : World) (hR : RdI w v l) (hl : ∀ x ∈ l, I64 x) (hM : RdI w u m) (hm : ∀ x ∈ m, I64 x) (hc : I64 cut) :
    Calls Try.prog 5 #[v, u, nu cut] w fun e w' => e = .returned (.bool true) ∧ Below w.heap.size w w' :=
  ringSpliced_yes keepP new_any pushP dropP spliceP allP v u l m cut w hR hM hl hm hc
end Rg
end Go.Proofs.Ytckgecmcjnhceaa
