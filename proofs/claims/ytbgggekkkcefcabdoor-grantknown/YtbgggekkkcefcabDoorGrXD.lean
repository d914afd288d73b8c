/- Layer 22: Plain of an error, at a door. -/
import Derived.Test.YtbgggekkkcefcabDoorGrX
import Derived.Test.YtbgggekkkcefcabDoorPlace
namespace Go.Proofs.YtbgggekkkcefcabDoor
set_option linter.ambiguousOpen false
open Go.RowKit
namespace Gr
set_option linter.unusedVariables false
set_option linter.unusedSimpArgs false

theorem plainE (E : Int) (h : 0 ≤ E ∧ E ≤ 24) (w : World) (hE : Er.Handle w) : Calls Tryd.prog 30 #[errV E, nu E] w fun e w' => e = .returned (.bool true) ∧ Below w.heap.size w w' := by
  by_cases h0 : E = 0
  · subst h0
    exact (Er.plain_nil 0 w).mono fun e w' h => by simpa using h
  · obtain ⟨n, rfl⟩ : ∃ n : Nat, E = (n : Int) := ⟨E.toNat, by omega⟩
    unfold errV
    rw [if_neg h0]
    exact (Er.plain_no n n (by omega) (by omega) w hE).mono fun e w' h => by simpa using h
end Gr
end Go.Proofs.YtbgggekkkcefcabDoor
