import Derived.Test.YtlgjnefieflmbaaDoorArePG
/- The program's disk tells how many raw writes were made. -/
namespace Go.Proofs.YtlgjnefieflmbaaDoor
set_option linter.ambiguousOpen false
open Go.RowKit
namespace Ae
open Sm Ft Dk Pk
set_option linter.unusedVariables false

theorem writes_p (w : World) (p : Nat) (F : Nat → Prop) (d : Dsk) (h : Pd.Rep w p F d) : Calls Tryd.prog 17 #[ptr p] w fun e w' => e = .returned (nu (d.tr.length : Int)) ∧ Below w.heap.size w w' := by
  obtain ⟨bg, bc, tv, fv, pw, h, e⟩ := h
  exact (Pd.writes_any w p bg bc tv fv pw d h).mono fun _ _ ⟨a, b⟩ => ⟨a, Pd.below_self b⟩
end Ae
end Go.Proofs.YtlgjnefieflmbaaDoor
