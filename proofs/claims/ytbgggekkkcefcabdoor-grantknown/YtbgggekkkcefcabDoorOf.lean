/- The calls Put and Of of package bits, and the first question of the outright statements. -/
import Derived.Test.YtbgggekkkcefcabDoorBase
namespace Go.Proofs.YtbgggekkkcefcabDoor
open Go.RowKit
namespace Bt
set_option linter.unusedSimpArgs false
set_option linter.unusedVariables false

/-- The value v reads, in w, as the list of numbers xs. -/
def RdI (w : World) (v : Value) (xs : List Int) : Prop :=
  ∃ a cap, v = .slice a xs.length cap ∧ xs.length ≤ cap ∧ cap ≤ maxLen ∧ (0 < xs.length → ∃ g o, a = some ⟨g, o, none⟩ ∧ g < w.heap.size ∧ ∀ j (hj : j < xs.length), w.cell? ⟨g, o + j, none⟩ = some (nu xs[j]))

theorem RdI.below {w w' : World} {v : Value} {xs : List Int} (h : RdI w v xs) (hb : Below w.heap.size w w') : RdI w' v xs := by
  obtain ⟨a, cap, h1, h2, h3, h4⟩ := h
  refine ⟨a, cap, h1, h2, h3, fun h0 => ?_⟩
  obtain ⟨g, o, e1, e2, e3⟩ := h4 h0
  exact ⟨g, o, e1, Nat.lt_of_lt_of_le e2 hb.size, fun j hj => (hb.cell (p := ⟨g, o + j, none⟩) e2).trans (e3 j hj)⟩

/-- A set of numbers, or the first that is wrong: the set, the error's number, the place. -/
def ofG : Nat → Nat → List Int → Nat × Nat × Nat
  | s, _, [] => (s, 0, 0)
  | s, k, i :: l => if 0 ≤ i ∧ i < 64 then (if s.testBit i.toNat then (0, 9, k) else ofG (s ||| pw i.toNat) (k + 1) l) else (0, 1, k)

/-- The error of Of, as the program holds it. -/
def errV (no k : Nat) : Value := if no = 0 then .nilIface else .iface 73 (.agg #[nu no, nu k])

theorem or_lt (s i : Nat) (hs : s < 18446744073709551616) (hi : i < 64) : s ||| pw i < 18446744073709551616 :=
  Nat.or_lt_two_pow (n := 64) hs (pow_lt i hi)

end Bt
end Go.Proofs.YtbgggekkkcefcabDoor
