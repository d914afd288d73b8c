import Derived.Test.YtnllplholfhbdaaDoorEqE
import Derived.Test.YtnllplholfhbdaaDoorPackP
/- What the program's Encode and Decode must answer. -/
namespace Go.Proofs.YtnllplholfhbdaaDoor
set_option linter.ambiguousOpen false
open Go.RowKit
namespace Ev
open Pk Sm Ft
set_option linter.unusedSimpArgs false
set_option linter.unusedVariables false

/-- What the program's calls answer. -/
structure Says : Prop where
  encode : ∀ (w : World) (e : Evt), e.fit → e.rng → Calls Tryd.prog 8 #[.agg e.arr] w fun x w' => ∃ v, x = .returned (.tuple #[v, errE (if mayE e then 0 else 1)]) ∧ w'.ownsRow w.heap.size 5 1 v (bytesE e).length ((bytesE e).map by1) ∧ Below w.heap.size w w'
  decode : ∀ (w : World) (v : Value) (b : List UInt8), RdB w v b → b.length ≤ 65537 → Calls Tryd.prog 14 #[v] w fun x w' => x = .returned (.tuple #[.agg (decE b).1.arr, errE (decE b).2]) ∧ Below w.heap.size w w'

theorem cell_at {w : World} {sb j : Nat} {xs : Array Value} {t : TypeId} {v : Value} (h : w.heap[sb]? = some (.cells xs t)) (hj : xs[j]? = some v) : w.cell? ⟨sb, j, none⟩ = some v := by
  simp [World.cell?, h, hj]
end Ev
end Go.Proofs.YtnllplholfhbdaaDoor
