import Derived.Test.YtcleeidfiaafcaaDoorTrM
import Derived.Test.YtcleeidfiaafcaaDoorArnA
/- The document's trees: Roots, Kids, Under. -/
namespace Go.Proofs.YtcleeidfiaafcaaDoor
set_option linter.ambiguousOpen false
open Go.RowKit
namespace Tr
open An Rg Ft Lv
set_option linter.unusedSimpArgs false
set_option linter.unusedVariables false

/-- A row of one's own is read, whatever is turned besides. -/
theorem own_len {w : World} {base n : Nat} {v : Value} {l : List Nat} (h : w.ownsRow base 3 1 v n (l.map nun)) : l.length = n := by
  have := h.1
  simpa using this

theorem keep_row {w w2 w3 wr : World} {v v1 : Value} (h12 : Keep (fun k => v.ownBlock = some k) w w2) (pl : ∀ k, v1.ownBlock = some k → v.ownBlock = some k ∨ w.heap.size ≤ k) (h23 : Below w2.heap.size w2 w3) (h3r : Keep (fun k => v1.ownBlock = some k) w3 wr) : Keep (fun k => v.ownBlock = some k) w wr :=
  (h12.trans (Keep.of_below (F := fun _ => False) h23) (fun _ _ e => e.elim)).trans h3r (fun i hi e => (pl i e).resolve_right (by omega))

end Tr
end Go.Proofs.YtcleeidfiaafcaaDoor
