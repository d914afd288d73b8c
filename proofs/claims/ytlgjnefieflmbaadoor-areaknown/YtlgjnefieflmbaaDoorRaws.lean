/- Rows of raw writes; the document's disk. -/
import Derived.Test.YtlgjnefieflmbaaDoorDiskP
namespace Go.Proofs.YtlgjnefieflmbaaDoor
set_option linter.ambiguousOpen false
open Go.RowKit
namespace Dk
open Sm Ft
set_option linter.unusedSimpArgs false
set_option linter.unusedVariables false

/-- It lies there: its struct in the block g, its trail in the row v. -/
structure RDk (w : World) (base g : Nat) (v : Value) (d : Dsk) : Prop where
  blk : w.heap[g]? = some (.cells #[nu d.n, v, nu d.left] 45)
  row : w.ownsRow base 71 2 v d.tr.length (rcs d.tr)
  lo : base ≤ g
  ne : v.ownBlock ≠ some g

/-- Its footprint. -/
def rfp (g : Nat) (v : Value) : Nat → Prop := fun k => k = g ∨ v.ownBlock = some k

theorem RDk.keep {w w' : World} {base g : Nat} {v : Value} {d : Dsk} {F : Nat → Prop} (h : RDk w base g v d) (hk : Keep F w w') (hF : ∀ k, rfp g v k → ¬ F k) : RDk w' base g v d :=
  ⟨hk.at h.blk (hF g (.inl rfl)), hk.own h.row (fun k hv => hF k (.inr hv)), h.lo, h.ne⟩

theorem RDk.lt {w : World} {base g : Nat} {v : Value} {d : Dsk} (h : RDk w base g v d) (k : Nat) (hk : rfp g v k) : base ≤ k ∧ k < w.heap.size := by
  rcases hk with rfl | hk
  · exact ⟨h.lo, (Array.getElem?_eq_some_iff.1 h.blk).1⟩
  · exact h.row.lt k hk

theorem RDk.cells {w : World} {base g : Nat} {v : Value} {d : Dsk} (h : RDk w base g v d) : w.cell? ⟨g, 0, none⟩ = some (nu d.n) ∧ w.cell? ⟨g, 1, none⟩ = some v ∧ w.cell? ⟨g, 2, none⟩ = some (nu d.left) := by
  simp [World.cell?, h.blk]

theorem RDk.free {w : World} {base g : Nat} {v : Value} {d : Dsk} (h : RDk w base g v d) (i : Nat) : w.frozen? ⟨g, i, none⟩ = false := by
  simp [World.frozen?, h.blk]

end Dk
end Go.Proofs.YtlgjnefieflmbaaDoor
