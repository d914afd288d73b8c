/- The listed variables of the clock: its units, and the library's powers of ten. -/
import Derived.Test.YtfibcbnhjajdlabDoorLaidG
import Derived.Lib.ItoaNum
namespace Go.Proofs.YtfibcbnhjajdlabDoor
open Go.ChangeShapes Go.WideShapes Go.RowKit
set_option linter.unusedVariables false

theorem pow_of {L : List (String × DataW Unit)} {W : World} (h : laidMetH Tryd.prog L W) (e : (L.filter fun x => x.1 == "internal/strconv.uint64pow10") = [("internal/strconv.uint64pow10", Lib.tabData .u64 Lib.pow10Tab)]) :
    Lib.TabIs Tryd.prog W "internal/strconv.uint64pow10" .u64 Lib.pow10Tab := by
  have h2 := h.filter fun x => x.1 == "internal/strconv.uint64pow10"
  rw [e] at h2
  have h' : laidMet Tryd.prog [("internal/strconv.uint64pow10", Lib.tabData .u64 Lib.pow10Tab)] W := h2
  exact Lib.tabIs_of_head (g := 2) (t := 108) (by kernel_rfl) (by kernel_rfl) Tryd.underlying108 Tryd.underlying35 (by kernel_rfl) (by kernel_rfl) h'

/-- The units, as they lie. -/
def unitCells : List Value := [.int .u8 100, .int .i64 86400, .int .i64 1099511627777, .int .u8 104, .int .i64 3600, .int .i64 23, .int .u8 109, .int .i64 60, .int .i64 59, .int .u8 115, .int .i64 1, .int .i64 59]
def Units (w : World) : Prop := ∀ j v, unitCells[j]? = some v → w.cell? ⟨0, j, none⟩ = some v
theorem units_of {L : List (String × DataW Unit)} {W : World} (h : laidMetH Tryd.prog L W) (e : (L.filter fun x => x.1 == "lineage/clock.units") = [("lineage/clock.units", Rows.laid_lineage_clock_units)]) : Units W := by
  have h2 := h.filter fun x => x.1 == "lineage/clock.units"
  rw [e] at h2
  have h' : laidMet Tryd.prog [("lineage/clock.units", Rows.laid_lineage_clock_units)] W := h2
  have hv := Fl.cells_of_laid (g := 0) (t := 47) 4 (by kernel_rfl) (by kernel_rfl) (by kernel_rfl) h'
  have hf : Fl.flat (Rows.laid_lineage_clock_units : DataW Unit) = unitCells := by rfl
  rw [hf] at hv
  intro j v hj
  rw [World.var?_cell (show Tryd.prog.globalNamed "lineage/clock.units" = some 0 by kernel_rfl) hv j]
  simpa using hj
theorem Units.lt {w : World} (h : Units w) : 0 < w.heap.size := by
  have h0 := h 0 _ rfl
  rcases Nat.lt_or_ge 0 w.heap.size with k | k
  · exact k
  · simp [World.cell?, Array.getElem?_eq_none k] at h0
theorem Units.below {w w' : World} (h : Units w) (hb : Below w.heap.size w w') : Units w' := fun j v hj => (hb.cell (p := ⟨0, j, none⟩) h.lt).trans (h j v hj)

end Go.Proofs.YtfibcbnhjajdlabDoor
