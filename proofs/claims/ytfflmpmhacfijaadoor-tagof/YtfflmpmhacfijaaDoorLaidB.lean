/- The listed variable of the tags: what a key's halves are laid over. -/
import Derived.Test.YtfflmpmhacfijaaDoorLaidG
import Derived.Test.YtfflmpmhacfijaaDoorNew
namespace Go.Proofs.YtfflmpmhacfijaaDoor
open Go.ChangeShapes Go.WideShapes Go.RowKit
set_option linter.unusedVariables false

theorem beg_of {L : List (String × DataW Unit)} {W : World} (h : laidMetH Tryd.prog L W) (e : (L.filter fun x => x.1 == "lineage/tag.beginning") = [("lineage/tag.beginning", Rows.laid_lineage_tag_beginning)]) : Tg.Beg W := by
  have h2 := h.filter fun x => x.1 == "lineage/tag.beginning"
  rw [e] at h2
  have h' : laidMet Tryd.prog [("lineage/tag.beginning", Rows.laid_lineage_tag_beginning)] W := h2
  have hv := Fl.cells_of_laid (g := 0) (t := 46) 4 (by kernel_rfl) (by kernel_rfl) (by kernel_rfl) h'
  have hf : Fl.flat (Rows.laid_lineage_tag_beginning : DataW Unit) = Tg.begCells := by rfl
  rw [hf] at hv
  intro j v hj
  rw [World.var?_cell (show Tryd.prog.globalNamed "lineage/tag.beginning" = some 0 by kernel_rfl) hv j]
  simpa using hj

end Go.Proofs.YtfflmpmhacfijaaDoor
