/- The steps up as they lie, out of the rows. -/
import Derived.Test.YtbgggekkkcefcabDoorGrL
import Derived.Test.YtbgggekkkcefcabDoorLaidG
namespace Go.Proofs.YtbgggekkkcefcabDoor
set_option linter.ambiguousOpen false
open Go.RowKit Er
namespace Lv
set_option linter.unusedSimpArgs false
set_option linter.unusedVariables false

theorem steps_of {L : List (String × DataW Unit)} {W : World} (h : laidMetH Tryd.prog L W) (e : (L.filter fun x => x.1 == "lineage/level.steps") = [("lineage/level.steps", Rows.laid_lineage_level_steps)]) : StepsG W := by
  have h2 := h.filter fun x => x.1 == "lineage/level.steps"
  rw [e] at h2
  have h' : laidMet Tryd.prog [("lineage/level.steps", Rows.laid_lineage_level_steps)] W := h2
  have hv := Fl.cells_of_laid (g := 1) (t := 102) 4 (by kernel_rfl) (by kernel_rfl) (by kernel_rfl) h'
  have hf : Fl.flat (Rows.laid_lineage_level_steps : DataW Unit) = stepCells := by rfl
  rw [hf] at hv
  intro j v hj
  rw [World.var?_cell (show Tryd.prog.globalNamed "lineage/level.steps" = some 1 by kernel_rfl) hv j]
  simpa using hj
end Lv
end Go.Proofs.YtbgggekkkcefcabDoor
