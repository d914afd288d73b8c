/- The listed variable errors.errorType, alone and beside the library's table. -/
import Derived.Test.YtmgddocninihoabDoorLaid
import Derived.Test.YtmgddocninihoabDoorAsTop
namespace Go.Proofs.YtmgddocninihoabDoor
open Go.ChangeShapes Go.WideShapes Go.RowKit
set_option linter.unusedVariables false
namespace Er
open Go.Proofs.YtmgddocninihoabDoor.Bt (tabLaid Tab tab_of_laid)

def errLaid : List (String × DataW Unit) := [("errors.errorType", Rows.laid_errors_errorType)]
def bothLaid : List (String × DataW Unit) := [("math/bits.deBruijn64tab", Rows.laid_math_bits_deBruijn64tab), ("errors.errorType", Rows.laid_errors_errorType)]

theorem etX : Tryd.prog.globalNamed "errors.errorType" = some 0 := by kernel_rfl
theorem rtX : (Tryd.prog.cutTypes.find? (·.1 == "internal/reflectlite.rtype")).map (·.2) = some 108 := by kernel_rfl
theorem oneRowX : ((List.range 158).filter fun t => Tryd.prog.rowNamed t [101, 114, 114, 111, 114]) = [31] := by kernel_rfl
theorem sizeX : Tryd.prog.types.size = 158 := by kernel_rfl

theorem handle_of {W : World} (h' : handlesMet Tryd.prog errLaid W) : Handle W := by
  obtain ⟨name, u, ty, e1, e2, e3, e4, e5⟩ := h' _ (List.mem_singleton.2 rfl)
  have en : name = [101, 114, 114, 111, 114] := (Option.some.inj e1).symm
  subst en
  obtain rfl := Option.some.inj (rtX.symm.trans e2)
  have hm : ty ∈ (List.range 158).filter fun t => Tryd.prog.rowNamed t [101, 114, 114, 111, 114] := List.mem_filter.2 ⟨List.mem_range.2 (by rw [← sizeX]; exact e3), e4⟩
  rw [oneRowX] at hm
  obtain rfl := List.mem_singleton.1 hm
  have hh : typeHandle Tryd.prog 31 = .pointer (some ⟨3, 31, none⟩) := by kernel_rfl
  rw [hh] at e5
  have := World.var?_cell etX e5 0
  show W.cell? _ = _
  simpa using this

theorem err_of_laid {W : World} (h : laidMetH Tryd.prog errLaid W) : Handle W := by
  have h' : laidMet Tryd.prog [] W ∧ handlesMet Tryd.prog errLaid W := h
  exact handle_of h'.2

theorem both_of_laid {W : World} (h : laidMetH Tryd.prog bothLaid W) : Tab W ∧ 1 < W.heap.size ∧ Handle W := by
  have h' : laidMet Tryd.prog tabLaid W ∧ handlesMet Tryd.prog errLaid W := h
  obtain ⟨h1, h2⟩ := tab_of_laid (W := W) (by rw [MakeChecks.laidMetH_plain _ _ _ (by kernel_rfl)]; exact h'.1)
  exact ⟨h1, h2, handle_of h'.2⟩

/-- A world with the variable's cell laid. -/
noncomputable def withE (w0 : World) : World :=
  { w0 with heap := w0.heap.modify 0 fun
      | .cells _ t frozen => .cells #[.iface 108 (.agg #[.pointer (some ⟨3, 31, none⟩)])] t frozen
      | o => o }
noncomputable def errWorld (os : Os) : World := withE (World.holding Tryd.prog os ⟨#[], #[], []⟩)
theorem errWorld_os (os : Os) : (errWorld os).os = os := rfl
theorem errWorld_met (os : Os) (args : Array Value) : laidMetH Tryd.prog errLaid ((errWorld os).forCall (fun _ _ => 0) ⟨#[], args, []⟩).memory :=
  laidMetH_of_parts (laidMet_nil _ _) (by kernel_rfl)
noncomputable def bothWorld (os : Os) : World := withE (World.laidAll Tryd.prog os tabLaid)
theorem withE_os (w : World) : (withE w).os = w.os := rfl
theorem bothWorld_os (os : Os) : (bothWorld os).os = os := by unfold bothWorld; rw [withE_os]; exact World.laidAll_os _ _ _
theorem bothWorld_met (os : Os) (args : Array Value) : laidMetH Tryd.prog bothLaid ((bothWorld os).forCall (fun _ _ => 0) ⟨#[], args, []⟩).memory :=
  laidMetH_of_parts (laidMet_of_run' (l := tabLaid) 8 (by kernel_rfl) (by kernel_rfl)) (by kernel_rfl)
end Er
end Go.Proofs.YtmgddocninihoabDoor
