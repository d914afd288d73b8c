/- The library's table as the rows list it: what a walk gets of it, and a world that holds it. -/
import Derived.Test.YtffaogkinhkgdaaDoorBack
import Derived.LaidMore
import Derived.Lay
import Derived.LaidOnce
import Derived.LaidLaws
import Derived.LaidHandle
import Derived.OpenVars
import Derived.OpenShut
import Derived.ChangeSame
import Derived.ChangeVars
import Derived.JoinedOf
import Derived.RowKit
import Derived.RowKitTokens
import Derived.Stop.Joined
namespace Go.Proofs.YtffaogkinhkgdaaDoor
open Go.ChangeShapes Go.WideShapes Go.RowKit
namespace Bt
set_option linter.unusedVariables false

def tabLaid : List (String × DataW Unit) := [("math/bits.deBruijn64tab", Rows.laid_math_bits_deBruijn64tab)]
theorem tab_list : (match (Rows.laid_math_bits_deBruijn64tab : DataW Unit) with | .agg l => l | _ => []) = Lib.deBruijn64tab.map (fun n => .lit (.int .u8 (n : Int))) := by rfl
theorem Tryd.ownX : ownKnob Tryd.prog.godebug = none := by kernel_rfl
theorem tab_of_laid {W : World} (h : laidMetH Tryd.prog tabLaid W) : Tab W ∧ 0 < W.heap.size := by
  rw [MakeChecks.laidMetH_plain _ _ _ (by kernel_rfl)] at h
  obtain ⟨ps, ⟨g, t, cs, fuel, p, q, hg, ht, hv, hd, _, _⟩, _, _⟩ := h
  have hgn : Tryd.prog.globalNamed "math/bits.deBruijn64tab" = some 0 := by kernel_rfl
  obtain rfl := Option.some.inj (hgn.symm.trans hg)
  obtain rfl := Option.some.inj ((show (Tryd.prog.globals[0]?).map (·.type) = some 51 by kernel_rfl).symm.trans ht)
  have c5 : Tryd.prog.cellsOf 5 = 1 := by kernel_rfl
  obtain ⟨xs, m, _, ex, hlen, hl, hel⟩ := DataW.trod_array Tryd.underlying51 hd
  have e3 : xs.map (·.1) = Lib.deBruijn64tab.map (fun n => .lit (.int .u8 (n : Int))) := by
    rw [← tab_list]
    have := (Prod.mk.inj ex).1
    rw [this]
  have cell : ∀ j, j < 64 → cs[j]? = some (.int .u8 (Lib.deBruijn64tab.getD j 0)) := fun j hj => by
    have hk := hel j hj
    rw [c5, Nat.mul_one] at hk
    have hx : xs[j]? = some (xs[j]'(by omega)) := List.getElem?_eq_getElem (by omega)
    rw [hx] at hk
    obtain ⟨z, a0, b0, _⟩ := DataW.trod_int Tryd.underlying5 hk
    have e4 : (xs.map (·.1))[j]? = (Lib.deBruijn64tab.map (fun n => .lit (.int .u8 (n : Int))))[j]? := by rw [e3]
    rw [List.getElem?_map, hx, List.getElem?_map] at e4
    have hjl : j < Lib.deBruijn64tab.length := hj
    rw [List.getElem?_eq_getElem hjl, b0] at e4
    simp only [Option.map_some, Option.some.injEq, DataW.lit.injEq, Lit.int.injEq, true_and] at e4
    have : cs.toList[j]? = some (.int .u8 z) := by
      have := congrArg List.head? a0
      rw [List.head?_take] at this
      simpa [List.head?_drop] using this
    rw [← Array.getElem?_toList, this, e4, List.getD_eq_getElem?_getD, List.getElem?_eq_getElem hjl]
    rfl
  have hT : Tab W := fun j hj => by rw [World.var?_cell hgn hv j]; exact cell j hj
  refine ⟨hT, ?_⟩
  obtain ⟨o, ho, _⟩ := cells_of_cell (hT 0 (by decide))
  exact (Array.getElem?_eq_some_iff.1 ho).1
end Bt
end Go.Proofs.YtffaogkinhkgdaaDoor
