/- A pair that came in: layer 20. -/
import Derived.Test.YteclbmmhidmklaaLawsHp
namespace Go.Proofs.Yteclbmmhidmklaa
set_option linter.ambiguousOpen false
open Go.ChangeShapes Go.WideShapes Go.ChangeAt Go.RowKit
set_option linter.unusedVariables false
set_option maxRecDepth 100000
namespace Hh

theorem pair_open {H : Type} {enc : TypeId × Value → H} {W : World} {base b0 : Nat} {r : Reach} {sp : Nat → Bool} {held : Bool} {v : Value} {d : DataW H} {p : List MemPlace}
    (hv : Value.okWide Try.prog W r b0 41 v) (h : DataW.Trod enc Try.prog W base sp held 41 v d p) : ∃ a b : Int, v = .agg #[nu a, nu b] ∧ I64 a ∧ I64 b := by
  obtain ⟨cs, rfl, hcz⟩ := okWide_struct Try.underlying41 hv
  obtain ⟨fuel, hf⟩ := h
  have hc : (Value.agg cs).cells.toList = cs.toList := rfl
  rw [hc] at hf
  have e2 := Fl.flat_of 3 41 _ _ _ _ pair_ok hf
  have hm := Fl.shape_of 3 41 _ _ _ _ pair_ok hf
  rw [← e2, pair_shape] at hm
  obtain ⟨_, cs0, a0, ⟨f0, rfl, w0⟩, g0⟩ := Fl.M2.out hm
  obtain ⟨_, cs1, rfl, ⟨f1, rfl, w1⟩, g1⟩ := Fl.M2.out g0
  obtain rfl := Fl.M2.nil g1
  refine ⟨f0, f1, ?_, wf64 w0, wf64 w1⟩
  show Value.agg cs = .agg _
  congr 1
  exact Array.toList_inj.1 a0
end Hh
end Go.Proofs.Yteclbmmhidmklaa
