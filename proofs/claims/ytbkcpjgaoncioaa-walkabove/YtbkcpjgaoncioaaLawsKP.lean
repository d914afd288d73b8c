/- Ints, a link, a harm that came in: layer 18. -/
import Derived.Test.YtbkcpjgaoncioaaLawsK
import Derived.Test.YtbkcpjgaoncioaaWlkI
namespace Go.Proofs.Ytbkcpjgaoncioaa
set_option linter.ambiguousOpen false
open Go.ChangeShapes Go.WideShapes Go.ChangeAt Go.RowKit
set_option linter.unusedVariables false
set_option maxRecDepth 100000
namespace Wk
open An Lv

theorem int_shape : Fl.shape Try.prog 1 3 = [.i .i64] := by kernel_rfl

theorem int_ok : Fl.okT Try.prog 1 3 = true := by kernel_rfl

theorem int_cells : Try.prog.cellsOf 3 = 1 := by kernel_rfl

theorem ints18_sized {H : Type} {enc : TypeId × Value → H} {W : World} {base : Nat} {sp : Nat → Bool} {held : Bool} {v : Value} {d : DataW H} {p : List MemPlace}
    (hv : ∃ a len cap, v = .slice a len cap) (h : ∃ fuel, DataW.trod enc Try.prog W base sp held fuel 35 v.cells.toList = some (d, p)) {ts : List TypeId} {ds : List (DataW H)} (hsz : (DataW.weightsEach Try.prog ts ds).all (· ≤ reachBytes) = true) (j : Nat) (ht : ts[j]? = some 35) (hd : ds[j]? = some d) :
    ∃ l, RdW W v l ∧ ∀ x ∈ l, I64 x := by
  obtain ⟨a, len, cap, rfl, hl, hm, _, hc⟩ := Fl.rows_of 1 int_ok (by rw [int_cells]; omega) Try.underlying35 hv h hsz j ht hd
  rcases Nat.eq_zero_or_pos len with h0 | h0
  · subst h0
    exact ⟨[], ⟨a, cap, rfl, hl, hm, fun h => by simp at h⟩, by simp⟩
  · obtain ⟨g, o, rfl, hi⟩ := hc h0
    rw [int_cells] at hi
    have hs : ∀ i, i < len → ∃ x : Int, W.rangeAt g (o + i * 1) [nu x] ∧ I64 x := fun i hil => by
      obtain ⟨cs, h1, _, h3, _⟩ := hi i hil
      rw [int_shape] at h3
      obtain ⟨_, cs0, rfl, ⟨f0, rfl, w0⟩, g0⟩ := Fl.M2.out h3
      obtain rfl := Fl.M2.nil g0
      exact ⟨f0, h1, wf64 w0⟩
    obtain ⟨f, hf⟩ := Go.Deep.choose_lt hs
    refine ⟨(List.range len).map f, ⟨_, cap, by simp, by simpa using hl, hm, fun _ => ⟨g, o, rfl, range_in (hf 0 h0).1, fun i x hx => ?_⟩⟩, ?_⟩
    · rw [List.getElem?_map, Option.map_eq_some_iff] at hx
      obtain ⟨k, hk, rfl⟩ := hx
      obtain ⟨hlt, rfl⟩ := List.getElem?_eq_some_iff.1 hk
      rw [List.getElem_range]
      have := (hf i (by simpa using hlt)).1 0 _ rfl
      simpa using this
    · intro x hx
      obtain ⟨i, hi', rfl⟩ := List.mem_map.1 hx
      exact (hf i (by simpa using hi')).2

theorem lk_shape : Fl.shape Try.prog 3 33 = [.i .i64, .i .i64] := by kernel_rfl

theorem lk_ok : Fl.okT Try.prog 3 33 = true := by kernel_rfl

theorem link_open {H : Type} {enc : TypeId × Value → H} {W : World} {base b0 : Nat} {r : Reach} {sp : Nat → Bool} {held : Bool} {v : Value} {d : DataW H} {p : List MemPlace}
    (hv : Value.okWide Try.prog W r b0 33 v) (h : DataW.Trod enc Try.prog W base sp held 33 v d p) : ∃ a b : Int, v = lkU a b ∧ I64 a ∧ I64 b := by
  obtain ⟨cs, rfl, hcz⟩ := okWide_struct Try.underlying33 hv
  obtain ⟨fuel, hf⟩ := h
  have hc : (Value.agg cs).cells.toList = cs.toList := rfl
  rw [hc] at hf
  have e2 := Fl.flat_of 3 33 _ _ _ _ lk_ok hf
  have hm := Fl.shape_of 3 33 _ _ _ _ lk_ok hf
  rw [← e2, lk_shape] at hm
  obtain ⟨_, cs0, a0, ⟨f0, rfl, w0⟩, g0⟩ := Fl.M2.out hm
  obtain ⟨_, cs1, rfl, ⟨f1, rfl, w1⟩, g1⟩ := Fl.M2.out g0
  obtain rfl := Fl.M2.nil g1
  refine ⟨f0, f1, ?_, wf64 w0, wf64 w1⟩
  show Value.agg cs = .agg _
  congr 1
  exact Array.toList_inj.1 a0

theorem hm_shape : Fl.shape Try.prog 3 42 = [.i .i64, .i .i64] := by kernel_rfl

theorem hm_ok : Fl.okT Try.prog 3 42 = true := by kernel_rfl

theorem harm_open {H : Type} {enc : TypeId × Value → H} {W : World} {base b0 : Nat} {r : Reach} {sp : Nat → Bool} {held : Bool} {v : Value} {d : DataW H} {p : List MemPlace}
    (hv : Value.okWide Try.prog W r b0 42 v) (h : DataW.Trod enc Try.prog W base sp held 42 v d p) : ∃ a b : Int, v = lkU a b ∧ I64 a ∧ I64 b := by
  obtain ⟨cs, rfl, hcz⟩ := okWide_struct Try.underlying42 hv
  obtain ⟨fuel, hf⟩ := h
  have hc : (Value.agg cs).cells.toList = cs.toList := rfl
  rw [hc] at hf
  have e2 := Fl.flat_of 3 42 _ _ _ _ hm_ok hf
  have hm := Fl.shape_of 3 42 _ _ _ _ hm_ok hf
  rw [← e2, hm_shape] at hm
  obtain ⟨_, cs0, a0, ⟨f0, rfl, w0⟩, g0⟩ := Fl.M2.out hm
  obtain ⟨_, cs1, rfl, ⟨f1, rfl, w1⟩, g1⟩ := Fl.M2.out g0
  obtain rfl := Fl.M2.nil g1
  refine ⟨f0, f1, ?_, wf64 w0, wf64 w1⟩
  show Value.agg cs = .agg _
  congr 1
  exact Array.toList_inj.1 a0

end Wk
end Go.Proofs.Ytbkcpjgaoncioaa
