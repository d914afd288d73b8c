/- Acts that came in: layer 16. -/
import Derived.Test.YtckgecmcjnhceaaDoorLawsY
import Derived.Test.YtckgecmcjnhceaaDoorRngK
namespace Go.Proofs.YtckgecmcjnhceaaDoor
set_option linter.ambiguousOpen false
open Go.ChangeShapes Go.WideShapes Go.ChangeAt Go.RowKit
set_option linter.unusedVariables false
set_option maxRecDepth 100000

theorem Tryd.laidOutX : laidOutB Tryd.prog = true := by kernel_rfl

namespace Rg
open An Lv

theorem rct_shape : Fl.shape Tryd.prog 3 28 = [.i .i64, .i .i64, .i .i64, .i .i64] := by kernel_rfl

theorem rct_ok : Fl.okT Tryd.prog 3 28 = true := by kernel_rfl

theorem rct_cells : Tryd.prog.cellsOf 28 = 4 := by kernel_rfl

theorem acts16_sized {H : Type} {enc : TypeId × Value → H} {W : World} {base : Nat} {sp : Nat → Bool} {held : Bool} {v : Value} {d : DataW H} {p : List MemPlace}
    (hv : ∃ a len cap, v = .slice a len cap) (h : ∃ fuel, DataW.trod enc Tryd.prog W base sp held fuel 22 v.cells.toList = some (d, p)) {ts : List TypeId} {ds : List (DataW H)} (hsz : (DataW.weightsEach Tryd.prog ts ds).all (· ≤ reachBytes) = true) (j : Nat) (ht : ts[j]? = some 22) (hd : ds[j]? = some d) :
    ∃ L, RdC W v L ∧ ∀ x ∈ L, x.fits := by
  obtain ⟨a, len, cap, rfl, hl, hm, _, hc⟩ := Fl.rows_of 3 rct_ok (by rw [rct_cells]; omega) Tryd.underlying22 hv h hsz j ht hd
  rcases Nat.eq_zero_or_pos len with h0 | h0
  · subst h0
    exact ⟨[], ⟨a, cap, rfl, hl, hm, fun h => by simp at h⟩, by simp⟩
  · obtain ⟨g, o, rfl, hi⟩ := hc h0
    rw [rct_cells] at hi
    have hs : ∀ i, i < len → ∃ x : Rct, W.rangeAt g (o + i * 4) x.cells ∧ x.fits := fun i hil => by
      obtain ⟨cs, h1, _, h3, h4⟩ := hi i hil
      rw [rct_shape] at h3
      obtain ⟨_, cs0, rfl, ⟨f0, rfl, w0⟩, g0⟩ := Fl.M2.out h3
      obtain ⟨_, cs1, rfl, ⟨f1, rfl, w1⟩, g1⟩ := Fl.M2.out g0
      obtain ⟨_, cs2, rfl, ⟨f2, rfl, w2⟩, g2⟩ := Fl.M2.out g1
      obtain ⟨_, cs3, rfl, ⟨f3, rfl, w3⟩, g3⟩ := Fl.M2.out g2
      obtain rfl := Fl.M2.nil g3
      exact ⟨⟨f0, f1, f2, f3⟩, h1, wf64 w0, wf64 w1, wf64 w2, wf64 w3⟩
    haveI : Inhabited Rct := ⟨⟨0, 0, 0, 0⟩⟩
    obtain ⟨f, hf⟩ := Go.Deep.choose_lt hs
    refine ⟨(List.range len).map f, ⟨_, cap, by simp, by simpa using hl, hm, fun _ => ⟨g, o, rfl, range_in (hf 0 h0).1, fun i x hx => ?_⟩⟩, ?_⟩
    · rw [List.getElem?_map, Option.map_eq_some_iff] at hx
      obtain ⟨k, hk, rfl⟩ := hx
      obtain ⟨hlt, rfl⟩ := List.getElem?_eq_some_iff.1 hk
      rw [List.getElem_range]
      exact (hf i (by simpa using hlt)).1
    · intro x hx
      obtain ⟨i, hi', rfl⟩ := List.mem_map.1 hx
      exact (hf i (by simpa using hi')).2
end Rg
end Go.Proofs.YtckgecmcjnhceaaDoor
