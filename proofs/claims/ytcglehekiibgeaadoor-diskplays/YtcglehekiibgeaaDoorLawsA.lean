/- Lists of acts that came in, and their size. -/
import Derived.Test.YtcglehekiibgeaaDoorLawsB
import Derived.Test.YtcglehekiibgeaaDoorLaidG
import Derived.Test.YtcglehekiibgeaaDoorPlaysK
import Derived.ProofKit
namespace Go.Proofs.YtcglehekiibgeaaDoor
set_option linter.ambiguousOpen false
open Go.ChangeShapes Go.WideShapes Go.ChangeAt Go.RowKit
set_option linter.unusedVariables false
set_option maxRecDepth 100000

namespace Dk
open Sm

theorem act_shape : Fl.shape Tryd.prog 4 46 = [.i .i64, .i .i64, .s] := by kernel_rfl

theorem act_ok : Fl.okT Tryd.prog 4 46 = true := by kernel_rfl

theorem act_cellsOf : Tryd.prog.cellsOf 46 = 3 := by kernel_rfl

theorem acts_sized {H : Type} {enc : TypeId × Value → H} {W : World} {base : Nat} {sp : Nat → Bool} {held : Bool} {v : Value} {d : DataW H} {p : List MemPlace}
    (hv : ∃ a len cap, v = .slice a len cap) (h : ∃ fuel, DataW.trod enc Tryd.prog W base sp held fuel 22 v.cells.toList = some (d, p)) {ts : List TypeId} {ds : List (DataW H)} (hsz : (DataW.weightsEach Tryd.prog ts ds).all (· ≤ reachBytes) = true) (j : Nat) (ht : ts[j]? = some 22) (hd : ds[j]? = some d) :
    ∃ l, RdA W v l ∧ ∀ a ∈ l, a.fits := by
  obtain ⟨a, len, cap, rfl, hl, hm, hz, hc⟩ := Fl.rows_of 4 act_ok (by rw [act_cellsOf]; omega) Tryd.underlying22 hv h hsz j ht hd
  clear hz
  rcases Nat.eq_zero_or_pos len with h0 | h0
  · subst h0
    exact ⟨[], ⟨a, cap, rfl, hl, hm, fun h => by simp at h⟩, by simp⟩
  · obtain ⟨g, o, rfl, hi⟩ := hc h0
    rw [act_cellsOf] at hi
    have hs : ∀ i, i < len → ∃ x : Act, (W.cell? ⟨g, o + i * 3, none⟩ = some (nu x.k) ∧ W.cell? ⟨g, o + i * 3 + 1, none⟩ = some (nu x.n) ∧ W.cell? ⟨g, o + i * 3 + 2, none⟩ = some (.string (tx x.s))) ∧ x.fits := fun i hil => by
      obtain ⟨cs, h1, h2, h3, h4⟩ := hi i hil
      rw [act_shape] at h3
      obtain ⟨_, cs0, rfl, ⟨f0, rfl, w0⟩, g0⟩ := Fl.M2.out h3
      obtain ⟨_, cs1, rfl, ⟨f1, rfl, w1⟩, g1⟩ := Fl.M2.out g0
      obtain ⟨_, cs2, rfl, ⟨f2, rfl, _⟩, g2⟩ := Fl.M2.out g1
      obtain rfl := Fl.M2.nil g2
      have e2 : tx f2.data.toList = f2 := by
        cases f2
        simp
      have hr : f2.size ≤ 140737488351232 := h4 f2 (by simp)
      refine ⟨⟨f0, f1, f2.data.toList⟩, ⟨h1 0 _ rfl, h1 1 _ rfl, ?_⟩, wf_i64 w0, wf_i64 w1, ?_⟩
      · rw [e2]
        exact h1 2 _ rfl
      · show f2.data.toList.length ≤ _
        rw [Array.length_toList]
        exact hr
    haveI : Inhabited Act := ⟨⟨0, 0, []⟩⟩
    obtain ⟨f, hf⟩ := Go.Deep.choose_lt hs
    have hgl : g < W.heap.size := World.block_lt_of_cell? W _ (hf 0 h0).1.1
    refine ⟨(List.range len).map f, ⟨_, cap, by simp, by simpa using hl, hm, fun _ => ⟨g, o, rfl, hgl, fun i x hx => ?_⟩⟩, ?_⟩
    · rw [List.getElem?_map] at hx
      obtain ⟨k, hk, rfl⟩ := Option.map_eq_some_iff.1 hx
      obtain ⟨hk1, rfl⟩ := List.getElem?_eq_some_iff.1 hk
      simp only [List.getElem_range]
      exact (hf i (by simpa using hk1)).1
    · intro x hx
      obtain ⟨i, hi', rfl⟩ := List.mem_map.1 hx
      exact (hf i (by simpa using hi')).2
end Dk
end Go.Proofs.YtcglehekiibgeaaDoor
