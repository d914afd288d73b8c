/- Lists of raw writes that came in, and their size. -/
import Derived.Test.YtcglehekiibgeaaLawsB
import Derived.Test.YtcglehekiibgeaaDiskP
import Derived.ProofKit
namespace Go.Proofs.Ytcglehekiibgeaa
set_option linter.ambiguousOpen false
open Go.ChangeShapes Go.WideShapes Go.ChangeAt Go.RowKit
set_option linter.unusedVariables false
set_option maxRecDepth 100000

namespace Dk
open Sm

theorem raw_shape : Fl.shape Try.prog 4 33 = [.i .i64, .s] := by kernel_rfl

theorem raw_ok : Fl.okT Try.prog 4 33 = true := by kernel_rfl

theorem raw_cellsOf : Try.prog.cellsOf 33 = 2 := by kernel_rfl

theorem wf_i64 {a : Int} (h : (Lit.int .i64 a).wf = true) : -9223372036854775808 ≤ a ∧ a ≤ 9223372036854775807 := by
  simp [Lit.wf, IntKind.min, IntKind.max, IntKind.signed, IntKind.bits] at h
  omega

theorem raws_sized {H : Type} {enc : TypeId × Value → H} {W : World} {base : Nat} {sp : Nat → Bool} {held : Bool} {v : Value} {d : DataW H} {p : List MemPlace}
    (hv : ∃ a len cap, v = .slice a len cap) (h : ∃ fuel, DataW.trod enc Try.prog W base sp held fuel 22 v.cells.toList = some (d, p)) {ts : List TypeId} {ds : List (DataW H)} (hsz : (DataW.weightsEach Try.prog ts ds).all (· ≤ reachBytes) = true) (j : Nat) (ht : ts[j]? = some 22) (hd : ds[j]? = some d) :
    ∃ l, RdR W v l ∧ ∀ r ∈ l, (-9223372036854775808 ≤ r.1 ∧ r.1 ≤ 9223372036854775807) ∧ r.2.length ≤ 140737488351232 := by
  obtain ⟨a, len, cap, rfl, hl, hm, hz, hc⟩ := Fl.rows_of 4 raw_ok (by rw [raw_cellsOf]; omega) Try.underlying22 hv h hsz j ht hd
  clear hz
  rcases Nat.eq_zero_or_pos len with h0 | h0
  · subst h0
    exact ⟨[], ⟨a, cap, rfl, hl, hm, fun h => by simp at h⟩, by simp⟩
  · obtain ⟨g, o, rfl, hi⟩ := hc h0
    rw [raw_cellsOf] at hi
    have hs : ∀ i, i < len → ∃ x : Raw, (W.cell? ⟨g, o + i * 2, none⟩ = some (nu x.1) ∧ W.cell? ⟨g, o + i * 2 + 1, none⟩ = some (.string (tx x.2))) ∧ (-9223372036854775808 ≤ x.1 ∧ x.1 ≤ 9223372036854775807) ∧ x.2.length ≤ 140737488351232 := fun i hil => by
      obtain ⟨cs, h1, h2, h3, h4⟩ := hi i hil
      rw [raw_shape] at h3
      obtain ⟨_, cs0, rfl, ⟨f0, rfl, w0⟩, g0⟩ := Fl.M2.out h3
      obtain ⟨_, cs1, rfl, ⟨f2, rfl, _⟩, g1⟩ := Fl.M2.out g0
      obtain rfl := Fl.M2.nil g1
      have e2 : tx f2.data.toList = f2 := by
        cases f2
        simp
      have hr : f2.size ≤ 140737488351232 := h4 f2 (by simp)
      refine ⟨(f0, f2.data.toList), ⟨h1 0 _ rfl, ?_⟩, wf_i64 w0, ?_⟩
      · show W.cell? _ = some (.string (tx f2.data.toList))
        rw [e2]
        exact h1 1 _ rfl
      · show f2.data.toList.length ≤ _
        rw [Array.length_toList]
        exact hr
    haveI : Inhabited Raw := ⟨(0, [])⟩
    obtain ⟨f, hf⟩ := Go.Deep.choose_lt hs
    have hgl : g < W.heap.size := World.block_lt_of_cell? W _ (hf 0 h0).1.1
    refine ⟨(List.range len).map f, ⟨_, cap, by simp, by simpa using hl, hm, fun _ => ⟨g, o, rfl, hgl, fun i x hx => ?_⟩⟩, ?_⟩
    · rw [List.getElem?_map] at hx
      obtain ⟨k, hk, rfl⟩ := Option.map_eq_some_iff.1 hx
      obtain ⟨hk1, rfl⟩ := List.getElem?_eq_some_iff.1 hk
      simp only [List.getElem_range]
      exact (hf i (by simpa using hk1)).1
    · intro x hx
      obtain ⟨i, hi', rfl⟩ := List.mem_map.1 hx
      exact (hf i (by simpa using hi')).2
end Dk
end Go.Proofs.Ytcglehekiibgeaa
