/- Ints that came in: layer 21. -/
import Derived.Test.YthjdpfmnbmnbhaaShape
import Derived.Test.YthjdpfmnbmnbhaaExpU
import Derived.ProofKit
namespace Go.Proofs.Ythjdpfmnbmnbhaa
set_option linter.ambiguousOpen false
open Go.ChangeShapes Go.WideShapes Go.ChangeAt Go.RowKit
set_option linter.unusedVariables false
set_option maxRecDepth 100000
namespace Ex
open Hh

theorem Try.laidOutX : laidOutB Try.prog = true := by kernel_rfl

theorem wf64 {a : Int} (h : (Lit.int .i64 a).wf = true) : I64e a := by
  simp [Lit.wf, IntKind.min, IntKind.max, IntKind.bits, IntKind.signed] at h
  unfold I64e
  omega

theorem int_shape : Fl.shape Try.prog 1 3 = [.i .i64] := by kernel_rfl

theorem int_ok : Fl.okT Try.prog 1 3 = true := by kernel_rfl

theorem int_cells : Try.prog.cellsOf 3 = 1 := by kernel_rfl

/-- An address whose cell lies there lies in the heap. -/
theorem range_in {W : World} {g o : Nat} {v : Value} {vs : List Value} (h : W.rangeAt g o (v :: vs)) : g < W.heap.size := by
  have h0 := h 0 v rfl
  rcases Nat.lt_or_ge g W.heap.size with h' | h'
  · exact h'
  · simp [World.cell?, Array.getElem?_eq_none h'] at h0

theorem ints19_sized {H : Type} {enc : TypeId × Value → H} {W : World} {base : Nat} {sp : Nat → Bool} {held : Bool} {v : Value} {d : DataW H} {p : List MemPlace}
    (hv : ∃ a len cap, v = .slice a len cap) (h : ∃ fuel, DataW.trod enc Try.prog W base sp held fuel 22 v.cells.toList = some (d, p)) {ts : List TypeId} {ds : List (DataW H)} (hsz : (DataW.weightsEach Try.prog ts ds).all (· ≤ reachBytes) = true) (j : Nat) (ht : ts[j]? = some 22) (hd : ds[j]? = some d) :
    ∃ l, RdU W v l ∧ ∀ x ∈ l, I64e x := by
  obtain ⟨a, len, cap, rfl, hl, hm, _, hc⟩ := Fl.rows_of 1 int_ok (by rw [int_cells]; omega) Try.underlying22 hv h hsz j ht hd
  rcases Nat.eq_zero_or_pos len with h0 | h0
  · subst h0
    exact ⟨[], ⟨a, cap, rfl, hl, hm, fun h => by simp at h⟩, by simp⟩
  · obtain ⟨g, o, rfl, hi⟩ := hc h0
    rw [int_cells] at hi
    have hs : ∀ i, i < len → ∃ x : Int, W.rangeAt g (o + i * 1) [nu x] ∧ I64e x := fun i hil => by
      obtain ⟨cs, h1, _, h3, _⟩ := hi i hil
      rw [int_shape] at h3
      obtain ⟨_, cs0, rfl, ⟨f0, rfl, w0⟩, g0⟩ := Fl.M2.out h3
      obtain rfl := Fl.M2.nil g0
      exact ⟨f0, h1, wf64 w0⟩
    obtain ⟨f, hf⟩ := Go.Deep.choose_lt hs
    refine ⟨(List.range len).map f, ⟨_, cap, by simp, by simpa using hl, hm, fun _ => ⟨g, o, rfl, range_in (hf 0 h0).1, fun i x hx => ?_⟩⟩, ?_⟩
    · rw [List.getElem?_map, Option.map_eq_some_iff] at hx
      obtain ⟨k, hk, rfl⟩ := hx
      obtain ⟨hlt, rfl⟩ := List.getElem?_eq_some_iff.1 hk
      rw [List.getElem_range]
      have := (hf i (by simpa using hlt)).1 0 _ rfl
      simpa using this
    · intro x hx
      obtain ⟨i, hi', rfl⟩ := List.mem_map.1 hx
      exact (hf i (by simpa using hi')).2

theorem wf_i64 {a : Int} (h : (Lit.int .i64 a).wf = true) : I64e a := wf64 h
end Ex
end Go.Proofs.Ythjdpfmnbmnbhaa
