/- Acts that came in: layer 21. -/
import Derived.Test.YthjdpfmnbmnbhaaDoorShape
import Derived.Test.YthjdpfmnbmnbhaaDoorExpQ
import Derived.ProofKit
namespace Go.Proofs.YthjdpfmnbmnbhaaDoor
set_option linter.ambiguousOpen false
open Go.ChangeShapes Go.WideShapes Go.ChangeAt Go.RowKit
set_option linter.unusedVariables false
set_option maxRecDepth 100000
namespace Ex

theorem Tryd.laidOutX : laidOutB Tryd.prog = true := by kernel_rfl

theorem wf_i64 {a : Int} (h : (Lit.int .i64 a).wf = true) : I64e a := by
  simp [Lit.wf, IntKind.min, IntKind.max, IntKind.bits, IntKind.signed] at h
  unfold I64e
  omega

theorem range_in {W : World} {g o : Nat} {v : Value} {vs : List Value} (h : W.rangeAt g o (v :: vs)) : g < W.heap.size := by
  have h0 := h 0 v rfl
  rcases Nat.lt_or_ge g W.heap.size with h' | h'
  · exact h'
  · simp [World.cell?, Array.getElem?_eq_none h'] at h0

theorem act21_shape : Fl.shape Tryd.prog 4 33 = [.i .i64, .i .i64, .i .i64, .i .i64, .i .i64] := by kernel_rfl

theorem act21_ok : Fl.okT Tryd.prog 4 33 = true := by kernel_rfl

theorem act21_cells : Tryd.prog.cellsOf 33 = 5 := by kernel_rfl

theorem acts21_sized {H : Type} {enc : TypeId × Value → H} {W : World} {base : Nat} {sp : Nat → Bool} {held : Bool} {v : Value} {d : DataW H} {p : List MemPlace}
    (hv : ∃ a len cap, v = .slice a len cap) (h : ∃ fuel, DataW.trod enc Tryd.prog W base sp held fuel 22 v.cells.toList = some (d, p)) {ts : List TypeId} {ds : List (DataW H)} (hsz : (DataW.weightsEach Tryd.prog ts ds).all (· ≤ reachBytes) = true) (j : Nat) (ht : ts[j]? = some 22) (hd : ds[j]? = some d) :
    ∃ L, RdX W v L ∧ ∀ x ∈ L, x.fits := by
  obtain ⟨a, len, cap, rfl, hl, hm, _, hc⟩ := Fl.rows_of 4 act21_ok (by rw [act21_cells]; omega) Tryd.underlying22 hv h hsz j ht hd
  rcases Nat.eq_zero_or_pos len with h0 | h0
  · subst h0
    exact ⟨[], ⟨a, cap, rfl, hl, hm, fun h => by simp at h⟩, by simp⟩
  · obtain ⟨g, o, rfl, hi⟩ := hc h0
    rw [act21_cells] at hi
    have hs : ∀ i, i < len → ∃ x : Xact, W.rangeAt g (o + i * 5) (x.cells) ∧ x.fits := fun i hil => by
      obtain ⟨cs, h1, _, h3, h4⟩ := hi i hil
      rw [act21_shape] at h3
      obtain ⟨_, cs0, rfl, ⟨f0, rfl, w0⟩, g0⟩ := Fl.M2.out h3
      obtain ⟨_, cs1, rfl, ⟨f1, rfl, w1⟩, g1⟩ := Fl.M2.out g0
      obtain ⟨_, cs2, rfl, ⟨f2, rfl, w2⟩, g2⟩ := Fl.M2.out g1
      obtain ⟨_, cs3, rfl, ⟨f3, rfl, w3⟩, g3⟩ := Fl.M2.out g2
      obtain ⟨_, cs4, rfl, ⟨f4, rfl, w4⟩, g4⟩ := Fl.M2.out g3
      obtain rfl := Fl.M2.nil g4
      exact ⟨⟨f0, f1, f2, f3, f4⟩, h1, wf_i64 w0, wf_i64 w2, wf_i64 w3⟩
    haveI : Inhabited Xact := ⟨⟨0, 0, 0, 0, 0⟩⟩
    obtain ⟨f, hf⟩ := Go.Deep.choose_lt hs
    refine ⟨(List.range len).map f, ⟨_, cap, by simp, by simpa using hl, hm, fun _ => ⟨g, o, rfl, range_in (hf 0 h0).1, fun i x hx => ?_⟩⟩, ?_⟩
    · rw [List.getElem?_map, Option.map_eq_some_iff] at hx
      obtain ⟨k, hk, rfl⟩ := hx
      obtain ⟨hlt, rfl⟩ := List.getElem?_eq_some_iff.1 hk
      rw [List.getElem_range]
      exact (hf i (by simpa using hlt)).1
    · intro x hx
      obtain ⟨i, hi', rfl⟩ := List.mem_map.1 hx
      exact (hf i (by simpa using hi')).2
end Ex
end Go.Proofs.YthjdpfmnbmnbhaaDoor
