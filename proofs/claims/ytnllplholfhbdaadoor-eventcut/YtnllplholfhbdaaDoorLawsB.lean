import Derived.Test.YtnllplholfhbdaaDoorShape
import Derived.Test.YtnllplholfhbdaaDoorRegs
import Derived.ProofKit
/- Rows of bytes that came in, and their size. -/
namespace Go.Proofs.YtnllplholfhbdaaDoor
set_option linter.ambiguousOpen false
open Go.ChangeShapes Go.WideShapes Go.ChangeAt Go.RowKit
set_option linter.unusedVariables false
set_option maxRecDepth 100000

theorem Tryd.laidOutX : laidOutB Tryd.prog = true := by kernel_rfl

namespace Sm

theorem byte_shape : Fl.shape Tryd.prog 1 5 = [.i .u8] := by kernel_rfl

theorem byte_ok : Fl.okT Tryd.prog 1 5 = true := by kernel_rfl

theorem byte_cells : Tryd.prog.cellsOf 5 = 1 := by kernel_rfl

theorem byte_bytes : Tryd.prog.bytesOf 5 = 1 := by kernel_rfl

theorem byte_wf {n : Int} (h : (Lit.int .u8 n).wf = true) : ∃ b : UInt8, n = (b.toNat : Int) := by
  simp [Lit.wf, IntKind.min, IntKind.max, IntKind.signed, IntKind.bits] at h
  refine ⟨UInt8.ofNat n.toNat, ?_⟩
  rw [UInt8.toNat_ofNat', Nat.mod_eq_of_lt (by omega)]
  omega

theorem bytes_sized {H : Type} {enc : TypeId × Value → H} {W : World} {base : Nat} {sp : Nat → Bool} {held : Bool} {v : Value} {d : DataW H} {p : List MemPlace}
    (hv : ∃ a len cap, v = .slice a len cap) (h : ∃ fuel, DataW.trod enc Tryd.prog W base sp held fuel 30 v.cells.toList = some (d, p)) {ts : List TypeId} {ds : List (DataW H)} (hsz : (DataW.weightsEach Tryd.prog ts ds).all (· ≤ reachBytes) = true) (j : Nat) (ht : ts[j]? = some 30) (hd : ds[j]? = some d) :
    ∃ l, RdB W v l ∧ l.length ≤ 140737488351232 := by
  obtain ⟨a, len, cap, rfl, hl, hm, hz, hc⟩ := Fl.rows_of 1 byte_ok (by rw [byte_cells]; omega) Tryd.underlying30 hv h hsz j ht hd
  rw [byte_bytes] at hz
  have hz' : len ≤ 140737488351232 := by rw [Nat.mul_one] at hz; exact hz
  rcases Nat.eq_zero_or_pos len with h0 | h0
  · subst h0
    exact ⟨[], ⟨a, cap, rfl, hl, hm, fun h => by simp at h⟩, by simp⟩
  · obtain ⟨g, o, rfl, hi⟩ := hc h0
    rw [byte_cells] at hi
    have hs : ∀ i, i < len → ∃ b : UInt8, W.cell? ⟨g, o + i, none⟩ = some (by1 b) := fun i hil => by
      obtain ⟨cs, h1, h2, h3, h4⟩ := hi i hil
      rw [byte_shape] at h3
      obtain ⟨_, cs0, rfl, ⟨n, rfl, hw⟩, g0⟩ := Fl.M2.out h3
      obtain ⟨b, rfl⟩ := byte_wf hw
      have := h1 0 _ rfl
      rw [Nat.mul_one, Nat.add_zero] at this
      exact ⟨b, this⟩
    obtain ⟨f, hf⟩ := Go.Deep.choose_lt hs
    have hgl : g < W.heap.size := by
      have := hf 0 h0
      rcases Nat.lt_or_ge g W.heap.size with h | h
      · exact h
      · simp [World.cell?, Array.getElem?_eq_none h] at this
    refine ⟨(List.range len).map f, ⟨_, cap, by simp, by simpa using hl, hm, fun _ => ⟨g, o, rfl, hgl, fun j hj => ?_⟩⟩, by simpa using hz'⟩
    have hj' : j < len := by simpa using hj
    simpa using hf j hj'
end Sm
end Go.Proofs.YtnllplholfhbdaaDoor
