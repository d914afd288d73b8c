/- A list of numbers that came in, and its size; the listed variables. -/
import Derived.Test.YtjpiikihjfekhaaDoorOf
import Derived.ChangeSlices
import Derived.SizedLaws
import Derived.ProofKit
namespace Go.Proofs.YtjpiikihjfekhaaDoor
set_option linter.ambiguousOpen false
open Go.ChangeShapes Go.WideShapes Go.ChangeAt Go.RowKit
set_option linter.unusedVariables false

theorem Tryd.laidOutX : laidOutB Tryd.prog = true := by kernel_rfl
theorem Tryd.cellsInt : Tryd.prog.cellsOf 3 = 1 := by kernel_rfl
theorem Tryd.bytesInt : Tryd.prog.bytesOf 3 = 8 := by kernel_rfl
namespace Bt

theorem ints_sized {H : Type} {enc : TypeId × Value → H} {W : World} {base : Nat} {sp : Nat → Bool} {held : Bool} {v : Value} {d : DataW H} {p : List MemPlace}
    (hv : ∃ a len cap, v = .slice a len cap) (h : ∃ fuel, DataW.trod enc Tryd.prog W base sp held fuel 22 v.cells.toList = some (d, p)) {ts : List TypeId} {ds : List (DataW H)} (hsz : (DataW.weightsEach Tryd.prog ts ds).all (· ≤ reachBytes) = true) (j : Nat) (ht : ts[j]? = some 22) (hd : ds[j]? = some d) : ∃ l, RdI W v l ∧ l.length * 8 ≤ 140737488351232 := by
  obtain ⟨a0, len, cap, rfl⟩ := hv
  obtain ⟨fuel, hf⟩ := h
  rcases open_ints Tryd.underlying22 Tryd.underlying3 Tryd.cellsInt hf with ⟨hcs, hx⟩ | ⟨a, len', cap', ss, hcs, _, hl, hm, hz, hx, hcell, hws⟩
  · simp [Value.cells] at hcs
    obtain ⟨rfl, rfl, rfl⟩ := hcs
    exact ⟨[], ⟨_, 0, rfl, Nat.le_refl _, by unfold maxLen; omega, fun h => by simp at h⟩, by simp⟩
  · simp [Value.cells] at hcs
    obtain ⟨rfl, rfl, rfl⟩ := hcs
    have hlen : len ≤ ss.length := by rw [hz]; split <;> omega
    refine ⟨ss.take len, ⟨some a, cap, by simp [Nat.min_eq_left hlen], by simpa [Nat.min_eq_left hlen] using hl, hm, fun h0 => ?_⟩, ?_⟩
    · have h1 : 0 < len := by simp [Nat.min_eq_left hlen] at h0; omega
      have hc0 := hcell 0 (by omega)
      have e0 : a.add 0 = a := by simp [Addr.add]
      rw [e0] at hc0
      obtain ⟨g, o, sp⟩ := a
      have hsp : sp = none := by
        unfold World.cell? at hc0
        split at hc0
        · cases sp with
          | none => rfl
          | some x => simp at hc0
        · cases hc0
      subst hsp
      refine ⟨g, o, rfl, ?_, fun j hj => ?_⟩
      · rcases Nat.lt_or_ge g W.heap.size with h | h
        · exact h
        · simp [World.cell?, Array.getElem?_eq_none h] at hc0
      · have hj2 : j < ss.length := by simp at hj; omega
        have := hcell j hj2
        have ea : Addr.add ⟨g, o, none⟩ j = ⟨g, o + j, none⟩ := by
          unfold Addr.add
          split
          · rename_i h; subst h; rfl
          · rfl
        rw [ea] at this
        rw [this]
        simp only [List.getElem_take, List.getD_eq_getElem?_getD, List.getElem?_eq_getElem hj2, Option.getD_some]
    · have e1 : d = .slice (lits .i64 (ss.take len)) (lits .i64 (ss.drop len)) := (Prod.mk.inj hx).1
      rw [e1] at hd
      have := sized_slice hsz (j := j) (t := 22) (e := 3) ht hd Tryd.underlying22
      rw [Tryd.bytesInt] at this
      simp only [lits, List.length_map, List.length_take, List.length_drop, reachBytes] at this
      simp only [List.length_take]
      omega
end Bt
end Go.Proofs.YtjpiikihjfekhaaDoor
