/- A list of texts that came in, and its size; a number of 32 bits. -/
import Derived.OpenShut
import Derived.Test.YtjnodkjeiogloaaSame
import Derived.SliceStrings
import Derived.SizedLaws
import Derived.Deep.OwnRows
import Derived.ProofKit
namespace Go.Proofs.Ytjnodkjeiogloaa
set_option linter.ambiguousOpen false
open Go.ChangeShapes Go.WideShapes Go.ChangeAt Go.RowKit Nm
set_option linter.unusedVariables false

theorem Try.cellsStr : Try.prog.cellsOf 9 = 1 := by kernel_rfl

theorem Try.laidOutX : laidOutB Try.prog = true := by kernel_rfl

theorem Try.bytesStr : Try.prog.bytesOf 9 = 16 := by kernel_rfl
namespace Rc

theorem texts_sized {H : Type} {enc : TypeId × Value → H} {W : World} {base : Nat} {sp : Nat → Bool} {held : Bool} {v : Value} {d : DataW H} {p : List MemPlace}
    (hv : ∃ a len cap, v = .slice a len cap) (h : ∃ fuel, DataW.trod enc Try.prog W base sp held fuel 23 v.cells.toList = some (d, p)) {ts : List TypeId} {ds : List (DataW H)} (hsz : (DataW.weightsEach Try.prog ts ds).all (· ≤ reachBytes) = true) (j : Nat) (ht : ts[j]? = some 23) (hd : ds[j]? = some d) : ∃ l, Rd W v l ∧ (∀ x ∈ l, x.length ≤ maxLen) ∧ l.length * 16 ≤ 140737488351232 := by
  obtain ⟨a0, len, cap, rfl⟩ := hv
  obtain ⟨fuel, hf⟩ := h
  rcases open_strings Try.underlying23 Try.underlying9 Try.cellsStr hf with ⟨hcs, hx⟩ | ⟨a, len', cap', ss, hcs, _, hl, hm, hz, hx, hcell, hws⟩
  · simp [Value.cells] at hcs
    obtain ⟨rfl, rfl, rfl⟩ := hcs
    exact ⟨[], ⟨_, 0, rfl, Nat.le_refl _, by unfold maxLen; omega, fun h => by simp at h⟩, by simp, by simp⟩
  · simp [Value.cells] at hcs
    obtain ⟨rfl, rfl, rfl⟩ := hcs
    have hlen : len ≤ ss.length := by rw [hz]; split <;> omega
    refine ⟨(ss.take len).map (·.data.toList), ⟨some a, cap, by simp [Nat.min_eq_left hlen], by simpa [Nat.min_eq_left hlen] using hl, hm, fun h0 => ?_⟩, ?_, ?_⟩
    · have h1 : 0 < len := by simpa [Nat.min_eq_left hlen] using h0
      have hc0 := hcell 0 (by omega)
      have e0 : a.add 0 = a := by simp [Addr.add]
      rw [e0] at hc0
      obtain ⟨g, o, sp⟩ := a
      have hsp : sp = none := by
        unfold World.cell? at hc0
        split at hc0
        · cases sp with
          | none => rfl
          | some x => simp at hc0
        · cases hc0
      subst hsp
      refine ⟨g, o, rfl, ?_, fun j hj => ?_⟩
      · rcases Nat.lt_or_ge g W.heap.size with h | h
        · exact h
        · simp [World.cell?, Array.getElem?_eq_none h] at hc0
      · have hj2 : j < ss.length := by simp at hj; omega
        have := hcell j hj2
        have ea : Addr.add ⟨g, o, none⟩ j = ⟨g, o + j, none⟩ := by
          unfold Addr.add
          split
          · rename_i h; subst h; rfl
          · rfl
        rw [ea] at this
        rw [this]
        simp only [List.getElem_map, List.getElem_take, B, List.getD_eq_getElem?_getD, List.getElem?_eq_getElem hj2, Option.getD_some]
    · intro x hx
      obtain ⟨s, hs, rfl⟩ := List.mem_map.1 hx
      exact hws s (List.mem_of_mem_take hs)
    · have e1 : d = .slice (strs (ss.take len)) (strs (ss.drop len)) := (Prod.mk.inj hx).1
      rw [e1] at hd
      have := sized_slice hsz (j := j) (t := 23) (e := 9) ht hd Try.underlying23
      rw [Try.bytesStr] at this
      simp only [strs, List.length_map, List.length_take, List.length_drop, reachBytes] at this
      simp only [List.length_map, List.length_take]
      omega

theorem wf_u32W {a : Int} (h : (Lit.int .u32 a).wf = true) : ∃ x : Nat, a = x ∧ x < 4294967296 := by
  simp [Lit.wf, IntKind.min, IntKind.max, IntKind.signed, IntKind.bits] at h
  exact ⟨a.toNat, by omega, by omega⟩
end Rc
end Go.Proofs.Ytjnodkjeiogloaa
