import Derived.Test.YthdibodmnpcekaaGreatDoorLawsR
import Derived.Test.YthdibodmnpcekaaGreatDoorLawsV
import Derived.Test.YthdibodmnpcekaaGreatDoorPlayK
import Derived.Deep.Slices
import Derived.Deep.Strs
import Derived.ProofKit
/- Lists of acts that came in: each a kind, a number and a row of bytes. -/
namespace Go.Proofs.YthdibodmnpcekaaGreatDoor
set_option linter.ambiguousOpen false
open Go.ChangeShapes Go.WideShapes Go.ChangeAt Go.RowKit
set_option linter.unusedVariables false
set_option maxRecDepth 100000
namespace Lo
open Sm

theorem actn_cells : Tryz.prog.cellsOf 48 = 3 := by kernel_rfl

theorem int_cells : Tryz.prog.cellsOf 3 = 1 := by kernel_rfl

theorem wf_i64 {a : Int} (h : (Lit.int .i64 a).wf = true) : -9223372036854775808 ≤ a ∧ a ≤ 9223372036854775807 := Rc.wf_i64R h

theorem wf_u32V {a : Int} (h : (Lit.int .u32 a).wf = true) : ∃ x : Nat, a = x ∧ x < 4294967296 := Rc.wf_u32R h

theorem acts_any {H : Type} {enc : TypeId × Value → H} {W : World} {base : Nat} {sp : Nat → Bool} {held : Bool} {v : Value} {d : DataW H} {p : List MemPlace}
    (hv : ∃ a len cap, v = .slice a len cap) (h : ∃ fuel, DataW.trod enc Tryz.prog W base sp held fuel 23 v.cells.toList = some (d, p)) :
    ∃ L, RdN W v L ∧ ∀ x ∈ L, x.fits := by
  obtain ⟨a0, len0, cap0, rfl⟩ := hv
  obtain ⟨fuel, hf⟩ := h
  have hf' : DataW.trod enc Tryz.prog W base sp held fuel 23 [.slice a0 len0 cap0] = some (d, p) := hf
  rcases Go.Deep.open_slice Tryz.underlying23 hf' with ⟨hcs, hx⟩ | ⟨a, len, cap, m, n, D', Pl', hcs, hb, hl, hm, hme, hx, hel⟩
  · obtain ⟨rfl, rfl, rfl⟩ : a0 = none ∧ len0 = 0 ∧ cap0 = 0 := by simpa using hcs
    exact ⟨[], ⟨none, 0, rfl, Nat.le_refl _, by decide, fun h => by simp at h⟩, by simp⟩
  · obtain ⟨rfl, rfl, rfl⟩ : a0 = some a ∧ len0 = len ∧ cap0 = cap := by simpa using hcs
    have hmm : len0 ≤ m := by rw [hme]; split <;> omega
    have hs : ∀ i, i < len0 → ∃ x : Actn, (W.cell? (a.add (i * 3)) = some (nu x.k) ∧ W.cell? ((a.add (i * 3)).add 1) = some (nu x.n) ∧ ∃ u, W.cell? ((a.add (i * 3)).add 2) = some u ∧ RdB W u x.p ∧ Pk.Nz u) ∧ x.fits := fun i hi => by
      obtain ⟨cs, h1, h2⟩ := hel i (by omega)
      rw [actn_cells] at h1
      obtain ⟨y0, y1, y2, n', hx', hl', e0, e1, e2⟩ := Go.Deep.trod_struct3 Tryz.underlying48 h2
      rw [actn_cells] at hl'
      obtain ⟨_, hlen, hcell⟩ := World.cells?_some h1
      match cs, hl' with
      | [c0, c1, c2], _ =>
        have e0' : DataW.trod enc Tryz.prog W base sp held n' 3 [c0] = some y0 := by
          have := e0
          rw [int_cells] at this
          exact this
        have e1' : DataW.trod enc Tryz.prog W base sp held n' 3 [c1] = some y1 := by
          have := e1
          rw [int_cells] at this
          exact this
        have e2' : DataW.trod enc Tryz.prog W base sp held n' 46 [c2] = some y2 := by
          have := e2
          rw [Rc.row_cells] at this
          exact this
        obtain ⟨t0, g0, _, w0⟩ := DataW.trod_int Tryz.underlying3 e0'
        obtain ⟨t1, g1, _, w1⟩ := DataW.trod_int Tryz.underlying3 e1'
        obtain ⟨l, r1, r2⟩ := Rc.row_of_trod e2'
        obtain rfl : c0 = .int .i64 t0 := by simpa using g0
        obtain rfl : c1 = .int .i64 t1 := by simpa using g1
        have k0 := hcell 0 (by decide)
        have k1 := hcell 1 (by decide)
        have k2 := hcell 2 (by decide)
        rw [Go.Deep.add_add] at k0
        exact ⟨⟨t0, t1, l⟩, ⟨k0, k1, c2, k2, r1, r2⟩, wf_i64 w0, wf_i64 w1⟩
    haveI : Inhabited Actn := ⟨⟨0, 0, []⟩⟩
    obtain ⟨f, hf⟩ := Go.Deep.choose_lt hs
    refine ⟨(List.range len0).map f, ⟨some a, cap0, by simp, by simpa using hl, hm, fun h0 => ?_⟩, ?_⟩
    · have h0' : 0 < len0 := by simpa using h0
      have hc0 := (hf 0 h0').1.1
      rw [Nat.zero_mul] at hc0
      obtain ⟨g, o, rfl, hgl⟩ := Rc.addr_of hc0
      refine ⟨g, o, rfl, hgl, fun i x hx => ?_⟩
      rw [List.getElem?_map] at hx
      obtain ⟨k, hk, rfl⟩ := Option.map_eq_some_iff.1 hx
      obtain ⟨hk1, rfl⟩ := List.getElem?_eq_some_iff.1 hk
      simp only [List.getElem_range]
      obtain ⟨q0, q1, u, q2, q3, q4⟩ := (hf i (by simpa using hk1)).1
      rw [Addr.add_mid] at q0 q1 q2
      rw [Addr.add_mid] at q1 q2
      exact ⟨q0, q1, u, q2, q3, q4⟩
    · intro x hx
      obtain ⟨i, hi', rfl⟩ := List.mem_map.1 hx
      exact (hf i (by simpa using hi')).2
end Lo
end Go.Proofs.YthdibodmnpcekaaGreatDoor
