/- The document's text at the beginning of some bytes; rows of bytes: the same?, a copy. -/
import Derived.Test.YtlgjnefieflmbaaDoorRefNm
namespace Go.Proofs.YtlgjnefieflmbaaDoor
set_option linter.ambiguousOpen false
open Go.RowKit
namespace Pk
open Sm
set_option linter.unusedSimpArgs false
set_option linter.unusedVariables false

theorem slice_midP (a : Option Addr) (len cap i j : Nat) (h : i ≤ j) (hj : j ≤ cap) (w : World) : (Instr.slice 33 (.slice a len cap) (some (.int .i64 (i : Int))) (some (.int .i64 (j : Int))) none).run Tryd.prog w = .ok (.slice (further a cap i) (j - i) (cap - i)) w := by
  have h1 : (0 : Int) ≤ (i : Int) ∧ (i : Int) ≤ (j : Int) := by omega
  have h2 : (0 : Int) ≤ (j : Int) ∧ (j : Int) ≤ (cap : Int) := by omega
  have hu := Tryd.underlying33
  cases a with
  | none =>
    simp [Instr.slice, Instr.sliceBounds, Instr.sliceBound, asIntOf, run_underlying hu, further]
    rw [if_pos hj, if_pos h]
  | some ad =>
    simp [Instr.slice, Instr.sliceBounds, Instr.sliceBound, asIntOf, run_underlying hu, Addr.add, further]
    rw [if_pos hj, if_pos h]

/-- A row of bytes as a text. -/
theorem conv_rd {w : World} {v : Value} {l : List UInt8} (h : RdB w v l) : (convert 33 9 v).run Tryd.prog w = .ok (.string (tx l)) w := by
  obtain ⟨a, cap, rfl, h1, h2, h3⟩ := h
  cases a with
  | none =>
    cases l with
    | nil =>
      rw [run_convert_bytes_string w 33 9 5 none _ cap Tryd.underlying33 Tryd.underlying5 Tryd.underlying9]
      unfold Conv.bytesToString
      simp
      rfl
    | cons x l =>
      obtain ⟨g, o, e, _⟩ := h3 (by simp)
      cases e
  | some ad =>
    refine run_convert_bytes_back w 33 9 5 ad cap l Tryd.underlying33 Tryd.underlying5 Tryd.underlying9 (fun j hj => ?_)
    obtain ⟨g, o, e, _, hc⟩ := h3 (by omega)
    cases e
    rw [Addr.add_mid]
    exact hc j hj

theorem rd_mid {w : World} {a : Option Addr} {l : List UInt8} {cap : Nat} (h : RdB w (.slice a l.length cap) l) (i j : Nat) (hij : i ≤ j) (hj : j ≤ l.length) : RdB w (.slice (further a cap i) (j - i) (cap - i)) ((l.drop i).take (j - i)) := by
  have h1 := h.drop i (by omega)
  have e : (l.drop i).length = l.length - i := List.length_drop ..
  rw [← e] at h1
  exact h1.take (j - i) (by omega)

end Pk
end Go.Proofs.YtlgjnefieflmbaaDoor
