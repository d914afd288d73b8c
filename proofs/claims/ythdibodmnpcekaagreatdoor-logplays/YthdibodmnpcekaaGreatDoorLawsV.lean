import Derived.Test.YthdibodmnpcekaaGreatDoorLawsB
import Derived.Test.YthdibodmnpcekaaGreatDoorPacM
import Derived.Deep.Slices
import Derived.ProofKit
/- A number of 32 bits, and a row of bytes that came in, nothing or somewhere. -/
namespace Go.Proofs.YthdibodmnpcekaaGreatDoor
set_option linter.ambiguousOpen false
open Go.ChangeShapes Go.WideShapes Go.ChangeAt Go.RowKit
set_option linter.unusedVariables false
set_option maxRecDepth 100000
namespace Rc
open Sm Pk

theorem wf_u32V {a : Int} (h : (Lit.int .u32 a).wf = true) : ∃ x : Nat, a = x ∧ x < 4294967296 := by
  simp [Lit.wf, IntKind.min, IntKind.max, IntKind.signed, IntKind.bits] at h
  exact ⟨a.toNat, by omega, by omega⟩

theorem nz_bytes {H : Type} {enc : TypeId × Value → H} {W : World} {base : Nat} {sp : Nat → Bool} {held : Bool} {v : Value} {d : DataW H} {p : List MemPlace}
    (hv : ∃ a len cap, v = .slice a len cap) (h : ∃ fuel, DataW.trod enc Tryz.prog W base sp held fuel 46 v.cells.toList = some (d, p)) : Nz v := by
  obtain ⟨a0, len0, cap0, rfl⟩ := hv
  obtain ⟨fuel, hf⟩ := h
  have hf' : DataW.trod enc Tryz.prog W base sp held fuel 46 [.slice a0 len0 cap0] = some (d, p) := hf
  rcases Go.Deep.open_slice1 Tryz.underlying46 byte_cells hf' with ⟨hcs, hx⟩ | ⟨a, len, cap, m, n, V', D', Pl', hcs, hb, hl, hm, hme, hx, hel⟩
  · exact .inl (by simpa using hcs)
  · exact .inr ⟨a, len, cap, by simpa using hcs⟩
end Rc
end Go.Proofs.YthdibodmnpcekaaGreatDoor
