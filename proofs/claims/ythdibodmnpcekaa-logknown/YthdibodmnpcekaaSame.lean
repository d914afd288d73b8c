/- SameTexts tells whether two lists of texts are the same. -/
import Derived.Test.YthdibodmnpcekaaUnder
namespace Go.Proofs.Ythdibodmnpcekaa
open Go.RowKit
namespace Nm

/-- The value v reads, in w, as the list of texts ps. -/
def Rd (w : World) (v : Value) (ps : List (List UInt8)) : Prop :=
  ∃ a cap, v = .slice a ps.length cap ∧ ps.length ≤ cap ∧ cap ≤ maxLen ∧ (0 < ps.length → ∃ g o, a = some ⟨g, o, none⟩ ∧ g < w.heap.size ∧ ∀ j (hj : j < ps.length), w.cell? ⟨g, o + j, none⟩ = some (.string (B ps[j])))

theorem rd_own {w : World} {base : Nat} {v : Value} {ps : List (List UInt8)} (h : w.ownsRow base 9 1 v ps.length (ps.map txt)) : Rd w v ps := by
  obtain ⟨a, cap, h1, h2, h3, h4⟩ := own_slice h
  refine ⟨a, cap, h1, h2, h3, fun h0 => ?_⟩
  obtain ⟨g, e1, _, e2, e3⟩ := h4 h0
  exact ⟨g, 0, e1, e2, fun j hj => by rw [Nat.zero_add]; exact e3 j hj⟩

theorem Rd.below {w w' : World} {v : Value} {ps : List (List UInt8)} (h : Rd w v ps) (hb : Below w.heap.size w w') : Rd w' v ps := by
  obtain ⟨a, cap, h1, h2, h3, h4⟩ := h
  refine ⟨a, cap, h1, h2, h3, fun h0 => ?_⟩
  obtain ⟨g, o, e1, e2, e3⟩ := h4 h0
  exact ⟨g, o, e1, Nat.lt_of_lt_of_le e2 hb.size, fun j hj => (hb.cell (p := ⟨g, o + j, none⟩) e2).trans (e3 j hj)⟩

theorem rd_one (w : World) (p : List UInt8) : Rd (w.alloc (.cells #[.string (B p)] 9)) (.slice (some ⟨w.heap.size, 0, none⟩) 1 1) [p] := by
  refine ⟨_, 1, rfl, Nat.le_refl _, by decide, fun _ => ⟨w.heap.size, 0, rfl, by simp, fun j hj => ?_⟩⟩
  have : j = 0 := by simpa using hj
  subst this
  simp

end Nm
end Go.Proofs.Ythdibodmnpcekaa
