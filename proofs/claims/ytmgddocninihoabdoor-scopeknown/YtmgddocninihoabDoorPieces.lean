/- The document's answer: Pieces, as the plain function of the text's bytes. -/
import Derived.Test.YtmgddocninihoabDoorRef
namespace Go.Proofs.YtmgddocninihoabDoor
open Go.RowKit
namespace Nm

theorem pieces_at (l : List UInt8) (f k : Nat) (hfk : f ≤ k) (hk : k < l.length) (hno : ∀ j (hj : j < l.length), f ≤ j → j < k → l[j] ≠ 46) (h46 : l[k] = 46) :
    pieces (l.drop f) = (l.drop f).take (k - f) :: pieces (l.drop (k + 1)) := by
  obtain ⟨h1, h2, h3⟩ := hd_at (l.drop f) (k - f) (by simp; omega) (fun j hj => by
    rw [List.getElem_drop]; exact hno (f + j) (by omega) (by omega) (by omega)) (by
    rw [List.getElem_drop]
    have : f + (k - f) = k := by omega
    simp only [this]; exact h46)
  rw [pieces_eq, h1, h2, h3]
  simp only [if_true, List.drop_drop]
  have : f + (k - f + 1) = k + 1 := by omega
  rw [this]

theorem pieces_last (l : List UInt8) (f : Nat) (hno : ∀ j (hj : j < l.length), f ≤ j → l[j] ≠ 46) : pieces (l.drop f) = [l.drop f] := by
  obtain ⟨h1, _, h3⟩ := hd_none (l.drop f) (fun j hj => by
    rw [List.getElem_drop]; exact hno (f + j) (by simp at hj; omega) (by omega))
  rw [pieces_eq, h1, h3]; simp

theorem extract_mid (l : List UInt8) (f k : Nat) : (B l).extract f k = B ((l.drop f).take (k - f)) := by
  apply ByteArray.ext
  apply Array.ext'
  rw [ByteArray.data_extract]
  simp [B, List.extract_eq_take_drop]

theorem extract_last (l : List UInt8) (f : Nat) : (B l).extract f (B l).size = B (l.drop f) := by
  rw [extract_mid, List.take_of_length_le]
  simp [B_size]

end Nm
end Go.Proofs.YtmgddocninihoabDoor
