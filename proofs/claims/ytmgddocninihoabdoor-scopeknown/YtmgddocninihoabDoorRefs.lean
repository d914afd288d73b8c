/- The document's answer: Dotted, Parts, Under, Compare, each as the same plain function of the texts' bytes. -/
import Derived.Test.YtmgddocninihoabDoorPieces
namespace Go.Proofs.YtmgddocninihoabDoor
open Go.RowKit
namespace Nm

/-- What is owned from a later block on is owned from an earlier one on. -/
theorem own_base {w : World} {base base' : Nat} {e : TypeId} {size : Nat} {v : Value} {n : Nat} {xs : List Value} (h : w.ownsRow base e size v n xs) (hb : base' ≤ base) : w.ownsRow base' e size v n xs := by
  refine ⟨h.1, ?_⟩
  rcases h.2 with hn | ⟨g, cap, cur, rfl, hbg, rest⟩
  · exact .inl hn
  · exact .inr ⟨g, cap, cur, rfl, Nat.le_trans hb hbg, rest⟩

def total : List (List UInt8) → Nat
  | [] => 0
  | p :: ps => p.length + 1 + total ps

theorem total_pieces (l : List UInt8) : total (pieces l) = l.length + 1 := by
  induction l with
  | nil => rfl
  | cons c l ih =>
    by_cases h : c = 46
    · subst h; rw [pieces_dot]; simp [total, ih]; omega
    · rw [pieces_nodot h]
      cases hp : pieces l with
      | nil => exact absurd hp (pieces_ne l)
      | cons q qs => rw [hp] at ih; simp [total] at ih ⊢; omega

theorem total_le (ps : List (List UInt8)) (h : ∀ p ∈ ps, p.length ≤ 32) : total ps ≤ 33 * ps.length := by
  induction ps with
  | nil => simp [total]
  | cons p ps ih =>
    have h1 := h p (by simp)
    have h2 := ih (fun q hq => h q (by simp [hq]))
    simp [total]; omega

theorem dotted_len {l : List UInt8} (h : dottedB l = true) : l.length ≤ 131 := by
  have h1 := total_pieces l
  have h2 := total_le (pieces l) (dotted_short h)
  have h3 := dotted_count h
  omega

theorem all_take (ps : List (List UInt8)) (k : Nat) (hk : k < ps.length) (h : ∀ j (hj : j < ps.length), j < k → nameB ps[j] = true) (hn : nameB ps[k] = true) :
    ∀ j (hj : j < ps.length), j < k + 1 → nameB ps[j] = true := by
  intro j hj h1
  rcases Nat.lt_or_ge j k with h' | h'
  · exact h j hj h'
  · have : j = k := by omega
    subst this; exact hn

end Nm
end Go.Proofs.YtmgddocninihoabDoor
