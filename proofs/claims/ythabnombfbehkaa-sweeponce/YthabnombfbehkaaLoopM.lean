import Derived.Test.YthabnombfbehkaaRange
/- A loop whose rounds may leave marks among the deferred calls: its law, slot by slot. No program is named here. -/
namespace Go.Proofs.Ythabnombfbehkaa
open Go.RowKit
namespace Lm

/-- What the slots hold. -/
def of (t : Array Value) (n : Nat) : Value := t.getD n undef

/-- T tells all slots out of those that a round writes. -/
theorem wp_loopT {P : Program} {c : Code} {Q : Exit → Act → World → Prop} {t0 : Array Value} {ds0 : List Deferred} {w0 : World} (T : (Nat → Value) → Array Value)
    (R : (Nat → Value) → List Deferred → World → Prop) (m : (Nat → Value) → Nat) (hs : T (of t0) = t0) (h0 : R (of t0) ds0 w0)
    (round : ∀ (u : Nat → Value) (ds : List Deferred) (wr : World), R u ds wr → c.wp P (Exit.then (fun a' w' => (R (of a'.tmps) a'.defers w' ∧ a'.tmps = T (of a'.tmps)) ∧ m (of a'.tmps) < m u) Q) { tmps := T u, defers := ds } wr) :
    (Code.loop c).wp P Q { tmps := t0, defers := ds0 } w0 := by
  refine wp_loop (fun a w => R (of a.tmps) a.defers w ∧ a.tmps = T (of a.tmps)) (fun a _ => m (of a.tmps)) ⟨h0, hs.symm⟩ ?_
  rintro ⟨tm, df⟩ wr ⟨h1, h2⟩
  have := round (of tm) df wr h1
  have e : T (of tm) = tm := h2.symm
  rw [e] at this
  exact this

/-- The end of a round. -/
theorem round_end {P : Prop} {Q : Prop} {R : Prop} (h1 : P) (h2 : Q) (h3 : R) : (P ∧ Q) ∧ R := ⟨⟨h1, h2⟩, h3⟩
end Lm
end Go.Proofs.Ythabnombfbehkaa
