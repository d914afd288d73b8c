/- The document's answer what bytes tell, of each kind. -/
import Derived.Test.YtnllplholfhbdaaDoorDecH
import Derived.Test.YtnllplholfhbdaaDoorDecI
namespace Go.Proofs.YtnllplholfhbdaaDoor
set_option linter.ambiguousOpen false
open Go.RowKit
namespace Ev
open Pk Sm Ft
set_option linter.unusedSimpArgs false
set_option linter.unusedVariables false

theorem decode_ref (w : World) (v : Value) (b : List UInt8) (hR : RdB w v b) :
    Calls Tryd.prog 12 #[v] w fun e w' => e = .returned (.tuple #[.agg (decE b).1.arr, nu ((decE b).2 : Int)]) ∧ Below w.heap.size w w' := by
  obtain ⟨k, t1, hk⟩ : ∃ k t1, numT ⟨b, 0, false⟩ = (k, t1) := ⟨_, _, rfl⟩
  by_cases hc : t1.no ≠ 0 ∨ 2 < k
  · exact decode_early w v b hR k t1 hk hc
  · obtain ⟨l1, no1, g1⟩ := t1
    obtain rfl : no1 = 0 := Decidable.byContradiction fun h => hc (.inl h)
    have hk2 : k ≤ 2 := Nat.le_of_not_lt fun h => hc (.inr h)
    clear hc
    match k, hk2, hk with
    | 0, _, hk =>
      have hf := born_fit ⟨l1, 0, g1⟩
      obtain ⟨s, t2, hs⟩ : ∃ s t2, bornT ⟨l1, 0, g1⟩ = (s, t2) := ⟨(bornT ⟨l1, 0, g1⟩).1, (bornT ⟨l1, 0, g1⟩).2, (Prod.eta _).symm⟩
      rw [hs] at hf
      obtain ⟨slot, birth, us, ub, kind, user, label, scopes, level, born, deadline, depth⟩ := s
      obtain ⟨l2, no2, g2⟩ := t2
      exact decode_k0 w v b hR l1 g1 hk _ _ _ _ _ _ _ _ _ _ _ _ l2 no2 g2 hs hf
    | 1, _, hk =>
      obtain ⟨n, ⟨l2, no2, g2⟩, hs⟩ : ∃ n t2, intT ⟨l1, 0, g1⟩ = (n, t2) := ⟨_, _, rfl⟩
      exact decode_k1 w v b hR l1 g1 hk n l2 no2 g2 hs
    | 2, _, hk =>
      obtain ⟨n, ⟨l2, no2, g2⟩, hs⟩ : ∃ n t2, intT ⟨l1, 0, g1⟩ = (n, t2) := ⟨_, _, rfl⟩
      exact decode_k2 w v b hR l1 g1 hk n l2 no2 g2 hs
end Ev
end Go.Proofs.YtnllplholfhbdaaDoor
