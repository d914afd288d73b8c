/- Which record stands at a block: the document's answer. -/
import Derived.Test.YthdibodmnpcekaaCvR
import Derived.Deep.RegionHeld3
namespace Go.Proofs.Ythdibodmnpcekaa
set_option linter.ambiguousOpen false
open Go.RowKit
namespace Rc
open Sm Pk
set_option linter.unusedSimpArgs false
set_option linter.unusedVariables false

theorem slice_midT (a : Option Addr) (len cap i j : Nat) (h : i ≤ j) (hj : j ≤ cap) (w : World) : (Instr.slice 54 (.slice a len cap) (some (.int .i64 (i : Int))) (some (.int .i64 (j : Int))) none).run Try.prog w = .ok (.slice (further a cap i) (j - i) (cap - i)) w := by
  have h1 : (0 : Int) ≤ (i : Int) ∧ (i : Int) ≤ (j : Int) := by omega
  have h2 : (0 : Int) ≤ (j : Int) ∧ (j : Int) ≤ (cap : Int) := by omega
  have hu := Try.underlying54
  cases a with
  | none =>
    simp [Instr.slice, Instr.sliceBounds, Instr.sliceBound, asIntOf, run_underlying hu, further]
    rw [if_pos hj, if_pos h]
  | some ad =>
    simp [Instr.slice, Instr.sliceBounds, Instr.sliceBound, asIntOf, run_underlying hu, Addr.add, further]
    rw [if_pos hj, if_pos h]

/-- Some texts of a list. -/
theorem rd_part {w : World} {a : Option Addr} {ls : List (List UInt8)} {cap n : Nat} (hn : ls.length = n) (h : Nm.Rd w (.slice a n cap) ls) (i j : Nat) (hij : i ≤ j) (hj : j ≤ n) : Nm.Rd w (.slice (further a cap i) (j - i) (cap - i)) ((ls.drop i).take (j - i)) := by
  subst hn
  obtain ⟨a', cap', e, h1, h2, h3⟩ := h
  cases e
  have hl : ((ls.drop i).take (j - i)).length = j - i := by rw [List.length_take, List.length_drop]; omega
  refine ⟨further a cap i, cap - i, by rw [hl], by omega, by omega, fun h0 => ?_⟩
  rw [hl] at h0
  obtain ⟨g, o, rfl, e2, e3⟩ := h3 (by omega)
  refine ⟨g, o + i, ?_, e2, fun k hk => ?_⟩
  · unfold further
    simp only []
    rw [if_neg (by omega)]
    by_cases h0 : i = 0
    · subst h0; rfl
    · rw [if_neg h0]
  · rw [hl] at hk
    have := e3 (i + k) (by omega)
    rw [← Nat.add_assoc] at this
    rw [this, List.getElem_take, List.getElem_drop]

/-- The answer: a payload in new memory and how many blocks, or none. -/
def AnsO (r : Option (List UInt8 × Nat)) (w : World) (e : Ending) (w' : World) : Prop :=
  match r with
  | some (p, k) => ∃ v, e = .returned (.tuple #[v, nu (k : Int), .bool true]) ∧ OwnC w' w.heap.size v p ∧ Below w.heap.size w w'
  | none => ∃ a c k, e = .returned (.tuple #[.slice a c k, nu 0, .bool false]) ∧ Below w.heap.size w w' ∨ ∃ v k, e = .returned (.tuple #[v, k, .bool false]) ∧ Below w.heap.size w w'

theorem ans_no {r : Option (List UInt8 × Nat)} {w : World} {e : Ending} {w' : World} (hr : r = none) (v k : Value) (he : e = .returned (.tuple #[v, k, .bool false])) (hb : Below w.heap.size w w') : AnsO r w e w' := by
  subst hr
  exact ⟨none, 0, 0, .inr ⟨v, k, he, hb⟩⟩

theorem ans_yes {r : Option (List UInt8 × Nat)} {w : World} {e : Ending} {w' : World} {p : List UInt8} {k : Nat} (hr : r = some (p, k)) (v : Value) (he : e = .returned (.tuple #[v, nu (k : Int), .bool true])) (ho : OwnC w' w.heap.size v p) (hb : Below w.heap.size w w') : AnsO r w e w' := by
  subst hr
  exact ⟨v, he, ho, hb⟩

theorem one_nil (ep : Nat) : one ep [] = none := rfl

theorem one_short (ep : Nat) (b : List UInt8) (r : List (List UInt8)) (h : b.length < 11) : one ep (b :: r) = none := by
  unfold one
  simp only
  rw [if_pos h]

theorem one_big (ep : Nat) (b : List UInt8) (r : List (List UInt8)) (h : ¬ b.length < 11) (h2 : 512 < sizeB b) : one ep (b :: r) = none := by
  unfold one
  simp only
  rw [if_neg h, if_pos h2]

theorem one_gath (ep : Nat) (b : List UInt8) (r : List (List UInt8)) (h : ¬ b.length < 11) (h2 : ¬ 512 < sizeB b) : one ep (b :: r) = match gath (sizeB b) 3 (b.drop 11) 1 r with
      | none => none
      | some (p, k) => if p.length ≠ sizeB b then none else if blocks ep p = (b :: r).take k then some (p, k) else none := by
  unfold one
  simp only
  rw [if_neg h, if_neg h2]
  rfl

theorem wrapS (s : Nat) (h : s ≤ 140737488351232) : IntKind.i64.wrap (s : Int) = (s : Int) ∧ wrap64 (s : Int) = (s : Int) := by
  constructor
  · simp only [IntKind.wrap, IntKind.bits, IntKind.signed]
    simp
    omega
  · unfold wrap64
    omega

theorem gath_stop (n f : Nat) (q : List UInt8) (k : Nat) (l : List (List UInt8)) (h : f = 0 ∨ ¬ q.length < n ∨ l = []) : gath n f q k l = some (q, k) := by
  cases f with
  | zero => rfl
  | succ f =>
    unfold gath
    by_cases hq : q.length < n
    · rw [if_pos hq]
      rcases h with h | h | h
      · omega
      · exact absurd hq h
      · subst h
        rfl
    · rw [if_neg hq]

end Rc
end Go.Proofs.Ythdibodmnpcekaa
