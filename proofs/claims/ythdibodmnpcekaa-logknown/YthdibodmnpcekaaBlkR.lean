/- The document's blocks of a record. -/
import Derived.Test.YthdibodmnpcekaaRnumR
import Derived.Test.YthdibodmnpcekaaAppR
import Derived.Test.YthdibodmnpcekaaListsY
import Derived.Test.YthdibodmnpcekaaRegs
import Derived.Test.YthdibodmnpcekaaRefTk
import Derived.Test.YthdibodmnpcekaaFoot
import Derived.Test.YthdibodmnpcekaaSame
import Derived.Test.YthdibodmnpcekaaBasR
namespace Go.Proofs.Ythdibodmnpcekaa
set_option linter.ambiguousOpen false
open Go.RowKit
namespace Rc
open Sm Pk
set_option linter.unusedSimpArgs false
set_option linter.unusedVariables false

/-- What has been gathered: a row of this call's own. -/
structure Ga (w0 w : World) (v : Value) (l : List UInt8) (n : Nat) : Prop where
  own : w.ownsRow w0.heap.size 5 1 v n (l.map by1)
  len : l.length = n
  bel : Below w0.heap.size w0 w

theorem Ga.shape {w0 w : World} {v : Value} {l : List UInt8} {n : Nat} (h : Ga w0 w v l n) : ∃ a cap, v = .slice a n cap := by
  obtain ⟨a, cap, e, _⟩ := Nm.own_shape h.own
  exact ⟨a, cap, e⟩

theorem Ga.rd {w0 w : World} {v : Value} {l : List UInt8} {n : Nat} (h : Ga w0 w v l n) : RdB w v l := own_rd' h.own h.len

theorem Ga.below {w0 w w' : World} {v : Value} {l : List UInt8} {n : Nat} (h : Ga w0 w v l n) (hb : Below w.heap.size w w') : Ga w0 w' v l n :=
  ⟨(Ft.Keep.of_below (F := fun _ => False) hb).own h.own (fun _ _ h => h), h.len, h.bel.trans (hb.mono h.bel.size)⟩

theorem Ga.more {w0 w w4 : World} {v v' : Value} {l m L : List UInt8} {n N : Nat} (h : Ga w0 w v l n) (hg : w.grownBy w4 v.ownBlock) (hL : l ++ m = L) (hN : n + m.length = N) (ho : w4.ownsRow w0.heap.size 5 1 v' (n + m.length) (l.map by1 ++ m.map by1)) : Ga w0 w4 v' L N := by
  subst hL
  subst hN
  refine ⟨?_, by rw [List.length_append, h.len], Below.grown h.bel hg h.bel.size (fun k hk => (h.own.lt k hk).1)⟩
  rw [List.map_append]
  exact ho

/-- Another row stays, where one was appended to. -/
theorem Ga.other {w0 w w4 : World} {v u : Value} {l : List UInt8} {n : Nat} (h : Ga w0 w v l n) (hg : w.grownBy w4 u.ownBlock) (hs : Nm.Sep v u) (hu : ∀ k, u.ownBlock = some k → w0.heap.size ≤ k) : Ga w0 w4 v l n := by
  refine ⟨h.own.kept hg ?_, h.len, Below.grown h.bel hg h.bel.size hu⟩
  cases hv : v.ownBlock with
  | none => exact .inl rfl
  | some b => exact .inr (fun e => hs b hv e.symm)

theorem min_two (a b : Int) (w : World) : (Builtin.min_ #[3, 3] 3 #[.int .i64 a, .int .i64 b]).run Try.prog w = .ok (.int .i64 (if b < a then b else a)) w := run_min_int2 ..

theorem restB_at (f : Nat) (q : List UInt8) (i : Nat) (hf : q.length ≤ f) : (restB q)[i]? = if 255 * i < q.length then some (99 :: (q.drop (255 * i)).take 255) else none := by
  induction f generalizing q i with
  | zero =>
    have : q = [] := List.length_eq_zero_iff.1 (by omega)
    subst this
    simp [restB_nil]
  | succ f ih =>
    by_cases hq : q = []
    · subst hq
      simp [restB_nil]
    · have h0 : 0 < q.length := List.length_pos_iff.2 hq
      rw [restB_cons q hq]
      cases i with
      | zero => simp [h0]
      | succ i =>
        rw [List.getElem?_cons_succ, ih (q.drop 255) i (by rw [List.length_drop]; omega), List.length_drop, List.drop_drop]
        by_cases hc : 255 * (i + 1) < q.length
        · rw [if_pos hc, if_pos (by omega), show 255 + 255 * i = 255 * (i + 1) by omega]
        · rw [if_neg hc, if_neg (by omega)]

theorem tx_cons (l : List UInt8) : (⟨#[99]⟩ : ByteArray) ++ tx l = tx (99 :: l) := by
  apply ByteArray.ext
  simp [tx]

end Rc
end Go.Proofs.Ythdibodmnpcekaa
