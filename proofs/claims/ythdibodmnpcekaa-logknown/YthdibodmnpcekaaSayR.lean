/- What the program's calls on records must answer; small contracts that the laws share. -/
import Derived.Test.YthdibodmnpcekaaOneR
namespace Go.Proofs.Ythdibodmnpcekaa
set_option linter.ambiguousOpen false
open Go.RowKit
namespace Rc
open Sm Pk
set_option linter.unusedSimpArgs false
set_option linter.unusedVariables false

/-- The blocks that Frame answers. -/
def framed (ep : Nat) (p : List UInt8) : List (List UInt8) := if 512 < p.length then [] else blocks ep p

theorem framed_len (ep : Nat) (p : List UInt8) : (framed ep p).length ≤ 3 := by
  unfold framed
  split
  · simp
  · rw [blocks_len]
    omega

/-- What Frame must answer. -/
def FrameC : Prop := ∀ (w : World) (ep : Nat) (v : Value) (p : List UInt8), ep < 4294967296 → RdB w v p → Nz v → p.length ≤ 140737488351232 → Calls Try.prog 23 #[.int .u32 (ep : Int), v] w fun e w' => ∃ r, e = .returned (.tuple #[r, errE (if 512 < p.length then 3 else 0)]) ∧ w'.ownsRow w.heap.size 9 1 r (framed ep p).length ((framed ep p).map Nm.txt) ∧ Below w.heap.size w w'

/-- Payloads, each a row of the call's own, in blocks of their own. -/
structure Rows (w : World) (base : Nat) (vs : List Value) (ps : List (List UInt8)) : Prop where
  len : vs.length = ps.length
  own : ∀ (k : Nat) (v : Value) (p : List UInt8), vs[k]? = some v → ps[k]? = some p → w.ownsRow base 5 1 v p.length (p.map by1)
  apart : ∀ (j k : Nat) (u v : Value), j ≠ k → vs[j]? = some u → vs[k]? = some v → Nm.Sep u v

/-- What Scan must answer. -/
def ScanC : Prop := ∀ (w : World) (ep : Nat) (v : Value) (ls : List (List UInt8)), ep < 4294967296 → Nm.Rd w v ls → ls.length ≤ 5000000000000 → (∀ t ∈ ls, t.length ≤ 140737488350000) → Calls Try.prog 29 #[.int .u32 (ep : Int), v] w fun e w' => ∃ r vs, e = .returned (.tuple #[r, nu ((scan ep ls).2.2 : Int)]) ∧ w'.ownsRow w.heap.size 34 1 r vs.length vs ∧ Rows w' w.heap.size vs (scan ep ls).1 ∧ (∀ v ∈ vs, Nm.Sep r v) ∧ Below w.heap.size w w'

theorem sep_later {w w' : World} {B : Nat} {va vb : Value} {n m : Nat} {e e' : TypeId} {xs ys : List Value} {b0 : Nat} (ha : w.ownsRow b0 e 1 va n xs) (hb : w'.ownsRow B e' 1 vb m ys) (h : w.heap.size ≤ B) : Nm.Sep va vb := by
  intro b h1 h2
  have := (ha.lt b h1).2
  have := (hb.lt b h2).1
  omega

end Rc
end Go.Proofs.Ythdibodmnpcekaa
