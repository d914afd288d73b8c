/- What an iterator of the program's heap hands out; what its heap must answer, call by call. -/
import Derived.Test.YthjdpfmnbmnbhaaHepS
import Derived.Test.YthjdpfmnbmnbhaaRange
import Derived.Test.YthjdpfmnbmnbhaaPlace
namespace Go.Proofs.Ythjdpfmnbmnbhaa
set_option linter.ambiguousOpen false
open Go.RowKit
namespace Hh
open Ft
set_option linter.unusedSimpArgs false
set_option linter.unusedVariables false

/-- The first one. -/
def fstI (L : List It) : Int := match L with
  | [] => 0
  | x :: _ => x.i

def fstK (L : List It) : Int := match L with
  | [] => 0
  | x :: _ => x.k

/-- An error without a place, and none. -/
def errE : Nat → Value
  | 0 => .nilIface
  | n + 1 => .iface 51 (.int .i64 ((n + 1 : Nat) : Int))

/-- An iterator hands out L; it leans on the blocks of X. -/
def IterH (w : World) (fv : Value) (X : Nat → Prop) (L : List It) : Prop := ∃ gf lb k, fv = .func (.func gf) #[] lb ∧ (∀ args wx, (callFunc gf args).run Try.prog wx = .ok (.enter gf args) wx) ∧ (∀ b, X b → b < w.heap.size) ∧ ∀ W, w.heap.size ≤ W.heap.size → (∀ b, X b → W.heap[b]? = w.heap[b]?) → Rf.Seq Try.prog gf lb (fun x : It => #[nu x.i, nu x.k]) X k L W

theorem IterH.keep {w w' : World} {fv : Value} {X : Nat → Prop} {L : List It} (h : IterH w fv X L) {G : Nat → Prop} (hk : Keep G w w') (hn : ∀ b, X b → ¬ G b) : IterH w' fv X L := by
  obtain ⟨gf, lb, k, h1, h2, h3, h4⟩ := h
  exact ⟨gf, lb, k, h1, h2, fun b hb => Nat.lt_of_lt_of_le (h3 b hb) hk.size, fun W hs hX => h4 W (Nat.le_trans hk.size hs) (fun b hb => (hX b hb).trans (hk.block b (h3 b hb) (hn b hb)))⟩

theorem IterH.below {w w' : World} {fv : Value} {X : Nat → Prop} {L : List It} (h : IterH w fv X L) (hb : Below w.heap.size w w') : IterH w' fv X L := h.keep (Keep.of_below (F := fun _ => False) hb) (fun _ _ h => h)

theorem IterH.lt {w : World} {fv : Value} {X : Nat → Prop} {L : List It} (h : IterH w fv X L) : ∀ b, X b → b < w.heap.size := by
  obtain ⟨gf, lb, k, h1, h2, h3, h4⟩ := h
  exact h3

/-- How a heap (at p) lies: for how many numbers, and those that are in it, in their order. -/
@[reducible] def RepHT : Type := World → Nat → (Nat → Prop) → Int → List It → Prop

/-- What a call leaves of it. -/
def LeftH (R : RepHT) (w w' : World) (p : Nat) (F : Nat → Prop) (N : Int) (L : List It) : Prop := ∃ G, R w' p G N L ∧ Keep F w w' ∧ (∀ k, G k → F k ∨ w.heap.size ≤ k)

end Hh
end Go.Proofs.Ythjdpfmnbmnbhaa
