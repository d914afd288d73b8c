import Derived.Test.YteclbmmhidmklaaDoorHepV
import Derived.Test.YteclbmmhidmklaaDoorRange
import Derived.Test.YteclbmmhidmklaaDoorPlace
/- What an iterator of the program's heap hands out; what its heap must answer, call by call. -/
namespace Go.Proofs.YteclbmmhidmklaaDoor
set_option linter.ambiguousOpen false
open Go.RowKit
namespace Hh
open Ft
set_option linter.unusedSimpArgs false
set_option linter.unusedVariables false

/-- An error without a place, and none. -/
def errE : Nat → Value
  | 0 => .nilIface
  | n + 1 => .iface 50 (.int .i64 ((n + 1 : Nat) : Int))

theorem plainH (n : Nat) (h : n ≤ 24) (w : World) (hg : Er.Handle w) : Calls Tryd.prog 7 #[errE n, nu n] w fun e w' => e = .returned (.bool true) ∧ Below w.heap.size w w' := by
  cases n with
  | zero => exact Er.plain_nil 0 w
  | succ n =>
    have := Er.plain_no (n + 1) ((n + 1 : Nat) : Int) (by omega) h w hg
    rw [decide_eq_true rfl] at this
    exact this

/-- An iterator hands out L; it leans on the blocks of X. -/
def IterH (w : World) (fv : Value) (X : Nat → Prop) (L : List It) : Prop := ∃ gf lb k, fv = .func (.func gf) #[] lb ∧ (∀ args wx, (callFunc gf args).run Tryd.prog wx = .ok (.enter gf args) wx) ∧ (∀ b, X b → b < w.heap.size) ∧ ∀ W, w.heap.size ≤ W.heap.size → (∀ b, X b → W.heap[b]? = w.heap[b]?) → Rf.Seq Tryd.prog gf lb (fun x : It => #[nu x.i, nu x.k]) X k L W

theorem IterH.keep {w w' : World} {fv : Value} {X : Nat → Prop} {L : List It} (h : IterH w fv X L) {G : Nat → Prop} (hk : Keep G w w') (hn : ∀ b, X b → ¬ G b) : IterH w' fv X L := by
  obtain ⟨gf, lb, k, h1, h2, h3, h4⟩ := h
  exact ⟨gf, lb, k, h1, h2, fun b hb => Nat.lt_of_lt_of_le (h3 b hb) hk.size, fun W hs hX => h4 W (Nat.le_trans hk.size hs) (fun b hb => (hX b hb).trans (hk.block b (h3 b hb) (hn b hb)))⟩

theorem IterH.below {w w' : World} {fv : Value} {X : Nat → Prop} {L : List It} (h : IterH w fv X L) (hb : Below w.heap.size w w') : IterH w' fv X L := h.keep (Keep.of_below (F := fun _ => False) hb) (fun _ _ h => h)

theorem IterH.lt {w : World} {fv : Value} {X : Nat → Prop} {L : List It} (h : IterH w fv X L) : ∀ b, X b → b < w.heap.size := by
  obtain ⟨gf, lb, k, h1, h2, h3, h4⟩ := h
  exact h3

/-- How a heap (at p) lies: for how many numbers, and those that are in it, in their order. -/
@[reducible] def RepHT : Type := World → Nat → (Nat → Prop) → Int → List It → Prop

/-- What a call leaves of it. -/
def LeftH (R : RepHT) (w w' : World) (p : Nat) (F : Nat → Prop) (N : Int) (L : List It) : Prop := ∃ G, R w' p G N L ∧ Keep F w w' ∧ (∀ k, G k → F k ∨ w.heap.size ≤ k)

/-- What the program must answer, call by call, but for Drop and All. -/
structure HeapB (R : RepHT) : Prop where
  keep : ∀ {w w' : World} {p : Nat} {F G : Nat → Prop} {N : Int} {L : List It}, R w p F N L → Keep G w w' → (∀ k, F k → ¬ G k) → R w' p F N L
  lt : ∀ {w : World} {p : Nat} {F : Nat → Prop} {N : Int} {L : List It}, R w p F N L → ∀ k, F k → k < w.heap.size
  new : ∀ (w : World) (n : Int), Calls Tryd.prog 5 #[nu n] w fun e w' => Below w.heap.size w w' ∧ if n < 1 ∨ 65536 < n then e = .returned (.tuple #[.pointer none, errE 1]) else ∃ p F, e = .returned (.tuple #[ptr p, errE 0]) ∧ R w' p F n [] ∧ (∀ k, F k → w.heap.size ≤ k)
  setYes : ∀ (w : World) (p : Nat) (F : Nat → Prop) (N : Int) (L : List It) (i key : Int), R w p F N L → Hk N L → L.length ≤ 65536 → 0 ≤ i ∧ i < N → Calls Tryd.prog 15 #[ptr p, nu i, nu key] w fun e w' => e = .returned (errE 0) ∧ LeftH R w w' p F N (setH L i key)
  setNo : ∀ (w : World) (p : Nat) (F : Nat → Prop) (N : Int) (L : List It) (i key : Int), R w p F N L → Hk N L → ¬ (0 ≤ i ∧ i < N) → Calls Tryd.prog 15 #[ptr p, nu i, nu key] w fun e w' => e = .returned (errE 1) ∧ LeftH R w w' p F N L
  key : ∀ (w : World) (p : Nat) (F : Nat → Prop) (N : Int) (L : List It) (i : Int), R w p F N L → Hk N L → L.length ≤ 65536 → Calls Tryd.prog 34 #[ptr p, nu i] w fun e w' => e = .returned (.tuple #[nu ((keyH L i).getD 0), .bool (keyH L i).isSome]) ∧ Below w.heap.size w w'
  least : ∀ (w : World) (p : Nat) (F : Nat → Prop) (N : Int) (L : List It), R w p F N L → Hk N L → L.length ≤ 65536 → Calls Tryd.prog 32 #[ptr p] w fun e w' => e = .returned (.tuple #[nu (fstI L), nu (fstK L), .bool (!L.isEmpty)]) ∧ Below w.heap.size w w'
  len : ∀ (w : World) (p : Nat) (F : Nat → Prop) (N : Int) (L : List It), R w p F N L → Calls Tryd.prog 36 #[ptr p] w fun e w' => e = .returned (nun L.length) ∧ Below w.heap.size w w'

theorem HeapB.below {R : RepHT} {w w' : World} {p : Nat} {F : Nat → Prop} {N : Int} {L : List It} (C : HeapB R) (h : R w p F N L) (hb : Below w.heap.size w w') : R w' p F N L := C.keep h (Keep.of_below (F := fun _ => False) hb) (fun _ _ h => h)

/-- What the program must answer, call by call. -/
structure HeapC (R : RepHT) : Prop extends HeapB R where
  drop : ∀ (w : World) (p : Nat) (F : Nat → Prop) (N : Int) (L : List It) (i : Int), R w p F N L → Hk N L → L.length ≤ 65536 → Calls Tryd.prog 11 #[ptr p, nu i] w fun e w' => e = .returned (.bool (hasH L i)) ∧ LeftH R w w' p F N (dropH L i)
  all : ∀ (w : World) (p : Nat) (F : Nat → Prop) (N : Int) (L : List It), R w p F N L → Hk N L → L.length ≤ 65536 → Calls Tryd.prog 8 #[ptr p] w fun e w' => ∃ fv X, e = .returned fv ∧ IterH w' fv X L ∧ (∀ b, X b → w.heap.size ≤ b) ∧ Below w.heap.size w w'
end Hh
end Go.Proofs.YteclbmmhidmklaaDoor
