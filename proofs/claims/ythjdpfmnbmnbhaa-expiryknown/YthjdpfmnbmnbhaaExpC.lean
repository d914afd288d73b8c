/- What an iterator of the program's expiry does; what its expiry must answer, call by call. -/
import Derived.Test.YthjdpfmnbmnbhaaExpA
import Derived.Test.YthjdpfmnbmnbhaaHepC
import Derived.Test.YthjdpfmnbmnbhaaRangeM
namespace Go.Proofs.Ythjdpfmnbmnbhaa
set_option linter.ambiguousOpen false
open Go.RowKit
namespace Ex
open Hh Ft
set_option linter.unusedSimpArgs false
set_option linter.unusedVariables false

/-- How an expiry (at p) lies: the entries that are in it, in their order. -/
@[reducible] def RepXT : Type := World → Nat → (Nat → Prop) → List En → Prop

/-- What a call leaves of it. -/
def LeftX (R : RepXT) (w w' : World) (p : Nat) (F : Nat → Prop) (L : List En) : Prop := ∃ G, R w' p G L ∧ Keep F w w' ∧ (∀ k, G k → F k ∨ w.heap.size ≤ k)

/-- What is known at the head of a round: what a call may turn, and the entries. -/
@[reducible] def Kn : Type := (Nat → Prop) × List En

def ReadyX (R : RepXT) (w : World) (X : Nat → Prop) (p : Nat) (c : Kn) (W : World) : Prop := R W p c.1 c.2 ∧ w.heap.size ≤ W.heap.size ∧ (∀ b, X b → W.heap[b]? = w.heap[b]?)

/-- One step of what is due. -/
def StepX (R : RepXT) (p : Nat) (now : Int) (c : Kn) (W0 : World) (o : Option En) (c' : Kn) (W1 : World) : Prop :=
  match o with
  | some x => c.2 = x :: c'.2 ∧ x.t ≤ now ∧ R W1 p c'.1 c'.2 ∧ Keep c.1 W0 W1 ∧ (∀ k, c'.1 k → c.1 k ∨ W0.heap.size ≤ k)
  | none => (∀ x M, c.2 = x :: M → now < x.t) ∧ Below W0.heap.size W0 W1

/-- An iterator hands out what is due, as long as something is. -/
def IterX (R : RepXT) (w : World) (fv : Value) (X : Nat → Prop) (p : Nat) (now : Int) : Prop := ∃ gf lb k, fv = .func (.func gf) #[] lb ∧ (∀ args wx, (callFunc gf args).run Try.prog wx = .ok (.enter gf args) wx) ∧ (∀ b, X b → b < w.heap.size) ∧ Rf.SeqM Try.prog gf lb (fun x : En => #[.agg #[nu x.s, nu x.b]]) X k (ReadyX R w X p) (StepX R p now) (fun c => c.1)

@[reducible] def I64e (x : Int) : Prop := -9223372036854775808 ≤ x ∧ x < 9223372036854775808

/-- What the program must answer, call by call. -/
structure ExpiryC (R : RepXT) : Prop where
  keep : ∀ {w w' : World} {p : Nat} {F G : Nat → Prop} {L : List En}, R w p F L → Keep G w w' → (∀ k, F k → ¬ G k) → R w' p F L
  lt : ∀ {w : World} {p : Nat} {F : Nat → Prop} {L : List En}, R w p F L → ∀ k, F k → k < w.heap.size
  ge : ∀ {w : World} {p : Nat} {F : Nat → Prop} {L : List En}, R w p F L → Ge L
  new : ∀ (w : World), Calls Try.prog 6 #[] w fun e w' => ∃ p F, e = .returned (ptr p) ∧ R w' p F [] ∧ (∀ k, F k → w.heap.size ≤ k) ∧ Below w.heap.size w w'
  setYes : ∀ (w : World) (p : Nat) (F : Nat → Prop) (L : List En) (s b t : Int), R w p F L → okE ⟨s, b, t⟩ → Calls Try.prog 8 #[ptr p, .agg #[nu s, nu b], nu t] w fun e w' => e = .returned (errE 0) ∧ LeftX R w w' p F (setE L ⟨s, b, t⟩)
  setNo : ∀ (w : World) (p : Nat) (F : Nat → Prop) (L : List En) (s b t : Int), R w p F L → ¬ okE ⟨s, b, t⟩ → Calls Try.prog 8 #[ptr p, .agg #[nu s, nu b], nu t] w fun e w' => e = .returned (errE 1) ∧ Below w.heap.size w w'
  forget : ∀ (w : World) (p : Nat) (F : Nat → Prop) (L : List En) (s : Int), R w p F L → I64e s → Calls Try.prog 11 #[ptr p, nu s] w fun e w' => e = .returned (.bool (hasE L s)) ∧ LeftX R w w' p F (dropE L s)
  next : ∀ (w : World) (p : Nat) (F : Nat → Prop) (L : List En), R w p F L → Calls Try.prog 10 #[ptr p] w fun e w' => e = .returned (.tuple #[nu (nextE L), .bool (snextE L)]) ∧ Below w.heap.size w w'
  due : ∀ (w : World) (p : Nat) (F : Nat → Prop) (L : List En) (now : Int), R w p F L → Calls Try.prog 9 #[ptr p, nu now] w fun e w' => ∃ fv X, e = .returned fv ∧ IterX R w' fv X p now ∧ (∀ b, X b → w.heap.size ≤ b) ∧ Below w.heap.size w w'

theorem ExpiryC.below {R : RepXT} {w w' : World} {p : Nat} {F : Nat → Prop} {L : List En} (C : ExpiryC R) (h : R w p F L) (hb : Below w.heap.size w w') : R w' p F L := C.keep h (Keep.of_below (F := fun _ => False) hb) (fun _ _ h => h)
end Ex
end Go.Proofs.Ythjdpfmnbmnbhaa
