import Derived.Test.YthabnombfbehkaaBaM
import Derived.Test.YthabnombfbehkaaRange
/- What the program's arena must answer, call by call; what an iterator of it hands out. -/
namespace Go.Proofs.Ythabnombfbehkaa
set_option linter.ambiguousOpen false
open Go.RowKit
namespace An
open Ft Lv
set_option linter.unusedSimpArgs false
set_option linter.unusedVariables false

/-- What a call leaves of an arena. -/
def Left (Rep : World → Nat → (Nat → Prop) → Arn → Prop) (w w' : World) (p : Nat) (F : Nat → Prop) (A : Arn) : Prop := ∃ G, Rep w' p G A ∧ Keep F w w' ∧ Goes w F G

/-- An iterator hands out L; it leans on the blocks of X. -/
def IterA (w : World) (fv : Value) (X : Nat → Prop) (L : List Nat) : Prop := ∃ gf lb k, fv = .func (.func gf) #[] lb ∧ (∀ args wx, (callFunc gf args).run Try.prog wx = .ok (.enter gf args) wx) ∧ (∀ b, X b → b < w.heap.size) ∧ ∀ W, w.heap.size ≤ W.heap.size → (∀ b, X b → W.heap[b]? = w.heap[b]?) → Rf.Seq Try.prog gf lb (fun i : Nat => #[nun i]) X k L W

theorem IterA.keep {w w' : World} {fv : Value} {X : Nat → Prop} {L : List Nat} (h : IterA w fv X L) {G : Nat → Prop} (hk : Keep G w w') (hn : ∀ b, X b → ¬ G b) : IterA w' fv X L := by
  obtain ⟨gf, lb, k, h1, h2, h3, h4⟩ := h
  exact ⟨gf, lb, k, h1, h2, fun b hb => Nat.lt_of_lt_of_le (h3 b hb) hk.size, fun W hs hX => h4 W (Nat.le_trans hk.size hs) (fun b hb => (hX b hb).trans (hk.block b (h3 b hb) (hn b hb)))⟩

/-- How it lies, whatever it is. -/
structure KeepC (Rep : World → Nat → (Nat → Prop) → Arn → Prop) : Prop where
  keep : ∀ {w w' : World} {p : Nat} {F G : Nat → Prop} {A : Arn}, Rep w p F A → Keep G w w' → (∀ k, F k → ¬ G k) → Rep w' p F A
  lt : ∀ {w : World} {p : Nat} {F : Nat → Prop} {A : Arn}, Rep w p F A → ∀ k, F k → k < w.heap.size

theorem KeepC.below {Rep : World → Nat → (Nat → Prop) → Arn → Prop} (H : KeepC Rep) {w w' : World} {p : Nat} {F : Nat → Prop} {A : Arn} (h : Rep w p F A) (hb : Below w.heap.size w w') : Rep w' p F A :=
  H.keep h (Keep.of_below (F := fun _ => False) hb) (fun _ _ h => h)

def NewC (Rep : World → Nat → (Nat → Prop) → Arn → Prop) : Prop := ∀ (w : World), Calls Try.prog 17 #[] w fun e w' => ∃ p F, e = .returned (ptr p) ∧ Rep w' p F arn0 ∧ (∀ k, F k → w.heap.size ≤ k) ∧ Below w.heap.size w w'

def GetC (Rep : World → Nat → (Nat → Prop) → Arn → Prop) : Prop := ∀ (w : World) (p : Nat) (F : Nat → Prop) (A : Arn) (i : Int), Rep w p F A → Good A → -9223372036854775808 ≤ i ∧ i ≤ 9223372036854775807 → Calls Try.prog 14 #[ptr p, nu i] w fun e w' => e = .returned (.tuple #[(A.at i).v, errE (Arn.atE i)]) ∧ Below w.heap.size w w'

/-- Of any number, as large as it is. -/
def GetU (Rep : World → Nat → (Nat → Prop) → Arn → Prop) : Prop := ∀ (w : World) (p : Nat) (F : Nat → Prop) (A : Arn) (i : Int), Rep w p F A → Good A → Calls Try.prog 14 #[ptr p, nu i] w fun e w' => e = .returned (.tuple #[(A.at i).v, errE (Arn.atE i)]) ∧ Below w.heap.size w w'

def PutC (Rep : World → Nat → (Nat → Prop) → Arn → Prop) : Prop := ∀ (w : World) (p : Nat) (F : Nat → Prop) (A : Arn) (i : Int) (s : Slt), Rep w p F A → Good A → A.wr ≤ 1000000000 → -9223372036854775808 ≤ i ∧ i ≤ 9223372036854775807 → Calls Try.prog 20 #[ptr p, nu i, s.v] w fun e w' => e = .returned (errE (A.put i s).1) ∧ Left Rep w w' p F (A.put i s).2

def PutU (Rep : World → Nat → (Nat → Prop) → Arn → Prop) : Prop := ∀ (w : World) (p : Nat) (F : Nat → Prop) (A : Arn) (i : Int) (s : Slt), Rep w p F A → Good A → A.wr ≤ 1000000000 → Calls Try.prog 20 #[ptr p, nu i, s.v] w fun e w' => e = .returned (errE (A.put i s).1) ∧ Left Rep w w' p F (A.put i s).2

def TakeC (Rep : World → Nat → (Nat → Prop) → Arn → Prop) : Prop := ∀ (w : World) (p : Nat) (F : Nat → Prop) (A : Arn), Rep w p F A → Good A → Calls Try.prog 19 #[ptr p] w fun e w' => e = .returned (.tuple #[nun A.take.2.1, errE A.take.1]) ∧ Left Rep w w' p F A.take.2.2

def FreeC (Rep : World → Nat → (Nat → Prop) → Arn → Prop) : Prop := ∀ (w : World) (p : Nat) (F : Nat → Prop) (A : Arn) (i : Int), Rep w p F A → Good A → A.wr ≤ 1000000000 → -9223372036854775808 ≤ i ∧ i ≤ 9223372036854775807 → Calls Try.prog 34 #[ptr p, nu i] w fun e w' => e = .returned (errE (A.free i).1) ∧ Left Rep w w' p F (A.free i).2

def FreesC (Rep : World → Nat → (Nat → Prop) → Arn → Prop) : Prop := ∀ (w : World) (p : Nat) (F : Nat → Prop) (A : Arn), Rep w p F A → Good A → Calls Try.prog 13 #[ptr p] w fun e w' => ∃ fv X, e = .returned fv ∧ IterA w' fv X A.fr ∧ (∀ b, X b → w.heap.size ≤ b) ∧ Below w.heap.size w w'

/-- The program's arena and the document's side by side, all above what was there. -/
structure Pr (Rep RepR : World → Nat → (Nat → Prop) → Arn → Prop) (w0 w : World) (p g : Nat) (F G : Nat → Prop) (A1 A2 : Arn) : Prop where
  rep : Rep w p F A1
  ref : RepR w g G A2
  fg : ∀ k, F k → ¬ G k
  fl : ∀ k, F k → w0.heap.size ≤ k
  gl : ∀ k, G k → w0.heap.size ≤ k
  good1 : Good A1
  good2 : Good A2
  bel : Below w0.heap.size w0 w

section
variable {Rep RepR : World → Nat → (Nat → Prop) → Arn → Prop} {w0 w w' : World} {p g : Nat} {F G F' G' : Nat → Prop} {A1 A2 A' : Arn}

theorem Pr.keep (H : KeepC Rep) (HR : KeepC RepR) (h : Pr Rep RepR w0 w p g F G A1 A2) {K : Nat → Prop} (hk : Keep K w w') (hK : ∀ k, K k → ¬ F k ∧ ¬ G k ∧ w0.heap.size ≤ k) : Pr Rep RepR w0 w' p g F G A1 A2 :=
  ⟨H.keep h.rep hk (fun k hf hc => (hK k hc).1 hf), HR.keep h.ref hk (fun k hf hc => (hK k hc).2.1 hf), h.fg, h.fl, h.gl, h.good1, h.good2, h.bel.trans (hk.below (fun k hk hc => by have := (hK k hc).2.2; omega) h.bel.size)⟩

theorem Pr.below (H : KeepC Rep) (HR : KeepC RepR) (h : Pr Rep RepR w0 w p g F G A1 A2) (hb : Below w.heap.size w w') : Pr Rep RepR w0 w' p g F G A1 A2 :=
  h.keep H HR (Keep.of_below (F := fun _ => False) hb) (fun k hk => hk.elim)

theorem Pr.turn1 (HR : KeepC RepR) (h : Pr Rep RepR w0 w p g F G A1 A2) (hr : Rep w' p F' A') (hg : Good A') (hk : Keep F w w') (hf : Goes w F F') : Pr Rep RepR w0 w' p g F' G A' A2 := by
  refine ⟨hr, HR.keep h.ref hk (fun k hf hc => h.fg k hc hf), fun k hf' hc => ?_, fun k hf' => ?_, h.gl, hg, h.good2, h.bel.trans (hk.below (fun k hk hc => by have := h.fl k hc; omega) h.bel.size)⟩
  · rcases hf k hf' with h1 | h1
    · exact h.fg k h1 hc
    · have := HR.lt h.ref k hc
      omega
  · rcases hf k hf' with h1 | h1
    · exact h.fl k h1
    · exact Nat.le_trans h.bel.size h1

theorem Pr.turn2 (H : KeepC Rep) (h : Pr Rep RepR w0 w p g F G A1 A2) (hr : RepR w' g G' A') (hg : Good A') (hk : Keep G w w') (hf : Goes w G G') : Pr Rep RepR w0 w' p g F G' A1 A' := by
  refine ⟨H.keep h.rep hk (fun k hf hc => h.fg k hf hc), hr, fun k hf' hc => ?_, h.fl, fun k hf' => ?_, h.good1, hg, h.bel.trans (hk.below (fun k hk hc => by have := h.gl k hc; omega) h.bel.size)⟩
  · rcases hf k hc with h1 | h1
    · exact h.fg k hf' h1
    · have := H.lt h.rep k hf'
      omega
  · rcases hf k hf' with h1 | h1
    · exact h.gl k h1
    · exact Nat.le_trans h.bel.size h1

/-- From the world wb on: both, and what of the memory may have turned since. -/
structure Dn (Rep RepR : World → Nat → (Nat → Prop) → Arn → Prop) (w0 wb w : World) (p g : Nat) (F0 G0 F G : Nat → Prop) (A1 A2 : Arn) : Prop where
  pr : Pr Rep RepR w0 w p g F G A1 A2
  kp : Keep (fun j => F0 j ∨ G0 j) wb w
  gf : Goes wb F0 F
  gg : Goes wb G0 G

variable {wb : World} {F0 G0 : Nat → Prop}

theorem Dn.start (h : Pr Rep RepR w0 w p g F G A1 A2) : Dn Rep RepR w0 w w p g F G F G A1 A2 := ⟨h, Keep.refl _ _, Goes.refl _ _, Goes.refl _ _⟩

theorem Dn.below (H : KeepC Rep) (HR : KeepC RepR) (h : Dn Rep RepR w0 wb w p g F0 G0 F G A1 A2) (hb : Below w.heap.size w w') : Dn Rep RepR w0 wb w' p g F0 G0 F G A1 A2 :=
  ⟨h.pr.below H HR hb, h.kp.trans (Keep.of_below (F := fun _ => False) hb) (fun _ _ h => h.elim), h.gf, h.gg⟩

theorem Dn.turn1 (HR : KeepC RepR) (h : Dn Rep RepR w0 wb w p g F0 G0 F G A1 A2) (hl : Left Rep w w' p F A') (hg : Good A') : ∃ F', Dn Rep RepR w0 wb w' p g F0 G0 F' G A' A2 := by
  obtain ⟨F', h1, h2, h3⟩ := hl
  refine ⟨F', h.pr.turn1 HR h1 hg h2 h3, h.kp.trans h2 (fun i hi hF => ?_), goes_trans h.gf h3 h.kp.size, h.gg⟩
  rcases h.gf i hF with h4 | h4
  · exact .inl h4
  · omega

theorem Dn.turn2 (H : KeepC Rep) (h : Dn Rep RepR w0 wb w p g F0 G0 F G A1 A2) (hl : Left RepR w w' g G A') (hg : Good A') : ∃ G', Dn Rep RepR w0 wb w' p g F0 G0 F G' A1 A' := by
  obtain ⟨G', h1, h2, h3⟩ := hl
  refine ⟨G', h.pr.turn2 H h1 hg h2 h3, h.kp.trans h2 (fun i hi hF => ?_), h.gf, goes_trans h.gg h3 h.kp.size⟩
  rcases h.gg i hF with h4 | h4
  · exact .inr h4
  · omega
end
end An
end Go.Proofs.Ythabnombfbehkaa
