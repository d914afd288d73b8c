/- The document's disk as a footprint, and its calls. -/
import Derived.Test.YtlgjnefieflmbaaDoorRefK
namespace Go.Proofs.YtlgjnefieflmbaaDoor
set_option linter.ambiguousOpen false
open Go.RowKit
namespace Dk
open Sm Ft
set_option linter.unusedSimpArgs false
set_option linter.unusedVariables false

theorem goes_trans {w a : World} {F G K : Nat → Prop} (h : Goes w F G) (k : Goes a G K) (hs : w.heap.size ≤ a.heap.size) : Goes w F K := fun i hi => by
  rcases k i hi with h1 | h1
  · exact h i h1
  · exact .inr (Nat.le_trans hs h1)

theorem keep_goes {w a b : World} {F G : Nat → Prop} (h : Keep F w a) (hg : Goes w F G) (k : Keep G a b) : Keep F w b :=
  h.trans k (fun i hi hG => by
    rcases hg i hG with h1 | h1
    · exact h1
    · omega)

/-- The document's disk, as a footprint. -/
def RepR (base : Nat) (w : World) (g : Nat) (F : Nat → Prop) (d : Dsk) : Prop := ∃ v, RDk w base g v d ∧ F = rfp g v ∧ base ≤ w.heap.size

theorem RepR.keep {base : Nat} {w w' : World} {g : Nat} {F G : Nat → Prop} {d : Dsk} (h : RepR base w g F d) (hk : Keep G w w') (hn : ∀ k, F k → ¬ G k) : RepR base w' g F d := by
  obtain ⟨v, h1, rfl, h3⟩ := h
  exact ⟨v, h1.keep hk hn, rfl, Nat.le_trans h3 hk.size⟩

theorem RepR.below {base : Nat} {w w' : World} {g : Nat} {F : Nat → Prop} {d : Dsk} (h : RepR base w g F d) (hb : Below w.heap.size w w') : RepR base w' g F d :=
  h.keep (Keep.of_below (F := fun _ => False) hb) (fun _ _ h => h)

theorem RepR.lt {base : Nat} {w : World} {g : Nat} {F : Nat → Prop} {d : Dsk} (h : RepR base w g F d) (k : Nat) (hk : F k) : base ≤ k ∧ k < w.heap.size := by
  obtain ⟨v, h1, rfl, h3⟩ := h
  exact h1.lt k hk

theorem RepR.num {base : Nat} {w : World} {g : Nat} {F : Nat → Prop} {d : Dsk} (h : RepR base w g F d) : w.cell? ⟨g, 0, none⟩ = some (nu d.n) ∧ g < w.heap.size := by
  obtain ⟨v, h1, rfl, h3⟩ := h
  exact ⟨h1.cells.1, (h1.lt g (.inl rfl)).2⟩

theorem goesR {w : World} {g : Nat} {v v' : Value} (h : Moves w v v') : Goes w (rfp g v) (rfp g v') := by
  intro k hk
  rcases hk with rfl | hk
  · exact .inl (.inl rfl)
  · rcases h k hk with h1 | h1
    · exact .inl (.inr h1)
    · exact .inr h1

theorem rwrite (base : Nat) (w : World) (g : Nat) (F : Nat → Prop) (d : Dsk) (i : Int) (s : List UInt8) (h : RepR base w g F d) (hl : d.tr.length ≤ 1000000000) (hs : s.length ≤ maxLen) (hd : -1 ≤ d.left ∧ d.left ≤ 9223372036854775807) :
    Calls Tryd.prog 12 #[ptr g, nu i, .string (tx s)] w fun e w' => e = .returned (nu (wrN d i s)) ∧ ∃ G, RepR base w' g G (wrD d i s) ∧ Keep F w w' ∧ Goes w F G := by
  obtain ⟨v, h1, rfl, h3⟩ := h
  refine (rWrite_any d base g v i s w h1 (by omega) h3 hs (by omega)).mono ?_
  rintro e w' ⟨rfl, v', r1, r2, r3⟩
  exact ⟨rfl, _, ⟨v', r1, rfl, Nat.le_trans h3 r2.size⟩, r2, goesR r3⟩

theorem rread (base : Nat) (w : World) (g : Nat) (F : Nat → Prop) (d : Dsk) (i : Int) (h : RepR base w g F d) (hl : d.tr.length ≤ 1000000000) :
    Calls Tryd.prog 64 #[ptr g, nu i] w fun e w' => e = .returned (.tuple #[.string (tx (rdT d i)), nu (rdN d i)]) ∧ w' = w := by
  obtain ⟨v, h1, rfl, h3⟩ := h
  exact rRead_any d base g v i w h1 (by omega)

theorem rcut (base : Nat) (w : World) (g : Nat) (F : Nat → Prop) (d : Dsk) (n : Int) (h : RepR base w g F d) :
    Calls Tryd.prog 14 #[ptr g, nu n] w fun e w' => (∃ u, e = .returned u) ∧ RepR base w' g F ⟨d.n, max n (-1), d.tr⟩ ∧ Keep F w w' := by
  obtain ⟨v, h1, rfl, h3⟩ := h
  refine (rCut_any d base g v n w h1).mono ?_
  rintro e w' ⟨he, r1, r2⟩
  exact ⟨he, ⟨v, r1, rfl, Nat.le_trans h3 r2.size⟩, r2⟩
end Dk
end Go.Proofs.YtlgjnefieflmbaaDoor
