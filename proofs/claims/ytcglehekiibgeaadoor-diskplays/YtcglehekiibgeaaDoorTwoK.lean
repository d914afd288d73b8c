/- Two pairs and the book: plain facts. -/
import Derived.Test.YtcglehekiibgeaaDoorPlaysK
namespace Go.Proofs.YtcglehekiibgeaaDoor
set_option linter.ambiguousOpen false
open Go.RowKit
namespace Dk
open Sm Ft
set_option linter.unusedSimpArgs false
set_option linter.unusedVariables false

/-- Two pairs and one book. -/
structure Two (Rep : World → Nat → (Nat → Prop) → Dsk → Prop) (w : World) (base gb p g q h : Nat) (F : Nat → Prop) (v : Value) (d : Dsk) (G : Nat → Prop) (u : Value) (e : Dsk) (rv : Value) (vs : List Value) : Prop where
  st : St Rep w base p g gb F v d rv vs
  st2 : St Rep w base q h gb G u e rv vs
  ap : ∀ k, pfp F g v k → ¬ pfp G h u k

theorem Two.swap {Rep : World → Nat → (Nat → Prop) → Dsk → Prop} {w : World} {base gb p g q h : Nat} {F : Nat → Prop} {v : Value} {d : Dsk} {G : Nat → Prop} {u : Value} {e : Dsk} {rv : Value} {vs : List Value} (t : Two Rep w base gb p g q h F v d G u e rv vs) : Two Rep w base gb q h p g G u e F v d rv vs :=
  ⟨t.st2, t.st, fun k h1 h2 => t.ap k h2 h1⟩

theorem Two.below {Rep : World → Nat → (Nat → Prop) → Dsk → Prop} (H : Says Rep) {w w' : World} {base gb p g q h : Nat} {F : Nat → Prop} {v : Value} {d : Dsk} {G : Nat → Prop} {u : Value} {e : Dsk} {rv : Value} {vs : List Value} (t : Two Rep w base gb p g q h F v d G u e rv vs) (hb : Below w.heap.size w w') : Two Rep w' base gb p g q h F v d G u e rv vs :=
  ⟨t.st.below H hb, t.st2.below H hb, t.ap⟩

/-- An act on the first pair. -/
theorem Two.acted {Rep : World → Nat → (Nat → Prop) → Dsk → Prop} (H : Says Rep) {w w' : World} {base gb p g q h : Nat} {F : Nat → Prop} {v : Value} {d : Dsk} {G : Nat → Prop} {u : Value} {e : Dsk} {rv : Value} {vs : List Value} (t : Two Rep w base gb p g q h F v d G u e rv vs) (ha : Acted Rep w w' base p g gb F v d rv vs) :
    ∃ F' v' d' rv' vs', Two Rep w' base gb p g q h F' v' d' G u e rv' vs' ∧ Keep (afp F g v gb rv vs) w w' ∧ d'.tr.length ≤ d.tr.length + 1 ∧ vs'.length ≤ vs.length + 1 ∧ d'.n = d.n := by
  obtain ⟨F', v', d', rv', vs', a1, a2, a3, a4, a5, a6, a7⟩ := ha
  have hlt : ∀ k, pfp G h u k → k < w.heap.size := fun k hk => (t.st2.pr.lt H k hk).2
  have hdis : ∀ k, pfp G h u k → ¬ afp F g v gb rv vs k := fun k hk ha => by
    rcases ha with ha | ha
    · exact t.ap k ha hk
    · exact t.st2.ap k hk ha
  have hP2 := t.st2.pr.keep H a2 hdis
  have hdis' : ∀ k, pfp G h u k → ¬ afp F' g v' gb rv' vs' k := fun k hk ha => by
    rcases a3 k ha with h1 | h1
    · exact hdis k hk h1
    · have := hlt k hk
      omega
  exact ⟨F', v', d', rv', vs', ⟨a1, ⟨hP2, a1.bk, fun k hk hb => hdis' k hk (.inr hb), t.st2.left, t.st2.num, a1.lo⟩, fun k hk hk2 => hdis' k hk2 (.inl hk)⟩, a2, a5, a6, a7⟩

/-- What is asked of two pairs at any time of a script. -/
def Duo (Rep : World → Nat → (Nat → Prop) → Dsk → Prop) (w wr : World) (gb p g q h k : Nat) : Prop :=
  ∃ F v d G u e rv vs, Two Rep wr w.heap.size gb p g q h F v d G u e rv vs ∧ d.tr.length ≤ k ∧ e.tr.length ≤ k ∧ vs.length ≤ k ∧ Below w.heap.size w wr

theorem Duo.swap {Rep : World → Nat → (Nat → Prop) → Dsk → Prop} {w wr : World} {gb p g q h k : Nat} (hd : Duo Rep w wr gb p g q h k) : Duo Rep w wr gb q h p g k := by
  obtain ⟨F, v, d, G, u, e, rv, vs, t, h1, h2, h3, hb⟩ := hd
  exact ⟨G, u, e, F, v, d, rv, vs, t.swap, h2, h1, h3, hb⟩

theorem Duo.below' {Rep : World → Nat → (Nat → Prop) → Dsk → Prop} {w wr : World} {gb p g q h k : Nat} (hd : Duo Rep w wr gb p g q h k) : Below w.heap.size w wr := by
  obtain ⟨F, v, d, G, u, e, rv, vs, t, h1, h2, h3, hb⟩ := hd
  exact hb

theorem Duo.below {Rep : World → Nat → (Nat → Prop) → Dsk → Prop} (H : Says Rep) {w wr w' : World} {gb p g q h k : Nat} (hd : Duo Rep w wr gb p g q h k) (hb' : Below wr.heap.size wr w') : Duo Rep w w' gb p g q h k := by
  obtain ⟨F, v, d, G, u, e, rv, vs, t, h1, h2, h3, hb⟩ := hd
  exact ⟨F, v, d, G, u, e, rv, vs, t.below H hb', h1, h2, h3, below_fromR hb hb'⟩

theorem Duo.acted {Rep : World → Nat → (Nat → Prop) → Dsk → Prop} (H : Says Rep) {w wr w' : World} {gb p g q h k : Nat} {F : Nat → Prop} {v : Value} {d : Dsk} {G : Nat → Prop} {u : Value} {e : Dsk} {rv : Value} {vs : List Value} (t : Two Rep wr w.heap.size gb p g q h F v d G u e rv vs) (h1 : d.tr.length ≤ k) (h2 : e.tr.length ≤ k) (h3 : vs.length ≤ k) (hb : Below w.heap.size w wr) (ha : Acted Rep wr w' w.heap.size p g gb F v d rv vs) : Duo Rep w w' gb p g q h (k + 1) := by
  obtain ⟨F', v', d', rv', vs', t', hk, a1, a2, a3⟩ := t.acted H ha
  exact ⟨F', v', d', G, u, e, rv', vs', t', by omega, by omega, by omega, below_of_keep hb hk (fun k hk => (t.st.lt H k hk).1)⟩

theorem duo_asked {Rep : World → Nat → (Nat → Prop) → Dsk → Prop} (H : Says Rep) {w wr : World} {gb p g q h k : Nat} (hd : Duo Rep w wr gb p g q h k) (hk : k < 100000) :
    Calls Tryd.prog 9 #[ptr p, ptr g, ptr gb] wr fun e w' => e = .returned (.bool true) ∧ Duo Rep w w' gb p g q h (k + 1) := by
  obtain ⟨F, v, d, G, u, e, rv, vs, t, h1, h2, h3, hb⟩ := hd
  refine (asked_any H wr w.heap.size p F g v d gb rv vs t.st.pr t.st.bk (by omega) (by omega) t.st.lo).mono ?_
  rintro e' w' ⟨rfl, rv', tv, b1, b2, b3⟩
  exact ⟨rfl, Duo.acted H t h1 h2 h3 hb (Acted.book H t.st b1 b2 b3)⟩

theorem duo_read {Rep : World → Nat → (Nat → Prop) → Dsk → Prop} (H : Says Rep) {w wr : World} {gb p g q h k : Nat} (hd : Duo Rep w wr gb p g q h k) (hk : k < 100000) (hE : Er.Handle w) :
    Calls Tryd.prog 10 #[ptr p, ptr g] wr fun e w' => e = .returned (.bool true) ∧ Duo Rep w w' gb p g q h k := by
  have hd' := hd
  obtain ⟨F, v, d, G, u, e, rv, vs, t, h1, h2, h3, hb⟩ := hd'
  refine (read_any H wr w.heap.size p F g v d t.st.pr (by omega) t.st.num (hE.below hb)).mono ?_
  rintro e' w' ⟨rfl, hb'⟩
  exact ⟨rfl, hd.below H hb'⟩

theorem duo_does {Rep : World → Nat → (Nat → Prop) → Dsk → Prop} (H : Says Rep) {w wr : World} {gb p g q h k : Nat} (hd : Duo Rep w wr gb p g q h k) (hk : k < 100000) (hE : Er.Handle w) (x : Act) (hx : x.fits) :
    Calls Tryd.prog 8 #[ptr p, ptr g, actV x.k x.n x.s, ptr gb] wr fun e w' => e = .returned (.bool true) ∧ Duo Rep w w' gb p g q h (k + 1) := by
  obtain ⟨F, v, d, G, u, e, rv, vs, t, h1, h2, h3, hb⟩ := hd
  obtain ⟨f1, f2, f3⟩ := hx
  refine (does_any H wr w.heap.size p g gb F v d rv vs x.k x.n x.s t.st (by omega) (by omega) f1 f2 (by unfold maxLen; omega) (hE.below hb) hE.lt).mono ?_
  rintro e' w' ⟨rfl, ha⟩
  exact ⟨rfl, Duo.acted H t h1 h2 h3 hb ha⟩

theorem duo_apart {Rep : World → Nat → (Nat → Prop) → Dsk → Prop} (H : Says Rep) {w wr : World} {gb p g q h k : Nat} (hd : Duo Rep w wr gb p g q h k) (hk : k < 100000) :
    Calls Tryd.prog 11 #[ptr gb] wr fun e w' => e = .returned (.bool true) ∧ Below w.heap.size w w' := by
  obtain ⟨F, v, d, G, u, e, rv, vs, t, h1, h2, h3, hb⟩ := hd
  refine (bookApart_any wr w.heap.size gb rv vs t.st.bk (by omega) t.st.lo).mono ?_
  rintro e' w' ⟨rfl, hk, _⟩
  exact ⟨rfl, below_of_keep hb hk (fun k hk => (t.st.bk.lt k (.inr (.inr hk))).1)⟩
end Dk
end Go.Proofs.YtcglehekiibgeaaDoor
