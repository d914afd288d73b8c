/- A pair in lockstep and the book, behind one call more: plain facts. -/
import Derived.Test.YtcglehekiibgeaaDoorSaysK
namespace Go.Proofs.YtcglehekiibgeaaDoor
set_option linter.ambiguousOpen false
open Go.RowKit
namespace Dk
open Sm Ft
set_option linter.unusedSimpArgs false
set_option linter.unusedVariables false

/-- A pair and the book. -/
structure St (Rep : World → Nat → (Nat → Prop) → Dsk → Prop) (w : World) (base p g gb : Nat) (F : Nat → Prop) (v : Value) (d : Dsk) (rv : Value) (vs : List Value) : Prop where
  pr : Pr Rep w base p F g v d
  bk : Bk w base gb rv vs
  ap : ∀ k, pfp F g v k → ¬ bfp gb rv vs k
  left : -1 ≤ d.left ∧ d.left ≤ 9223372036854775807
  num : 1 ≤ d.n ∧ d.n ≤ 4096
  lo : base ≤ w.heap.size

/-- All that a pair and the book have. -/
def afp (F : Nat → Prop) (g : Nat) (v : Value) (gb : Nat) (rv : Value) (vs : List Value) : Nat → Prop := fun k => pfp F g v k ∨ bfp gb rv vs k

theorem St.below {Rep : World → Nat → (Nat → Prop) → Dsk → Prop} (H : Says Rep) {w w' : World} {base p g gb : Nat} {F : Nat → Prop} {v : Value} {d : Dsk} {rv : Value} {vs : List Value} (h : St Rep w base p g gb F v d rv vs) (hb : Below w.heap.size w w') : St Rep w' base p g gb F v d rv vs :=
  ⟨h.pr.below H hb, h.bk.below hb, h.ap, h.left, h.num, Nat.le_trans h.lo hb.size⟩

theorem St.keep {Rep : World → Nat → (Nat → Prop) → Dsk → Prop} (H : Says Rep) {w w' : World} {base p g gb : Nat} {F G : Nat → Prop} {v : Value} {d : Dsk} {rv : Value} {vs : List Value} (h : St Rep w base p g gb F v d rv vs) (hk : Keep G w w') (hG : ∀ k, afp F g v gb rv vs k → ¬ G k) : St Rep w' base p g gb F v d rv vs :=
  ⟨h.pr.keep H hk (fun k hf => hG k (.inl hf)), h.bk.keep hk (fun k hf => hG k (.inr hf)), h.ap, h.left, h.num, Nat.le_trans h.lo hk.size⟩

theorem St.lt {Rep : World → Nat → (Nat → Prop) → Dsk → Prop} (H : Says Rep) {w : World} {base p g gb : Nat} {F : Nat → Prop} {v : Value} {d : Dsk} {rv : Value} {vs : List Value} (h : St Rep w base p g gb F v d rv vs) (k : Nat) (hk : afp F g v gb rv vs k) : base ≤ k ∧ k < w.heap.size := by
  rcases hk with hk | hk
  · exact h.pr.lt H k hk
  · exact h.bk.lt k hk

/-- The pair has turned, the book has not. -/
theorem St.turned {Rep : World → Nat → (Nat → Prop) → Dsk → Prop} (H : Says Rep) {w wa wb : World} {base p g gb : Nat} {F F' : Nat → Prop} {v v' : Value} {d d' : Dsk} {rv : Value} {vs : List Value} (h : St Rep w base p g gb F v d rv vs)
    (ha : Rep wa p F' d') (hka : Keep F w wa) (hga : Goes w F F') (hr : RDk wb base g v' d') (hkb : Keep (rfp g v) wa wb) (hm : Moves wa v v') (hl : -1 ≤ d'.left ∧ d'.left ≤ 9223372036854775807) (hn : 1 ≤ d'.n ∧ d'.n ≤ 4096) :
    St Rep wb base p g gb F' v' d' rv vs ∧ Keep (pfp F g v) w wb ∧ Goes w (pfp F g v) (pfp F' g v') := by
  have hRlt : ∀ k, rfp g v k → k < w.heap.size := fun k hk => (h.pr.ref.lt k hk).2
  have hF'r : ∀ k, F' k → ¬ rfp g v k := fun k hk hr => by
    rcases hga k hk with h1 | h1
    · exact h.pr.fr k h1 hr
    · have := hRlt k hr
      omega
  have hRep : Rep wb p F' d' := H.keep ha hkb hF'r
  have hrfp : ∀ k, rfp g v' k → rfp g v k ∨ wa.heap.size ≤ k := fun k hk => by
    rcases hk with rfl | hk
    · exact .inl (.inl rfl)
    · rcases hm k hk with h1 | h1
      · exact .inl (.inr h1)
      · exact .inr h1
  have hfr' : ∀ k, F' k → ¬ rfp g v' k := fun k hk hr => by
    rcases hrfp k hr with h1 | h1
    · exact hF'r k hk h1
    · have := H.lt ha k hk
      omega
  have hpg : Goes w (pfp F g v) (pfp F' g v') := fun k hk => by
    rcases hk with hk | hk
    · rcases hga k hk with h1 | h1
      · exact .inl (.inl h1)
      · exact .inr h1
    · rcases hrfp k hk with h1 | h1
      · exact .inl (.inr h1)
      · exact .inr (Nat.le_trans hka.size h1)
  have hKp : Keep (pfp F g v) w wb := (hka.weaken (G := pfp F g v) (fun k _ hf => .inl hf)).trans hkb (fun k _ hf => .inr hf)
  have hbk := h.bk.keep hKp (fun k hb hp => h.ap k hp hb)
  refine ⟨⟨⟨hRep, hr, hfr', fun k hk => ?_⟩, hbk, fun k hk hb => ?_, hl, hn, Nat.le_trans h.lo hKp.size⟩, hKp, hpg⟩
  · rcases hga k hk with h1 | h1
    · exact h.pr.fl k h1
    · exact Nat.le_trans h.lo h1
  · rcases hpg k hk with h1 | h1
    · exact h.ap k h1 hb
    · have := (h.bk.lt k hb).2
      omega

/-- The book has turned, the pair has not. -/
theorem St.booked {Rep : World → Nat → (Nat → Prop) → Dsk → Prop} (H : Says Rep) {w w' : World} {base p g gb : Nat} {F : Nat → Prop} {v : Value} {d : Dsk} {rv rv' : Value} {vs vs' : List Value} (h : St Rep w base p g gb F v d rv vs)
    (hb : Bk w' base gb rv' vs') (hk : Keep (bfp gb rv vs) w w') (hg : Goes w (bfp gb rv vs) (bfp gb rv' vs')) : St Rep w' base p g gb F v d rv' vs' :=
  ⟨h.pr.keep H hk (fun k hp hb => h.ap k hp hb), hb, fun k hp hb => by
    rcases hg k hb with h1 | h1
    · exact h.ap k hp h1
    · have := (h.pr.lt H k hp).2
      omega, h.left, h.num, Nat.le_trans h.lo hk.size⟩

/-- What one act leaves. -/
def Acted (Rep : World → Nat → (Nat → Prop) → Dsk → Prop) (w w' : World) (base p g gb : Nat) (F : Nat → Prop) (v : Value) (d : Dsk) (rv : Value) (vs : List Value) : Prop :=
  ∃ F' v' d' rv' vs', St Rep w' base p g gb F' v' d' rv' vs' ∧ Keep (afp F g v gb rv vs) w w' ∧ Goes w (afp F g v gb rv vs) (afp F' g v' gb rv' vs') ∧ Goes w (pfp F g v) (pfp F' g v') ∧ d'.tr.length ≤ d.tr.length + 1 ∧ vs'.length ≤ vs.length + 1 ∧ d'.n = d.n

theorem Acted.of_below {Rep : World → Nat → (Nat → Prop) → Dsk → Prop} (H : Says Rep) {w w' : World} {base p g gb : Nat} {F : Nat → Prop} {v : Value} {d : Dsk} {rv : Value} {vs : List Value} (h : St Rep w base p g gb F v d rv vs) (hb : Below w.heap.size w w') : Acted Rep w w' base p g gb F v d rv vs :=
  ⟨F, v, d, rv, vs, h.below H hb, Keep.of_below hb, Goes.refl _ _, Goes.refl _ _, by omega, by omega, rfl⟩

/-- Behind what is new. -/
theorem Acted.from {Rep : World → Nat → (Nat → Prop) → Dsk → Prop} {w w0 w' : World} {base p g gb : Nat} {F : Nat → Prop} {v : Value} {d : Dsk} {rv : Value} {vs : List Value} (hb : Below w.heap.size w w0) (h : Acted Rep w0 w' base p g gb F v d rv vs) : Acted Rep w w' base p g gb F v d rv vs := by
  obtain ⟨F', v', d', rv', vs', h1, h2, h3, h4, h5, h6, h7⟩ := h
  refine ⟨F', v', d', rv', vs', h1, (Keep.of_below (F := afp F g v gb rv vs) hb).trans h2 (fun _ _ hf => hf), fun k hk => ?_, fun k hk => ?_, h5, h6, h7⟩
  · rcases h3 k hk with h | h
    · exact .inl h
    · exact .inr (Nat.le_trans hb.size h)
  · rcases h4 k hk with h | h
    · exact .inl h
    · exact .inr (Nat.le_trans hb.size h)

/-- And what is new behind it. -/
theorem Acted.more {Rep : World → Nat → (Nat → Prop) → Dsk → Prop} (H : Says Rep) {w w0 w' : World} {base p g gb : Nat} {F : Nat → Prop} {v : Value} {d : Dsk} {rv : Value} {vs : List Value} (h : Acted Rep w w0 base p g gb F v d rv vs) (hb : Below w0.heap.size w0 w') : Acted Rep w w' base p g gb F v d rv vs := by
  obtain ⟨F', v', d', rv', vs', h1, h2, h3, h4, h5, h6, h7⟩ := h
  exact ⟨F', v', d', rv', vs', h1.below H hb, keep_more h2 hb, h3, h4, h5, h6, h7⟩

theorem Acted.pair {Rep : World → Nat → (Nat → Prop) → Dsk → Prop} (H : Says Rep) {w wa wb : World} {base p g gb : Nat} {F F' : Nat → Prop} {v v' : Value} {d d' : Dsk} {rv : Value} {vs : List Value} (h : St Rep w base p g gb F v d rv vs)
    (ha : Rep wa p F' d') (hka : Keep F w wa) (hga : Goes w F F') (hr : RDk wb base g v' d') (hkb : Keep (rfp g v) wa wb) (hm : Moves wa v v') (hl : -1 ≤ d'.left ∧ d'.left ≤ 9223372036854775807) (hn : d'.n = d.n) (ht : d'.tr.length ≤ d.tr.length + 1) :
    Acted Rep w wb base p g gb F v d rv vs := by
  obtain ⟨h1, h2, h3⟩ := h.turned H ha hka hga hr hkb hm hl (by rw [hn]; exact h.num)
  refine ⟨F', v', d', rv, vs, h1, h2.weaken (fun k _ hf => .inl hf), fun k hk => ?_, h3, ht, by omega, hn⟩
  rcases hk with hk | hk
  · rcases h3 k hk with h | h
    · exact .inl (.inl h)
    · exact .inr h
  · exact .inl (.inr hk)

theorem Acted.book {Rep : World → Nat → (Nat → Prop) → Dsk → Prop} (H : Says Rep) {w w' : World} {base p g gb : Nat} {F : Nat → Prop} {v : Value} {d : Dsk} {rv rv' : Value} {vs : List Value} {t : Value} (h : St Rep w base p g gb F v d rv vs)
    (hb : Bk w' base gb rv' (vs ++ [t])) (hk : Keep (bfp gb rv vs) w w') (hg : Goes w (bfp gb rv vs) (bfp gb rv' (vs ++ [t]))) : Acted Rep w w' base p g gb F v d rv vs := by
  refine ⟨F, v, d, rv', vs ++ [t], h.booked H hb hk hg, hk.weaken (fun k _ hf => .inr hf), fun k hk => ?_, Goes.refl _ _, by omega, by simp, rfl⟩
  rcases hk with hk | hk
  · exact .inl (.inl hk)
  · rcases hg k hk with h | h
    · exact .inl (.inr h)
    · exact .inr h

end Dk
end Go.Proofs.YtcglehekiibgeaaDoor
