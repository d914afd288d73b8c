/- Two writers by turns, the bytes that the law gathers of each, and the lists that were handed out: each in blocks of its own (told by a mark a block). -/
import Derived.Test.YtojejenijhjglaaDoorPackP
import Derived.Test.YtojejenijhjglaaDoorApartY
import Derived.Deep.AppendLies
namespace Go.Proofs.YtojejenijhjglaaDoor
set_option linter.ambiguousOpen false
open Go.RowKit
namespace Pk
open Sm Ft
set_option linter.unusedSimpArgs false
set_option linter.unusedVariables false
variable {RW RR : World → Nat → (Nat → Prop) → List UInt8 → Prop}

structure Two (RW : World → Nat → (Nat → Prop) → List UInt8 → Prop) (w0 w : World) (τ : Nat → Nat) (px py : Nat) (Fx Fy : Nat → Prop) (lx ly la lb : List UInt8) (av bv lv : Value) (vs : List Value) (ln : Nat → Nat) (f : Nat → List Value) : Prop where
  x : RW w px Fx lx
  y : RW w py Fy ly
  bel : Below w0.heap.size w0 w
  oa : w.ownsRow w0.heap.size 5 1 av la.length (la.map by1)
  ob : w.ownsRow w0.heap.size 5 1 bv lb.length (lb.map by1)
  ol : w.ownsRow w0.heap.size 22 1 lv vs.length vs
  ov : ∀ j (h : j < vs.length), w.ownsRow w0.heap.size 5 1 vs[j] (ln j) (f j)
  tx : ∀ k, Fx k → τ k = 0
  ty : ∀ k, Fy k → τ k = 1
  ta : ∀ k, av.ownBlock = some k → τ k = 2
  tb : ∀ k, bv.ownBlock = some k → τ k = 3
  tl : ∀ k, lv.ownBlock = some k → τ k = 4
  tv : ∀ j (h : j < vs.length) k, vs[j].ownBlock = some k → τ k = 5 + j
  lo : ∀ k, k < w0.heap.size → 1000 ≤ τ k

/-- What is new bears the mark t. -/
def mark (w : World) (τ : Nat → Nat) (t : Nat) (k : Nat) : Nat := if w.heap.size ≤ k then t else τ k

theorem mark_old {w : World} {τ : Nat → Nat} {t k : Nat} (h : k < w.heap.size) : mark w τ t k = τ k := if_neg (by omega)

theorem mark_new {w : World} {τ : Nat → Nat} {t k : Nat} (h : w.heap.size ≤ k) : mark w τ t k = t := if_pos h

section
variable {w0 w w' : World} {τ : Nat → Nat} {px py : Nat} {Fx Fy : Nat → Prop} {lx ly la lb : List UInt8} {av bv lv : Value} {vs : List Value} {ln : Nat → Nat} {f : Nat → List Value}

theorem Two.below (S : Says RW RR) (h : Two RW w0 w τ px py Fx Fy lx ly la lb av bv lv vs ln f) (hb : Below w.heap.size w w') : Two RW w0 w' τ px py Fx Fy lx ly la lb av bv lv vs ln f :=
  ⟨S.keepW h.x (Keep.of_below (F := fun _ => False) hb) (fun _ _ h => h), S.keepW h.y (Keep.of_below (F := fun _ => False) hb) (fun _ _ h => h), h.bel.trans (hb.mono h.bel.size), own_keptB h.oa hb, own_keptB h.ob hb, own_keptB h.ol hb, fun j hj => own_keptB (h.ov j hj) hb, h.tx, h.ty, h.ta, h.tb, h.tl, h.tv, h.lo⟩

/-- What a call that turns only blocks of the mark t, and makes new ones, leaves of the others. -/
theorem Two.turn (S : Says RW RR) (h : Two RW w0 w τ px py Fx Fy lx ly la lb av bv lv vs ln f) (t : Nat) (ht : t < 1000) (hk : Keep (fun k => τ k = t) w w') :
    (t ≠ 0 → RW w' px Fx lx) ∧ (t ≠ 1 → RW w' py Fy ly) ∧ Below w0.heap.size w0 w' ∧ (t ≠ 2 → w'.ownsRow w0.heap.size 5 1 av la.length (la.map by1)) ∧ (t ≠ 3 → w'.ownsRow w0.heap.size 5 1 bv lb.length (lb.map by1)) ∧ (t ≠ 4 → w'.ownsRow w0.heap.size 22 1 lv vs.length vs) ∧ (∀ j (hj : j < vs.length), t ≠ 5 + j → w'.ownsRow w0.heap.size 5 1 vs[j] (ln j) (f j)) := by
  refine ⟨fun n => S.keepW h.x hk (fun k hf e => n ?_), fun n => S.keepW h.y hk (fun k hf e => n ?_), ?_, fun n => hk.own h.oa (fun g hg e => n ?_), fun n => hk.own h.ob (fun g hg e => n ?_), fun n => hk.own h.ol (fun g hg e => n ?_), fun j hj n => hk.own (h.ov j hj) (fun g hg e => n ?_)⟩
  · rw [← e]; exact h.tx k hf
  · rw [← e]; exact h.ty k hf
  · refine Keep.belowF h.bel hk (fun k e => ?_)
    rcases Nat.lt_or_ge k w0.heap.size with h1 | h1
    · have := h.lo k h1
      have : τ k = t := e
      omega
    · exact h1
  · rw [← e]; exact h.ta g hg
  · rw [← e]; exact h.tb g hg
  · rw [← e]; exact h.tl g hg
  · rw [← e]; exact h.tv j hj g hg

theorem Two.marks (S : Says RW RR) (h : Two RW w0 w τ px py Fx Fy lx ly la lb av bv lv vs ln f) (t : Nat) :
    (∀ k, Fx k → mark w τ t k = 0) ∧ (∀ k, Fy k → mark w τ t k = 1) ∧ (∀ k, av.ownBlock = some k → mark w τ t k = 2) ∧ (∀ k, bv.ownBlock = some k → mark w τ t k = 3) ∧ (∀ k, lv.ownBlock = some k → mark w τ t k = 4) ∧ (∀ j (hj : j < vs.length) k, vs[j].ownBlock = some k → mark w τ t k = 5 + j) ∧ (∀ k, k < w0.heap.size → 1000 ≤ mark w τ t k) :=
  ⟨fun k hk => (mark_old (S.ltW h.x k hk)).trans (h.tx k hk), fun k hk => (mark_old (S.ltW h.y k hk)).trans (h.ty k hk), fun k hk => (mark_old (h.oa.lt k hk).2).trans (h.ta k hk), fun k hk => (mark_old (h.ob.lt k hk).2).trans (h.tb k hk), fun k hk => (mark_old (h.ol.lt k hk).2).trans (h.tl k hk), fun j hj k hk => (mark_old ((h.ov j hj).lt k hk).2).trans (h.tv j hj k hk), fun k hk => by rw [mark_old (Nat.lt_of_lt_of_le hk h.bel.size)]; exact h.lo k hk⟩

theorem Two.putx (S : Says RW RR) (h : Two RW w0 w τ px py Fx Fy lx ly la lb av bv lv vs ln f) {Fx' : Nat → Prop} {lx' : List UInt8} (hx : RW w' px Fx' lx') (hk : Keep Fx w w') (hg : Goes w Fx Fx') : Two RW w0 w' (mark w τ 0) px py Fx' Fy lx' ly la lb av bv lv vs ln f := by
  obtain ⟨_, a2, a3, a4, a5, a6, a7⟩ := h.turn S 0 (by decide) (hk.weaken (fun k _ hf => h.tx k hf))
  obtain ⟨_, m2, m3, m4, m5, m6, m7⟩ := h.marks S 0
  refine ⟨hx, a2 (by decide), a3, a4 (by decide), a5 (by decide), a6 (by decide), fun j hj => a7 j hj (by omega), fun k hf => ?_, m2, m3, m4, m5, m6, m7⟩
  rcases hg k hf with h1 | h1
  · exact (mark_old (S.ltW h.x k h1)).trans (h.tx k h1)
  · exact mark_new h1

theorem Two.puty (S : Says RW RR) (h : Two RW w0 w τ px py Fx Fy lx ly la lb av bv lv vs ln f) {Fy' : Nat → Prop} {ly' : List UInt8} (hy : RW w' py Fy' ly') (hk : Keep Fy w w') (hg : Goes w Fy Fy') : Two RW w0 w' (mark w τ 1) px py Fx Fy' lx ly' la lb av bv lv vs ln f := by
  obtain ⟨a1, _, a3, a4, a5, a6, a7⟩ := h.turn S 1 (by decide) (hk.weaken (fun k _ hf => h.ty k hf))
  obtain ⟨m1, _, m3, m4, m5, m6, m7⟩ := h.marks S 1
  refine ⟨a1 (by decide), hy, a3, a4 (by decide), a5 (by decide), a6 (by decide), fun j hj => a7 j hj (by omega), m1, fun k hf => ?_, m3, m4, m5, m6, m7⟩
  rcases hg k hf with h1 | h1
  · exact (mark_old (S.ltW h.y k h1)).trans (h.ty k h1)
  · exact mark_new h1

theorem grown_keep {row : Option Nat} (hg : w.grownBy w' row) : Keep (fun k => row = some k) w w' := (Keep.refl (fun k => row = some k) w).grown hg (fun k hk => .inl hk)

theorem Two.appa (S : Says RW RR) (h : Two RW w0 w τ px py Fx Fy lx ly la lb av bv lv vs ln f) {v' : Value} {l' : List UInt8} (ho : w'.ownsRow w0.heap.size 5 1 v' l'.length (l'.map by1)) (hg : w.grownBy w' av.ownBlock) (hp : v'.ownBlock = av.ownBlock ∨ v'.ownBlock = some w.heap.size) : Two RW w0 w' (mark w τ 2) px py Fx Fy lx ly l' lb v' bv lv vs ln f := by
  obtain ⟨a1, a2, a3, _, a5, a6, a7⟩ := h.turn S 2 (by decide) ((grown_keep hg).weaken (fun k _ hf => h.ta k hf))
  obtain ⟨m1, m2, m3, m4, m5, m6, m7⟩ := h.marks S 2
  refine ⟨a1 (by decide), a2 (by decide), a3, ho, a5 (by decide), a6 (by decide), fun j hj => a7 j hj (by omega), m1, m2, fun k hk => ?_, m4, m5, m6, m7⟩
  rcases hp with hp | hp
  · exact m3 k (by rw [← hp]; exact hk)
  · rw [hp] at hk
    simp only [Option.some.injEq] at hk
    exact mark_new (by omega)

theorem Two.appb (S : Says RW RR) (h : Two RW w0 w τ px py Fx Fy lx ly la lb av bv lv vs ln f) {v' : Value} {l' : List UInt8} (ho : w'.ownsRow w0.heap.size 5 1 v' l'.length (l'.map by1)) (hg : w.grownBy w' bv.ownBlock) (hp : v'.ownBlock = bv.ownBlock ∨ v'.ownBlock = some w.heap.size) : Two RW w0 w' (mark w τ 3) px py Fx Fy lx ly la l' av v' lv vs ln f := by
  obtain ⟨a1, a2, a3, a4, _, a6, a7⟩ := h.turn S 3 (by decide) ((grown_keep hg).weaken (fun k _ hf => h.tb k hf))
  obtain ⟨m1, m2, m3, m4, m5, m6, m7⟩ := h.marks S 3
  refine ⟨a1 (by decide), a2 (by decide), a3, a4 (by decide), ho, a6 (by decide), fun j hj => a7 j hj (by omega), m1, m2, m3, fun k hk => ?_, m5, m6, m7⟩
  rcases hp with hp | hp
  · exact m4 k (by rw [← hp]; exact hk)
  · rw [hp] at hk
    simp only [Option.some.injEq] at hk
    exact mark_new (by omega)

/-- A list that a call has made since w stands beside the others. -/
def Beside (w0 w : World) (τ : Nat → Nat) (t : Nat) (v : Value) (l : List UInt8) : Prop := w.ownsRow w0.heap.size 5 1 v l.length (l.map by1) ∧ ∀ k, v.ownBlock = some k → τ k = t

theorem Two.made (S : Says RW RR) (h : Two RW w0 w τ px py Fx Fy lx ly la lb av bv lv vs ln f) {v : Value} {l : List UInt8} (hb : Below w.heap.size w w') (ho : w'.ownsRow w.heap.size 5 1 v l.length (l.map by1)) (t : Nat) : Two RW w0 w' (mark w τ t) px py Fx Fy lx ly la lb av bv lv vs ln f ∧ Beside w0 w' (mark w τ t) t v l := by
  have h' := h.below S hb
  obtain ⟨m1, m2, m3, m4, m5, m6, m7⟩ := h.marks S t
  exact ⟨⟨h'.x, h'.y, h'.bel, h'.oa, h'.ob, h'.ol, h'.ov, m1, m2, m3, m4, m5, m6, m7⟩, own_mono ho h.bel.size, fun k hk => mark_new (ho.lt k hk).1⟩

/-- One list more. -/
theorem Two.appl (S : Says RW RR) (h : Two RW w0 w τ px py Fx Fy lx ly la lb av bv lv vs ln f) {v : Value} {l : List UInt8} (hbs : Beside w0 w τ (5 + vs.length) v l) (ht : vs.length < 900) {lv' : Value} (ho : w'.ownsRow w0.heap.size 22 1 lv' (vs.length + 1) (vs ++ [v])) (hg : w.grownBy w' lv.ownBlock) (hp : lv'.ownBlock = lv.ownBlock ∨ lv'.ownBlock = some w.heap.size) :
    Two RW w0 w' (mark w τ 4) px py Fx Fy lx ly la lb av bv lv' (vs ++ [v]) (fun j => if j = vs.length then l.length else ln j) (fun j => if j = vs.length then l.map by1 else f j) := by
  have hk4 : Keep (fun k => τ k = 4) w w' := (grown_keep hg).weaken (fun k _ hf => h.tl k hf)
  obtain ⟨a1, a2, a3, a4, a5, _, a7⟩ := h.turn S 4 (by decide) hk4
  obtain ⟨m1, m2, m3, m4, m5, m6, m7⟩ := h.marks S 4
  have hget : ∀ j (hj : j < (vs ++ [v]).length), (∃ hj' : j < vs.length, (vs ++ [v])[j] = vs[j]) ∨ (j = vs.length ∧ (vs ++ [v])[j] = v) := by
    intro j hj
    rcases Nat.lt_or_ge j vs.length with h' | h'
    · left; exact ⟨h', List.getElem_append_left h'⟩
    · right
      have : j = vs.length := by simp at hj; omega
      subst this
      exact ⟨rfl, by simp⟩
  refine ⟨a1 (by decide), a2 (by decide), a3, a4 (by decide), a5 (by decide), by rw [List.length_append]; exact ho, fun j hj => ?_, m1, m2, m3, m4, fun k hk => ?_, fun j hj k hk => ?_, m7⟩
  · rcases hget j hj with ⟨hj', e⟩ | ⟨rfl, e⟩
    · rw [e]
      simp only [show j ≠ vs.length by omega, if_false]
      exact a7 j hj' (by omega)
    · rw [e]
      simp only [if_true]
      exact hk4.own hbs.1 (fun g hg e4 => by
        have := hbs.2 g hg
        omega)
  · rcases hp with hp | hp
    · exact m5 k (by rw [← hp]; exact hk)
    · rw [hp] at hk
      simp only [Option.some.injEq] at hk
      exact mark_new (by omega)
  · rcases hget j hj with ⟨hj', e⟩ | ⟨rfl, e⟩
    · rw [e] at hk
      exact m6 j hj' k hk
    · rw [e] at hk
      rw [mark_old (hbs.1.lt k hk).2]
      exact hbs.2 k hk

theorem Two.kept4 (S : Says RW RR) (h : Two RW w0 w τ px py Fx Fy lx ly la lb av bv lv vs ln f) {v : Value} {l : List UInt8} {t : Nat} (hbs : Beside w0 w τ t v l) (ht : t ≠ 4) (hg : w.grownBy w' lv.ownBlock) : RdB w' v l :=
  own_rd (((grown_keep hg).weaken (G := fun k => τ k = 4) (fun k _ hf => h.tl k hf)).own hbs.1 (fun g hg e4 => ht (by rw [← hbs.2 g hg]; exact e4)))

/-- Two lists more. -/
theorem Two.appl2 (S : Says RW RR) (h : Two RW w0 w τ px py Fx Fy lx ly la lb av bv lv vs ln f) {v u : Value} {l m : List UInt8} (hbs : Beside w0 w τ (5 + vs.length) v l) (hbu : Beside w0 w τ (6 + vs.length) u m) (ht : vs.length < 900) {lv' : Value} (ho : w'.ownsRow w0.heap.size 22 1 lv' (vs.length + 2) (vs ++ [v, u])) (hg : w.grownBy w' lv.ownBlock) (hp : lv'.ownBlock = lv.ownBlock ∨ lv'.ownBlock = some w.heap.size) :
    Two RW w0 w' (mark w τ 4) px py Fx Fy lx ly la lb av bv lv' (vs ++ [v, u]) (fun j => if j = vs.length then l.length else if j = vs.length + 1 then m.length else ln j) (fun j => if j = vs.length then l.map by1 else if j = vs.length + 1 then m.map by1 else f j) := by
  have hk4 : Keep (fun k => τ k = 4) w w' := (grown_keep hg).weaken (fun k _ hf => h.tl k hf)
  obtain ⟨a1, a2, a3, a4, a5, _, a7⟩ := h.turn S 4 (by decide) hk4
  obtain ⟨m1, m2, m3, m4, m5, m6, m7⟩ := h.marks S 4
  have hget : ∀ j (hj : j < (vs ++ [v, u]).length), (∃ hj' : j < vs.length, (vs ++ [v, u])[j] = vs[j]) ∨ (j = vs.length ∧ (vs ++ [v, u])[j] = v) ∨ (j = vs.length + 1 ∧ (vs ++ [v, u])[j] = u) := by
    intro j hj
    rcases Nat.lt_or_ge j vs.length with h' | h'
    · left; exact ⟨h', List.getElem_append_left h'⟩
    · right
      have : j = vs.length ∨ j = vs.length + 1 := by simp at hj; omega
      rcases this with rfl | rfl
      · exact .inl ⟨rfl, by simp⟩
      · exact .inr ⟨rfl, by simp⟩
  refine ⟨a1 (by decide), a2 (by decide), a3, a4 (by decide), a5 (by decide), by rw [List.length_append]; exact ho, fun j hj => ?_, m1, m2, m3, m4, fun k hk => ?_, fun j hj k hk => ?_, m7⟩
  · rcases hget j hj with ⟨hj', e⟩ | ⟨rfl, e⟩ | ⟨rfl, e⟩
    · rw [e]
      simp only [show j ≠ vs.length by omega, show j ≠ vs.length + 1 by omega, if_false]
      exact a7 j hj' (by omega)
    · rw [e]
      simp only [if_true]
      exact hk4.own hbs.1 (fun g hg e4 => by
        have := hbs.2 g hg
        omega)
    · rw [e]
      simp only [if_true, show vs.length + 1 ≠ vs.length by omega, if_false]
      exact hk4.own hbu.1 (fun g hg e4 => by
        have := hbu.2 g hg
        omega)
  · rcases hp with hp | hp
    · exact m5 k (by rw [← hp]; exact hk)
    · rw [hp] at hk
      simp only [Option.some.injEq] at hk
      exact mark_new (by omega)
  · rcases hget j hj with ⟨hj', e⟩ | ⟨rfl, e⟩ | ⟨rfl, e⟩
    · rw [e] at hk
      exact m6 j hj' k hk
    · rw [e] at hk
      rw [mark_old (hbs.1.lt k hk).2]
      exact hbs.2 k hk
    · rw [e] at hk
      rw [mark_old (hbu.1.lt k hk).2]
      have := hbu.2 k hk
      omega

theorem Beside.below {v : Value} {l : List UInt8} {t t2 : Nat} (h : Beside w0 w τ t v l) (hb : Below w.heap.size w w') : Beside w0 w' (mark w τ t2) t v l :=
  ⟨own_keptB h.1 hb, fun k hk => (mark_old (h.1.lt k hk).2).trans (h.2 k hk)⟩

theorem Beside.below' {v : Value} {l : List UInt8} {t : Nat} (h : Beside w0 w τ t v l) (hb : Below w.heap.size w w') : Beside w0 w' τ t v l :=
  ⟨own_keptB h.1 hb, h.2⟩

/-- As the law's ApartBytes wants the lists. -/
theorem Two.lists (h : Two RW w0 w τ px py Fx Fy lx ly la lb av bv lv vs ln f) {L cap : Nat} (hv : lv = .slice (some ⟨L, 0, none⟩) vs.length cap) : LsR w w0.heap.size L vs ln f ∧ ApartR L vs := by
  have hL := h.ol.lt L (by rw [hv]; rfl)
  have ho := h.ol
  rw [hv] at ho
  refine ⟨⟨h.ov, fun j hj => rows_cell ho rfl j hj, hL.2, h.bel.size⟩, ⟨fun i j hi hj hne b hb hc => ?_, fun j hj e => ?_⟩⟩
  · have h1 := h.tv i hi b hb
    have h2 := h.tv j hj b hc
    omega
  · have h1 := h.tv j hj L e
    have h2 := h.tl L (by rw [hv]; rfl)
    omega

/-- What is left behind ApartBytes. -/
theorem Two.apart (S : Says RW RR) (h : Two RW w0 w τ px py Fx Fy lx ly la lb av bv lv vs ln f) (hk : Keep (Wb vs) w w') : RW w' px Fx lx ∧ RW w' py Fy ly ∧ Below w0.heap.size w0 w' ∧ w'.ownsRow w0.heap.size 5 1 av la.length (la.map by1) ∧ w'.ownsRow w0.heap.size 5 1 bv lb.length (lb.map by1) := by
  have hw : ∀ k, Wb vs k → 5 ≤ τ k ∧ w0.heap.size ≤ k := fun k ⟨j, hj, e⟩ => by
    have h1 := h.tv j hj k e
    exact ⟨by omega, ((h.ov j hj).lt k e).1⟩
  refine ⟨S.keepW h.x hk (fun k hf e => ?_), S.keepW h.y hk (fun k hf e => ?_), Keep.belowF h.bel hk (fun k e => (hw k e).2), hk.own h.oa (fun g hg e => ?_), hk.own h.ob (fun g hg e => ?_)⟩
  · have := h.tx k hf; have := (hw k e).1; omega
  · have := h.ty k hf; have := (hw k e).1; omega
  · have := h.ta g hg; have := (hw g e).1; omega
  · have := h.tb g hg; have := (hw g e).1; omega
end
end Pk
end Go.Proofs.YtojejenijhjglaaDoor
