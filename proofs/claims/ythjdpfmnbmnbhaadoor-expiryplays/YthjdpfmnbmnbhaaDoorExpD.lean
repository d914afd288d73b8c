/- The program's expiry and the document's side by side. -/
import Derived.Test.YthjdpfmnbmnbhaaDoorExpM
import Derived.Test.YthjdpfmnbmnbhaaDoorExpW
namespace Go.Proofs.YthjdpfmnbmnbhaaDoor
set_option linter.ambiguousOpen false
open Go.RowKit
namespace Ex
open Hh Ft
set_option linter.unusedSimpArgs false
set_option linter.unusedVariables false
attribute [local go_sem] Oper.semAt_some

/-- How the document's expiry lies, with the blocks that it leans on. -/
def RepE (base : Nat) : RepXT := fun w t G L => ∃ lv, RXp base w t lv L ∧ G = (fun k => k = t ∨ lv.ownBlock = some k) ∧ base ≤ w.heap.size ∧ Ge L

section
variable {base : Nat} {w w' : World} {t : Nat} {F G : Nat → Prop} {L L' : List En}

theorem RepE.lt (h : RepE base w t F L) : ∀ k, F k → base ≤ k ∧ k < w.heap.size := by
  obtain ⟨lv, h1, rfl, h3, _⟩ := h
  intro k hk
  rcases hk with rfl | hk
  · exact ⟨h1.lo, h1.tlt⟩
  · exact ⟨(h1.row.lt k hk).1, (h1.row.lt k hk).2⟩

theorem RepE.keep (h : RepE base w t F L) (hk : Keep G w w') (hn : ∀ k, F k → ¬ G k) : RepE base w' t F L := by
  obtain ⟨lv, h1, rfl, h3, h4⟩ := h
  exact ⟨lv, ⟨hk.at h1.blk (hn t (.inl rfl)), hk.own h1.row (fun g e => hn g (.inr e)), h1.lo, h1.ne⟩, rfl, Nat.le_trans h3 hk.size, h4⟩

theorem RepE.below (h : RepE base w t F L) (hb : Below w.heap.size w w') : RepE base w' t F L := h.keep (Keep.of_below (F := fun _ => False) hb) (fun _ _ h => h)

theorem RepE.ge (h : RepE base w t F L) : Ge L := by
  obtain ⟨lv, h1, rfl, h3, h4⟩ := h
  exact h4

theorem leftE_of {lv lv' : Value} (h : RXp base w' t lv' L') (h3 : base ≤ w.heap.size) (hg : Ge L') (hk : Keep (fun k => k = t) w w') (hn : ∀ g, lv'.ownBlock = some g → w.heap.size ≤ g) : LeftX (RepE base) w w' t (fun k => k = t ∨ lv.ownBlock = some k) L' :=
  ⟨_, ⟨lv', h, rfl, Nat.le_trans h3 hk.size, hg⟩, hk.weaken (fun k _ e => .inl e), fun k hk => hk.elim (fun e => .inl (.inl e)) (fun e => .inr (hn k e))⟩

theorem setE_r (h : RepE base w t F L) (s b t1 : Int) (hx : okE ⟨s, b, t1⟩) : Calls Tryd.prog 11 #[ptr t, .agg #[nu s, nu b], nu t1] w fun e w' => e = .returned (nu 0) ∧ LeftX (RepE base) w w' t F (setE L ⟨s, b, t1⟩) := by
  obtain ⟨lv, h1, rfl, h3, h4⟩ := h
  refine (setE_yes base w t lv L s b t1 h1 (by have := h4.few; omega) h3 hx).mono ?_
  rintro e w' ⟨rfl, lv', h5, h6, h7⟩
  exact ⟨rfl, leftE_of h5 h3 (h4.set hx) h6 h7⟩

theorem forgetE_r (h : RepE base w t F L) (s : Int) : Calls Tryd.prog 13 #[ptr t, nu s] w fun e w' => e = .returned (.bool (hasE L s)) ∧ LeftX (RepE base) w w' t F (dropE L s) := by
  obtain ⟨lv, h1, rfl, h3, h4⟩ := h
  refine (forgetE_ref base w t lv L s h1 (by have := h4.few; omega) h3).mono ?_
  rintro e w' ⟨rfl, lv', h5, h6, h7⟩
  exact ⟨rfl, leftE_of h5 h3 (h4.drop s) h6 h7⟩

theorem dueE_r {x : En} (h : RepE base w t F (x :: L)) (now : Int) (hd : x.t ≤ now) : Calls Tryd.prog 26 #[ptr t, nu now] w fun e w' => e = .returned (.tuple #[.agg #[nu x.s, nu x.b], .bool true]) ∧ LeftX (RepE base) w w' t F L := by
  obtain ⟨lv, h1, rfl, h3, h4⟩ := h
  refine (dueE_yes base w t lv x L now h1 (by have := h4.tail.few; omega) h3 h4 hd).mono ?_
  rintro e w' ⟨rfl, lv', h5, h6, h7⟩
  exact ⟨rfl, leftE_of h5 h3 h4.tail h6 h7⟩

theorem dueE_rn (h : RepE base w t F L) (now : Int) (hd : ∀ x M, L = x :: M → now < x.t) : Calls Tryd.prog 26 #[ptr t, nu now] w fun e w' => e = .returned (.tuple #[.agg #[nu 0, nu 0], .bool false]) ∧ Below w.heap.size w w' := by
  obtain ⟨lv, h1, rfl, h3, h4⟩ := h
  exact dueE_no base w t lv L now h1 hd
end

/-- Both, and what of the memory may have turned since wb. -/
structure Bd (R : RepXT) (base : Nat) (w0 wb w : World) (p t : Nat) (F0 G0 F G : Nat → Prop) (L1 L2 : List En) : Prop where
  xe : Xe R w0 w p F L1
  ref : RepE base w t G L2
  fg : ∀ k, F k → ¬ G k
  gl : ∀ k, G k → w0.heap.size ≤ k
  kp : Keep (fun j => F0 j ∨ G0 j) wb w
  gf : ∀ k, F k → F0 k ∨ wb.heap.size ≤ k
  gg : ∀ k, G k → G0 k ∨ wb.heap.size ≤ k
  b0 : w0.heap.size ≤ wb.heap.size

section
variable {R : RepXT} {base : Nat} {w0 wb w w' : World} {p t : Nat} {F0 G0 F G E : Nat → Prop} {L1 L2 L' : List En}

theorem Bd.start (h : Bd R base w0 wb w p t F0 G0 F G L1 L2) : Bd R base w0 w w p t F G F G L1 L2 := ⟨h.xe, h.ref, h.fg, h.gl, Keep.refl _ _, fun _ h => .inl h, fun _ h => .inl h, h.xe.bel.size⟩

theorem Bd.keep (C : ExpiryC R) (h : Bd R base w0 wb w p t F0 G0 F G L1 L2) (hk : Keep E w w') (h1 : ∀ k, E k → ¬ F k ∧ ¬ G k ∧ wb.heap.size ≤ k) : Bd R base w0 wb w' p t F0 G0 F G L1 L2 :=
  ⟨h.xe.keep C hk (fun k hf he => (h1 k he).1 hf) (fun k he => Nat.le_trans h.b0 (h1 k he).2.2), h.ref.keep hk (fun k hg he => (h1 k he).2.1 hg), h.fg, h.gl, h.kp.trans hk (fun i hi he => by have := (h1 i he).2.2; omega), h.gf, h.gg, h.b0⟩

theorem Bd.below (C : ExpiryC R) (h : Bd R base w0 wb w p t F0 G0 F G L1 L2) (hb : Below w.heap.size w w') : Bd R base w0 wb w' p t F0 G0 F G L1 L2 := h.keep C (Keep.of_below (F := fun _ => False) hb) (fun _ e => e.elim)

/-- The program's side turned. -/
theorem Bd.turn1 (C : ExpiryC R) (h : Bd R base w0 wb w p t F0 G0 F G L1 L2) (hl : LeftX R w w' p F L') : ∃ F', Bd R base w0 wb w' p t F0 G0 F' G L' L2 ∧ Keep F w w' ∧ (∀ k, F' k → F k ∨ w.heap.size ≤ k) := by
  obtain ⟨F', x1, h2, h3⟩ := h.xe.left hl
  have hs := h.kp.size
  refine ⟨F', ⟨x1, h.ref.keep h2 (fun k hg hf => h.fg k hf hg), fun k hf' hc => ?_, h.gl, h.kp.trans h2 (fun i hi hF => ?_), fun k hk => ?_, h.gg, h.b0⟩, h2, h3⟩
  · rcases h3 k hf' with h4 | h4
    · exact h.fg k h4 hc
    · have := (h.ref.lt k hc).2
      omega
  · rcases h.gf i hF with h4 | h4
    · exact .inl h4
    · omega
  · rcases h3 k hk with h4 | h4
    · exact h.gf k h4
    · exact .inr (Nat.le_trans hs h4)

/-- The document's side turned. -/
theorem Bd.turn2 (C : ExpiryC R) (h : Bd R base w0 wb w p t F0 G0 F G L1 L2) (hl : LeftX (RepE base) w w' t G L') : ∃ G', Bd R base w0 wb w' p t F0 G0 F G' L1 L' ∧ Keep G w w' ∧ (∀ k, G' k → G k ∨ w.heap.size ≤ k) := by
  obtain ⟨G', h1, h2, h3⟩ := hl
  have hs := h.kp.size
  refine ⟨G', ⟨h.xe.keep C h2 (fun k hf hg => h.fg k hf hg) (fun k hg => h.gl k hg), h1, fun k hf' hc => ?_, fun k hk => ?_, h.kp.trans h2 (fun i hi hF => ?_), h.gf, fun k hk => ?_, h.b0⟩, h2, h3⟩
  · rcases h3 k hc with h4 | h4
    · exact h.fg k hf' h4
    · have := C.lt h.xe.rep k hf'
      omega
  · rcases h3 k hk with h4 | h4
    · exact h.gl k h4
    · exact Nat.le_trans h.xe.bel.size h4
  · rcases h.gg i hF with h4 | h4
    · exact .inr h4
    · omega
  · rcases h3 k hk with h4 | h4
    · exact h.gg k h4
    · exact .inr (Nat.le_trans hs h4)

/-- One stretch behind another. -/
theorem Bd.trans {wc : World} {F1 G1 : Nat → Prop} {L3 L4 : List En} (h : Bd R base w0 wb wc p t F0 G0 F1 G1 L1 L2) (k : Bd R base w0 wc w p t F1 G1 F G L3 L4) : Bd R base w0 wb w p t F0 G0 F G L3 L4 := by
  have hs := h.kp.size
  refine ⟨k.xe, k.ref, k.fg, k.gl, h.kp.trans k.kp (fun i hi e => ?_), fun j hj => ?_, fun j hj => ?_, h.b0⟩
  · rcases e with e | e
    · rcases h.gf i e with e | e
      · exact .inl e
      · omega
    · rcases h.gg i e with e | e
      · exact .inr e
      · omega
  · rcases k.gf j hj with e | e
    · exact h.gf j e
    · exact .inr (by omega)
  · rcases k.gg j hj with e | e
    · exact h.gg j e
    · exact .inr (by omega)
end

/-- Both, amid a loop over what is due. -/
structure Lq (R : RepXT) (base : Nat) (w0 wb wi : World) (p t : Nat) (F0 G0 X : Nat → Prop) (hi : Nat) (F G : Nat → Prop) (L1 L2 : List En) (W : World) : Prop where
  bd : Bd R base w0 wb W p t F0 G0 F G L1 L2
  lp : Lp R w0 wi p X hi F L1 W
  goff : ∀ k, G k → ¬ X k ∧ ¬ (wi.heap.size ≤ k ∧ k < hi)
  bi : wb.heap.size ≤ wi.heap.size

section
variable {R : RepXT} {base : Nat} {w0 wb wi W W' : World} {p t hi : Nat} {F0 G0 X F G E : Nat → Prop} {L1 L2 L' : List En}

theorem Lq.keep (C : ExpiryC R) (h : Lq R base w0 wb wi p t F0 G0 X hi F G L1 L2 W) (hk : Keep E W W') (h1 : ∀ k, E k → ¬ F k ∧ ¬ G k ∧ ¬ X k ∧ wb.heap.size ≤ k) : Lq R base w0 wb wi p t F0 G0 X hi F G L1 L2 W' :=
  ⟨h.bd.keep C hk (fun k he => ⟨(h1 k he).1, (h1 k he).2.1, (h1 k he).2.2.2⟩), h.lp.keep C hk (fun k he => ⟨(h1 k he).1, (h1 k he).2.2.1, Nat.le_trans h.bd.b0 (h1 k he).2.2.2⟩), h.goff, h.bi⟩

theorem Lq.below (C : ExpiryC R) (h : Lq R base w0 wb wi p t F0 G0 X hi F G L1 L2 W) (hb : Below W.heap.size W W') : Lq R base w0 wb wi p t F0 G0 X hi F G L1 L2 W' := h.keep C (Keep.of_below (F := fun _ => False) hb) (fun _ e => e.elim)

theorem Lq.rest (C : ExpiryC R) : Rf.Rest wi.heap.size hi (Lq R base w0 wb wi p t F0 G0 X hi F G L1 L2) := fun A B hk h =>
  h.keep C hk (fun k hg => ⟨fun hf => (h.lp.off k hf).2 hg, fun hf => (h.goff k hf).2 hg, fun hx => by have := (h.lp.x k hx).1; omega, by have := h.bi; omega⟩)

/-- The iterator's step. -/
theorem Lq.step (C : ExpiryC R) (h : Lq R base w0 wb wi p t F0 G0 X hi F G L1 L2 W) {now : Int} {x : En} {c' : Kn} (hs : hi ≤ W.heap.size) (hst : StepX R p now (F, L1) W (some x) c' W') :
    L1 = x :: c'.2 ∧ x.t ≤ now ∧ Lq R base w0 wb wi p t F0 G0 X hi c'.1 G c'.2 L2 W' ∧ Keep F W W' ∧ (∀ k, c'.1 k → F k ∨ W.heap.size ≤ k) ∧ Rf.Lets X wi.heap.size hi W W' := by
  obtain ⟨e1, e2, e3, e4, e5, e6⟩ := h.lp.step C hs hst
  have hsz := h.bd.kp.size
  refine ⟨e1, e2, ⟨⟨e3.xe, h.bd.ref.keep e4 (fun k hg hf => h.bd.fg k hf hg), fun k hf' hc => ?_, h.bd.gl, h.bd.kp.trans e4 (fun i hi2 hF => ?_), fun k hk => ?_, h.bd.gg, h.bd.b0⟩, e3, h.goff, h.bi⟩, e4, e5, e6⟩
  · rcases e5 k hf' with h4 | h4
    · exact h.bd.fg k h4 hc
    · have := (h.bd.ref.lt k hc).2
      omega
  · rcases h.bd.gf i hF with h4 | h4
    · exact .inl h4
    · omega
  · rcases e5 k hk with h4 | h4
    · exact h.bd.gf k h4
    · exact .inr (Nat.le_trans hsz h4)

/-- The program's side turned. -/
theorem Lq.turn1 (C : ExpiryC R) (h : Lq R base w0 wb wi p t F0 G0 X hi F G L1 L2 W) (hs : hi ≤ W.heap.size) (hl : LeftX R W W' p F L') : ∃ F', Lq R base w0 wb wi p t F0 G0 X hi F' G L' L2 W' ∧ Keep F W W' ∧ (∀ k, F' k → F k ∨ W.heap.size ≤ k) := by
  obtain ⟨F', b1, h2, h3⟩ := h.bd.turn1 C hl
  refine ⟨F', ⟨b1, ⟨b1.xe, fun k hk => ?_, fun b hb => ⟨(h.lp.x b hb).1, (h2.block b (Nat.lt_of_lt_of_le (h.lp.x b hb).1 h.lp.sz) (fun hf => (h.lp.off b hf).1 hb)).trans (h.lp.x b hb).2⟩, h.lp.xlo, Nat.le_trans h.lp.sz h2.size, h.lp.sz0⟩, h.goff, h.bi⟩, h2, h3⟩
  rcases h3 k hk with e | e
  · exact h.lp.off k e
  · exact ⟨fun hx => by have := (h.lp.x k hx).1; have := h.lp.sz; omega, by omega⟩

/-- The document's side turned. -/
theorem Lq.turn2 (C : ExpiryC R) (h : Lq R base w0 wb wi p t F0 G0 X hi F G L1 L2 W) (hs : hi ≤ W.heap.size) (hl : LeftX (RepE base) W W' t G L') : ∃ G', Lq R base w0 wb wi p t F0 G0 X hi F G' L1 L' W' ∧ Keep G W W' ∧ (∀ k, G' k → G k ∨ W.heap.size ≤ k) := by
  obtain ⟨G', b1, h2, h3⟩ := h.bd.turn2 C hl
  refine ⟨G', ⟨b1, h.lp.keep C h2 (fun k hg => ⟨fun hf => h.bd.fg k hf hg, (h.goff k hg).1, h.bd.gl k hg⟩), fun k hk => ?_, h.bi⟩, h2, h3⟩
  rcases h3 k hk with e | e
  · exact h.goff k e
  · exact ⟨fun hx => by have := (h.lp.x k hx).1; have := h.lp.sz; omega, by omega⟩
end
end Ex
end Go.Proofs.YthjdpfmnbmnbhaaDoor
