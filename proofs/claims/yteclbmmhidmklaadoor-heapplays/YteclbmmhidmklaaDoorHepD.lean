/- The program's heap and the document's side by side; what the law asks of both. -/
import Derived.Test.YteclbmmhidmklaaDoorHepA
namespace Go.Proofs.YteclbmmhidmklaaDoor
set_option linter.ambiguousOpen false
open Go.RowKit
namespace Hh
open Ft
set_option linter.unusedSimpArgs false
set_option linter.unusedVariables false
attribute [local go_sem] Oper.semAt_some

/-- How the document's heap lies, with the blocks that it leans on. -/
def RepH (base : Nat) : RepHT := fun w t G N L => ∃ lv, RHp base w t N lv L ∧ G = (fun k => k = t ∨ lv.ownBlock = some k) ∧ base ≤ w.heap.size

section
variable {base : Nat} {w w' : World} {t : Nat} {F G : Nat → Prop} {N : Int} {L L' : List It}

theorem RepH.lt (h : RepH base w t F N L) : ∀ k, F k → base ≤ k ∧ k < w.heap.size := by
  obtain ⟨lv, h1, rfl, h3⟩ := h
  intro k hk
  rcases hk with rfl | hk
  · exact ⟨h1.lo, h1.tlt⟩
  · exact ⟨(h1.row.lt k hk).1, (h1.row.lt k hk).2⟩

theorem RepH.keep (h : RepH base w t F N L) (hk : Keep G w w') (hn : ∀ k, F k → ¬ G k) : RepH base w' t F N L := by
  obtain ⟨lv, h1, rfl, h3⟩ := h
  exact ⟨lv, ⟨hk.at h1.blk (hn t (.inl rfl)), hk.own h1.row (fun g e => hn g (.inr e)), h1.lo, h1.ne⟩, rfl, Nat.le_trans h3 hk.size⟩

theorem RepH.below (h : RepH base w t F N L) (hb : Below w.heap.size w w') : RepH base w' t F N L := h.keep (Keep.of_below (F := fun _ => False) hb) (fun _ _ h => h)

theorem leftH_of {lv lv' : Value} (h : RHp base w' t N lv' L') (h3 : base ≤ w.heap.size) (hk : Keep (fun k => k = t) w w') (hn : ∀ g, lv'.ownBlock = some g → w.heap.size ≤ g) : LeftH (RepH base) w w' t (fun k => k = t ∨ lv.ownBlock = some k) N L' :=
  ⟨_, ⟨lv', h, rfl, Nat.le_trans h3 hk.size⟩, hk.weaken (fun k _ e => .inl e), fun k hk => hk.elim (fun e => .inl (.inl e)) (fun e => .inr (hn k e))⟩
end

theorem setH_r (base : Nat) (w : World) (t : Nat) (F : Nat → Prop) (N : Int) (L : List It) (i key : Int) (h : RepH base w t F N L) (hl : L.length ≤ 65536) (hi : 0 ≤ i ∧ i < N) :
    Calls Tryd.prog 16 #[ptr t, nu i, nu key] w fun e w' => e = .returned (nu 0) ∧ LeftH (RepH base) w w' t F N (setH L i key) := by
  obtain ⟨lv, h1, rfl, h3⟩ := h
  refine (setH_yes base w t N lv L i key h1 (by omega) h3 hi).mono ?_
  rintro e w' ⟨rfl, lv', h4, h5, h6⟩
  exact ⟨rfl, leftH_of h4 h3 h5 h6⟩

theorem setHn_r (base : Nat) (w : World) (t : Nat) (F : Nat → Prop) (N : Int) (L : List It) (i key : Int) (h : RepH base w t F N L) (hi : ¬ (0 ≤ i ∧ i < N)) :
    Calls Tryd.prog 16 #[ptr t, nu i, nu key] w fun e w' => e = .returned (nu 1) ∧ Below w.heap.size w w' := by
  obtain ⟨lv, h1, rfl, h3⟩ := h
  exact setH_no base w t N lv L i key h1 hi

theorem dropH_r (base : Nat) (w : World) (t : Nat) (F : Nat → Prop) (N : Int) (L : List It) (i : Int) (h : RepH base w t F N L) (hl : L.length ≤ 65536) :
    Calls Tryd.prog 12 #[ptr t, nu i] w fun e w' => e = .returned (.bool (hasH L i)) ∧ LeftH (RepH base) w w' t F N (dropH L i) := by
  obtain ⟨lv, h1, rfl, h3⟩ := h
  refine (dropH_ref base w t N lv L i h1 (by omega) h3).mono ?_
  rintro e w' ⟨rfl, lv', h4, h5, h6⟩
  exact ⟨rfl, leftH_of h4 h3 h5 h6⟩

theorem keyH_r (base : Nat) (w : World) (t : Nat) (F : Nat → Prop) (N : Int) (L : List It) (i : Int) (h : RepH base w t F N L) :
    Calls Tryd.prog 35 #[ptr t, nu i] w fun e w' => e = .returned (.tuple #[nu ((keyH L i).getD 0), .bool (keyH L i).isSome]) ∧ Below w.heap.size w w' := by
  obtain ⟨lv, h1, rfl, h3⟩ := h
  exact keyH_ref base w t N lv L i h1

theorem leastH_r (base : Nat) (w : World) (t : Nat) (F : Nat → Prop) (N : Int) (L : List It) (h : RepH base w t F N L) :
    Calls Tryd.prog 33 #[ptr t] w fun e w' => e = .returned (.tuple #[nu (fstI L), nu (fstK L), .bool (!L.isEmpty)]) ∧ Below w.heap.size w w' := by
  obtain ⟨lv, h1, rfl, h3⟩ := h
  exact leastH_ref base w t N lv L h1

theorem pairsH_r (base : Nat) (w : World) (t : Nat) (F : Nat → Prop) (N : Int) (L : List It) (h : RepH base w t F N L) (hl : L.length ≤ 65536) :
    Calls Tryd.prog 9 #[ptr t] w fun e w' => ∃ a c, e = .returned (.slice a (2 * L.length) c) ∧ Hid (w'.ownsRow w.heap.size 3 1 (.slice a (2 * L.length) c) (2 * L.length) ((prs L).map nu) ∧ Below w.heap.size w w') := by
  obtain ⟨lv, h1, rfl, h3⟩ := h
  exact pairsH_ref base w t N lv L h1 (by omega)

/-- The program's heap and the document's, all above what was there. -/
structure Hp (R : RepHT) (base : Nat) (w0 w : World) (p t : Nat) (F G : Nat → Prop) (N : Int) (L1 L2 : List It) : Prop where
  rep : R w p F N L1
  ref : RepH base w t G N L2
  fg : ∀ k, F k → ¬ G k
  fl : ∀ k, F k → w0.heap.size ≤ k
  gl : ∀ k, G k → w0.heap.size ≤ k
  good1 : Hk N L1
  good2 : Hk N L2
  few1 : L1.length ≤ 65536
  few2 : L2.length ≤ 65536
  bel : Below w0.heap.size w0 w

/-- From the world wb on: both, and what of the memory may have turned since. -/
structure Hd (R : RepHT) (base : Nat) (w0 wb w : World) (p t : Nat) (F0 G0 F G : Nat → Prop) (N : Int) (L1 L2 : List It) : Prop where
  pr : Hp R base w0 w p t F G N L1 L2
  kp : Keep (fun j => F0 j ∨ G0 j) wb w
  gf : ∀ k, F k → F0 k ∨ wb.heap.size ≤ k
  gg : ∀ k, G k → G0 k ∨ wb.heap.size ≤ k

section
variable {R : RepHT} {base : Nat} {w0 wb w w' : World} {p t : Nat} {F0 G0 F G : Nat → Prop} {N : Int} {L1 L2 L' : List It}

theorem HeapC.below (C : HeapC R) (h : R w p F N L1) (hb : Below w.heap.size w w') : R w' p F N L1 := C.keep h (Keep.of_below (F := fun _ => False) hb) (fun _ _ h => h)

theorem Hp.below (C : HeapC R) (h : Hp R base w0 w p t F G N L1 L2) (hb : Below w.heap.size w w') : Hp R base w0 w' p t F G N L1 L2 :=
  ⟨C.below h.rep hb, h.ref.below hb, h.fg, h.fl, h.gl, h.good1, h.good2, h.few1, h.few2, h.bel.trans (hb.mono h.bel.size)⟩

theorem Hd.start (h : Hp R base w0 w p t F G N L1 L2) : Hd R base w0 w w p t F G F G N L1 L2 := ⟨h, Keep.refl _ _, fun _ h => .inl h, fun _ h => .inl h⟩

theorem Hd.below (C : HeapC R) (h : Hd R base w0 wb w p t F0 G0 F G N L1 L2) (hb : Below w.heap.size w w') : Hd R base w0 wb w' p t F0 G0 F G N L1 L2 :=
  ⟨h.pr.below C hb, h.kp.trans (Keep.of_below (F := fun _ => False) hb) (fun _ _ h => h.elim), h.gf, h.gg⟩

theorem Hd.turn1 (h : Hd R base w0 wb w p t F0 G0 F G N L1 L2) (hl : LeftH R w w' p F N L') (hg : Hk N L') (hf : L'.length ≤ 65536) : ∃ F', Hd R base w0 wb w' p t F0 G0 F' G N L' L2 := by
  obtain ⟨F', h1, h2, h3⟩ := hl
  have hs := h.kp.size
  refine ⟨F', ⟨h1, h.pr.ref.keep h2 (fun k hf hc => h.pr.fg k hc hf), fun k hf' hc => ?_, fun k hf' => ?_, h.pr.gl, hg, h.pr.good2, hf, h.pr.few2, h.pr.bel.trans (h2.below (fun k hk hc => by have := h.pr.fl k hc; omega) h.pr.bel.size)⟩, h.kp.trans h2 (fun i hi hF => ?_), fun k hk => ?_, h.gg⟩
  · rcases h3 k hf' with h4 | h4
    · exact h.pr.fg k h4 hc
    · have := (h.pr.ref.lt k hc).2
      omega
  · rcases h3 k hf' with h4 | h4
    · exact h.pr.fl k h4
    · exact Nat.le_trans h.pr.bel.size h4
  · rcases h.gf i hF with h4 | h4
    · exact .inl h4
    · omega
  · rcases h3 k hk with h4 | h4
    · exact h.gf k h4
    · exact .inr (Nat.le_trans hs h4)

theorem Hd.turn2 (C : HeapC R) (h : Hd R base w0 wb w p t F0 G0 F G N L1 L2) (hl : LeftH (RepH base) w w' t G N L') (hg : Hk N L') (hf : L'.length ≤ 65536) : ∃ G', Hd R base w0 wb w' p t F0 G0 F G' N L1 L' := by
  obtain ⟨G', h1, h2, h3⟩ := hl
  have hs := h.kp.size
  refine ⟨G', ⟨C.keep h.pr.rep h2 (fun k hf hc => h.pr.fg k hf hc), h1, fun k hf' hc => ?_, h.pr.fl, fun k hf' => ?_, h.pr.good1, hg, h.pr.few1, hf, h.pr.bel.trans (h2.below (fun k hk hc => by have := h.pr.gl k hc; omega) h.pr.bel.size)⟩, h.kp.trans h2 (fun i hi hF => ?_), h.gf, fun k hk => ?_⟩
  · rcases h3 k hc with h4 | h4
    · exact h.pr.fg k hf' h4
    · have := C.lt h.pr.rep k hf'
      omega
  · rcases h3 k hf' with h4 | h4
    · exact h.pr.gl k h4
    · exact Nat.le_trans h.pr.bel.size h4
  · rcases h.gg i hF with h4 | h4
    · exact .inr h4
    · omega
  · rcases h3 k hk with h4 | h4
    · exact h.gg k h4
    · exact .inr (Nat.le_trans hs h4)

/-- A block that is none of theirs stays. -/
theorem Hd.blk (h : Hd R base w0 wb w p t F0 G0 F G N L1 L2) {b : Nat} {o : Obj} (hb : wb.heap[b]? = some o) (hn : ¬ F0 b ∧ ¬ G0 b) : w.heap[b]? = some o :=
  (h.kp.block b (Array.getElem?_eq_some_iff.1 hb).1 (fun e => e.elim hn.1 hn.2)).trans hb

/-- An iterator that leans on other blocks stays. -/
theorem Hd.iter (h : Hd R base w0 wb w p t F0 G0 F G N L1 L2) {fv : Value} {X : Nat → Prop} {M : List It} (hi : IterH wb fv X M) (hn : ∀ b, X b → ¬ F0 b ∧ ¬ G0 b) : IterH w fv X M :=
  hi.keep h.kp (fun b hb e => e.elim (hn b hb).1 (hn b hb).2)
end

set_option maxRecDepth 100000 in
set_option maxHeartbeats 4000000 in
theorem asked_any {R : RepHT} (C : HeapC R) (base : Nat) (w0 w : World) (p t : Nat) (F G : Nat → Prop) (N : Int) (L : List It) (i : Int) (h : Hp R base w0 w p t F G N L L) :
    Calls Tryd.prog 17 #[ptr p, ptr t, nu i] w fun e w' => e = .returned (.bool true) ∧ Below w.heap.size w w' := by
  have HB : Hid (∀ wx, Below w.heap.size w wx → Hp R base w0 wx p t F G N L L) := fun wx hb => h.below C hb
  have c1 : Hid (∀ wx, Below w.heap.size w wx → Calls Tryd.prog 32 #[ptr p] wx fun e w' => e = .returned (.tuple #[nu (fstI L), nu (fstK L), .bool (!L.isEmpty)]) ∧ Below wx.heap.size wx w') := fun wx hb => C.least wx p F N L (HB.out wx hb).rep h.good1 h.few1
  have c2 : Hid (∀ wx, Below w.heap.size w wx → Calls Tryd.prog 33 #[ptr t] wx fun e w' => e = .returned (.tuple #[nu (fstI L), nu (fstK L), .bool (!L.isEmpty)]) ∧ Below wx.heap.size wx w') := fun wx hb => leastH_r base wx t G N L (HB.out wx hb).ref
  have c3 : Hid (∀ wx, Below w.heap.size w wx → Calls Tryd.prog 34 #[ptr p, nu i] wx fun e w' => e = .returned (.tuple #[nu ((keyH L i).getD 0), .bool (keyH L i).isSome]) ∧ Below wx.heap.size wx w') := fun wx hb => C.key wx p F N L i (HB.out wx hb).rep h.good1 h.few1
  have c4 : Hid (∀ wx, Below w.heap.size w wx → Calls Tryd.prog 35 #[ptr t, nu i] wx fun e w' => e = .returned (.tuple #[nu ((keyH L i).getD 0), .bool (keyH L i).isSome]) ∧ Below wx.heap.size wx w') := fun wx hb => keyH_r base wx t G N L i (HB.out wx hb).ref
  obtain ⟨n, hn⟩ : ∃ n, L.length = n := ⟨_, rfl⟩
  have HA : Hid (∀ wx, Below w.heap.size w wx → ∃ a c, wx.cell? ⟨t, 1, none⟩ = some (.slice a n c)) := fun wx hb => by
    obtain ⟨lv, h1, _, _⟩ := (HB.out wx hb).ref
    obtain ⟨a, c, e, _, _⟩ := h1.shape
    exact ⟨a, c, by rw [h1.cells.2.1, e, hn]⟩
  have c5 : Hid (∀ wx, Below w.heap.size w wx → Calls Tryd.prog 36 #[ptr p] wx fun e w' => e = .returned (nun n) ∧ Below wx.heap.size wx w') := fun wx hb => by
    have := C.len wx p F N L (HB.out wx hb).rep
    rwa [hn] at this
  have HCE : Hid (∀ wx wy a c, Below w.heap.size w wx → wx.cell? ⟨t, 1, none⟩ = some (.slice a n c) → Below wx.heap.size wx wy → wy.cell? ⟨t, 1, none⟩ = some (.slice a n c)) := fun wx wy a c h1 h2 h3 => by
    obtain ⟨ob, ho, _⟩ := cells_of_cell h2
    have hl := (Array.getElem?_eq_some_iff.1 ho).1
    unfold World.cell? at h2 ⊢
    rw [h3.block t hl]
    exact h2
  generalize fstI L = a1 at *
  generalize fstK L = a2 at *
  generalize (!L.isEmpty) = a3 at *
  generalize (keyH L i).getD 0 = a4 at *
  generalize (keyH L i).isSome = a5 at *
  clear h HB hn
  go_enter Tryd.func17, Tryd.ntmps17
  go_wp2_with fail
  refine (c1.out w (Below.refl _ _)).mono ?_
  rintro e w1 ⟨rfl, hb1⟩
  have b1 := Hid.mk' hb1
  go_wp2_with fail
  refine (c2.out w1 b1.out).mono ?_
  rintro e w2 ⟨rfl, hb2⟩
  have b2 := Hid.mk' (hb1.trans (hb2.mono hb1.size))
  clear hb1 hb2
  go_wp2_with fail
  refine (c3.out w2 b2.out).mono ?_
  rintro e w3 ⟨rfl, hb3⟩
  have b3 := Hid.mk' (b2.out.trans (hb3.mono b2.out.size))
  clear hb3
  go_wp2_with fail
  refine (c4.out w3 b3.out).mono ?_
  rintro e w4 ⟨rfl, hb4⟩
  have b4 := Hid.mk' (b3.out.trans (hb4.mono b3.out.size))
  clear hb4
  obtain ⟨ra, rc, hr⟩ := HA.out w4 b4.out
  have c6 : Hid (Calls Tryd.prog 36 #[ptr p] w4.drew fun e w' => e = .returned (nun n) ∧ w'.cell? ⟨t, 1, none⟩ = some (.slice ra n rc) ∧ Hid (Below w.heap.size w w')) := by
    have hb5 : Below w.heap.size w w4.drew := b4.out.drew
    refine (c5.out w4.drew hb5).mono ?_
    rintro e w' ⟨rfl, hb⟩
    exact ⟨rfl, HCE.out w4.drew w' ra rc hb5 hr hb, hb5.trans (hb.mono hb5.size)⟩
  have HRD : Hid (w4.drew.cell? ⟨t, 1, none⟩ = some (.slice ra n rc)) := hr
  clear c1 c2 c3 c4 c5 b1 b2 b3 HA HCE
  go_wp2_with fail
  go_region_held3 (fun w' => w'.cell? ⟨t, 1, none⟩ = some (.slice ra n rc)) (first | assumption | exact HRD.out | exact hs5 | fail) (first | (go_at_call 36; with_reducible refine c6.out.mono ?_; rintro e w5 ⟨rfl, hs5, HB5⟩) | fail)
  go_wp2
  go_ret
  exact ⟨by simp, HB5.out⟩
end Hh
end Go.Proofs.YteclbmmhidmklaaDoor
