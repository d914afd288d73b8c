import Derived.Test.YthabnombfbehkaaGreatDoorSwM
import Derived.Test.YthabnombfbehkaaGreatDoorRngC
/- What the program's garbage must answer; the document's, as it lies. -/
namespace Go.Proofs.YthabnombfbehkaaGreatDoor
set_option linter.ambiguousOpen false
open Go.RowKit
namespace Sw
open An Rg Ft Lv
set_option linter.unusedSimpArgs false
set_option linter.unusedVariables false

/-- How garbage (at q) over an arena (at p) lies: slots, free ones, writes; the last one of its ring. -/
@[reducible] def RepTy : Type := World → Nat → Nat → (Nat → Prop) → Arn → Int → Prop

/-- Its arena. -/
@[reducible] def RepTy.ar (R : RepTy) (q : Nat) (l : Int) : World → Nat → (Nat → Prop) → Arn → Prop := fun w p F A => R w p q F A l

/-- What a call leaves of it. -/
def LeftT (R : RepTy) (w w' : World) (p q : Nat) (F : Nat → Prop) (A : Arn) (l : Int) : Prop := ∃ G, R w' p q G A l ∧ Keep F w w' ∧ Goes w F G

/-- What All must answer. -/
def AllG (R : RepTy) : Prop := ∀ (w : World) (p q : Nat) (F : Nat → Prop) (A : Arn) (l : Int), R w p q F A l → An.Good A → okL l → Calls Tryz.prog 33 #[ptr q] w fun e w' => ∃ fv X, e = .returned fv ∧ IterA w' fv X (allG A.sl l) ∧ (∀ b, X b → w.heap.size ≤ b) ∧ Below w.heap.size w w'

/-- What the program must answer, call by call. -/
structure SweepC (Rep : World → Nat → (Nat → Prop) → Arn → Prop) (R : RepTy) : Prop where
  keep : ∀ q l, KeepC (R.ar q l)
  get : ∀ q l, GetC (R.ar q l)
  put : ∀ q l, PutC (R.ar q l)
  take : ∀ q l, TakeC (R.ar q l)
  frees : ∀ q l, FreesC (R.ar q l)
  writes : ∀ q l, WritesC (R.ar q l)
  new : ∀ (w : World) (p : Nat) (F : Nat → Prop) (A : Arn), Rep w p F A → An.Good A → Calls Tryz.prog 7 #[ptr p] w fun e w' => ∃ q G, e = .returned (ptr q) ∧ R w' p q G A (-1) ∧ (∀ k, G k → F k ∨ w.heap.size ≤ k) ∧ Below w.heap.size w w'
  add : ∀ (w : World) (p q : Nat) (F : Nat → Prop) (A : Arn) (l i : Int), R w p q F A l → An.Good A → okL l → A.wr ≤ 999999980 → I64 i → Calls Tryz.prog 25 #[ptr q, nu i] w fun e w' => e = .returned (errP (addG A.sl l i).no (addG A.sl l i).pl) ∧ ∃ n, n ≤ 3 ∧ ((addG A.sl l i).no ≠ 0 → n = 0) ∧ LeftT R w w' p q F ⟨(addG A.sl l i).sl, A.fr, A.wr + n⟩ (addG A.sl l i).last
  unit : ∀ (w : World) (p q : Nat) (F : Nat → Prop) (A : Arn) (l : Int), R w p q F A l → An.Good A → okL l → A.wr ≤ 999999980 → Calls Tryz.prog 28 #[ptr q] w fun e w' => e = .returned (.tuple #[nun (unitG A.sl A.fr l).f, .bool (unitG A.sl A.fr l).ok]) ∧ ∃ n, n ≤ 8 ∧ LeftT R w w' p q F ⟨(unitG A.sl A.fr l).sl, (unitG A.sl A.fr l).fr, A.wr + n⟩ (unitG A.sl A.fr l).last
  last : ∀ (w : World) (p q : Nat) (F : Nat → Prop) (A : Arn) (l : Int), R w p q F A l → Calls Tryz.prog 14 #[ptr q] w fun e w' => e = .returned (nu l) ∧ Below w.heap.size w w'
  all : AllG R

/-! ### Errors -/

set_option maxRecDepth 100000 in
theorem told19 (no : Nat) (pl : Int) (h : no ≤ 24) (h1 : 0 ≤ pl → 1 ≤ no) (w : World) (hg : Er.Handle w) :
    Calls Tryz.prog 26 #[errP no pl, nun no, nu pl] w fun e w' => e = .returned (.bool true) ∧ Below w.heap.size w w' := by
  unfold errP
  by_cases hp : pl < 0
  · rw [if_pos hp]
    have c1 := Hid.mk' (plainA no h w hg)
    generalize errE no = ev at *
    clear hg h1
    go_enter Tryz.func26, Tryz.ntmps26
    go_wp2_with fail
    refine c1.out.mono ?_
    rintro e w1 ⟨rfl, hb⟩
    have HB := Hid.mk' hb
    clear hb
    go_wp2
    go_ret
    exact ⟨rfl, HB.out⟩
  · rw [if_neg hp]
    have c1 := Hid.mk' (Er.at_at no pl (h1 (by omega)) h w hg)
    unfold Er.atV at c1
    clear hg h1
    go_enter Tryz.func26, Tryz.ntmps26
    go_wp2_with fail
    refine c1.out.mono ?_
    rintro e w1 ⟨rfl, hb⟩
    have HB := Hid.mk' hb
    clear hb
    go_wp2
    go_ret
    exact ⟨rfl, HB.out⟩

theorem at_in (A : Arn) (k : Nat) (h : k < 32) : A.at k = A.sl.getD k bare ∧ Arn.atE k = 0 := Rg.at_in A k h

/-! ### The document's garbage -/

section
variable {base : Nat} {w w' : World} {t g : Nat} {F G : Nat → Prop} {A : Arn} {l : Int}

theorem RepG.keep (h : RepG base w t g F A l) (hk : Keep G w w') (hn : ∀ k, F k → ¬ G k) : RepG base w' t g F A l := by
  obtain ⟨sv, fv, h1, rfl, h3⟩ := h
  exact ⟨sv, fv, h1.keep hk hn, rfl, Nat.le_trans h3 hk.size⟩

theorem RepG.below (h : RepG base w t g F A l) (hb : Below w.heap.size w w') : RepG base w' t g F A l := h.keep (Keep.of_below (F := fun _ => False) hb) (fun _ _ h => h)

theorem RepG.lt (h : RepG base w t g F A l) (k : Nat) (hk : F k) : base ≤ k ∧ k < w.heap.size := by
  obtain ⟨sv, fv, h1, rfl, h3⟩ := h
  rcases hk with rfl | hk
  · exact ⟨h1.lo, h1.tlt⟩
  · exact h1.ar.lt k hk

theorem RepG.open (h : RepG base w t g F A l) (hl : A.sl.length = 32) : ∃ b cap fv, RGb base w t g (.slice (some ⟨b, 0, none⟩) 32 cap) fv A l ∧ (32 ≤ cap ∧ cap ≤ 9223372036854775807) ∧ F = gfp t g (.slice (some ⟨b, 0, none⟩) 32 cap) fv ∧ base ≤ w.heap.size := by
  obtain ⟨sv, fv, h1, h2, h3⟩ := h
  obtain ⟨b, cap, rfl, hc1, hc2, _, _⟩ := h1.ar.slot hl 0 (by omega)
  unfold maxLen at hc2
  exact ⟨b, cap, fv, h1, ⟨hc1, by omega⟩, h2, h3⟩

/-- Its arena. -/
theorem RepG.arena (h : RepG base w t g F A l) : ∃ Ga, RepA base w g Ga A ∧ ¬ Ga t ∧ (∀ k, F k ↔ k = t ∨ Ga k) := by
  obtain ⟨sv, fv, h1, rfl, h3⟩ := h
  exact ⟨rfp g sv fv, ⟨sv, fv, h1.ar, rfl, h3⟩, h1.nt, fun k => Iff.rfl⟩
end

theorem unit_good {A : Arn} (h : An.Good A) (l : Int) (n : Nat) : An.Good ⟨(unitG A.sl A.fr l).sl, (unitG A.sl A.fr l).fr, n⟩ := by
  refine ⟨(unitG_len A.sl A.fr l).trans h.len, ?_, ?_⟩
  · rcases unitG_fr A.sl A.fr l with e | ⟨f, _, h2, e⟩
    · show (unitG A.sl A.fr l).fr.Nodup
      rw [e]
      exact h.nd
    · show (unitG A.sl A.fr l).fr.Nodup
      rw [e]
      exact List.nodup_cons.2 ⟨h2, h.nd⟩
  · rcases unitG_fr A.sl A.fr l with e | ⟨f, h1, _, e⟩
    · show ∀ i ∈ (unitG A.sl A.fr l).fr, i < 32
      rw [e]
      exact h.lt
    · show ∀ i ∈ (unitG A.sl A.fr l).fr, i < 32
      rw [e]
      intro i hi
      rcases List.mem_cons.1 hi with rfl | hi
      · exact h1
      · exact h.lt i hi

theorem add_good {A : Arn} (h : An.Good A) (l i : Int) (n : Nat) : An.Good ⟨(addG A.sl l i).sl, A.fr, n⟩ := ⟨(addG_len A.sl l i).trans h.len, h.nd, h.lt⟩

theorem addG_r (base : Nat) (w : World) (t g : Nat) (F : Nat → Prop) (A : Arn) (l i : Int) (h : RepG base w t g F A l) (hl : A.sl.length = 32) :
    Calls Tryz.prog 24 #[ptr t, nu i] w fun e w' => e = .returned (.tuple #[nun (addG A.sl l i).no, nu (addG A.sl l i).pl]) ∧ LeftG base w w' t g F ⟨(addG A.sl l i).sl, A.fr, A.wr⟩ (addG A.sl l i).last := by
  obtain ⟨b, cap, fv, h1, hc, rfl, h3⟩ := h.open hl
  refine (addG_ref base w t g b cap fv A l i h1 hl hc).mono ?_
  rintro e w' ⟨rfl, h4, h5⟩
  exact ⟨rfl, leftG_of h4 h3 h5⟩

theorem unitG_r (base : Nat) (w : World) (t g : Nat) (F : Nat → Prop) (A : Arn) (l : Int) (h : RepG base w t g F A l) (hg : An.Good A) (hw : A.wr ≤ 1000000000) (hok : okL l) :
    Calls Tryz.prog 27 #[ptr t] w fun e w' => e = .returned (.tuple #[nun (unitG A.sl A.fr l).f, .bool (unitG A.sl A.fr l).ok]) ∧ ∃ n, n ≤ 1 ∧ LeftG base w w' t g F ⟨(unitG A.sl A.fr l).sl, (unitG A.sl A.fr l).fr, A.wr + n⟩ (unitG A.sl A.fr l).last := by
  obtain ⟨b, cap, fv, h1, hc, rfl, h3⟩ := h.open hg.len
  exact unitG_ref base w t g b cap fv A l h1 hg hc hw hok h3

theorem allG_r (base : Nat) (w : World) (t g : Nat) (F : Nat → Prop) (A : Arn) (l : Int) (h : RepG base w t g F A l) (hl : A.sl.length = 32) :
    Calls Tryz.prog 18 #[ptr t] w fun e w' => ∃ v, e = .returned v ∧ w'.ownsRow w.heap.size 3 1 v (allG A.sl l).length ((allG A.sl l).map nun) ∧ Below w.heap.size w w' := by
  obtain ⟨b, cap, fv, h1, hc, rfl, h3⟩ := h.open hl
  exact allG_ref base w t g b cap fv A l h1 hl hc

/-- Put on the document's arena. -/
theorem putG (base : Nat) (w : World) (t g : Nat) (F : Nat → Prop) (A : Arn) (l i : Int) (s : Slt) (h : RepG base w t g F A l) (hg : An.Good A) (hwr : A.wr ≤ 1000000000) :
    Calls Tryz.prog 30 #[ptr g, nu i, s.v] w fun e w' => e = .returned (nun (A.put i s).1) ∧ LeftG base w w' t g F (A.put i s).2 l := by
  obtain ⟨sv, fv, h1, rfl, h3⟩ := h
  refine (put_r base w g (rfp g sv fv) A i s ⟨sv, fv, h1.ar, rfl, h3⟩ hg hwr).mono ?_
  rintro e w' ⟨rfl, G, h4, h5, h6⟩
  refine ⟨rfl, fun k => k = t ∨ G k, ?_, h5.weaken (fun k _ e => .inr e), fun k hk => ?_⟩
  · obtain ⟨sv', fv', g1, rfl, g3⟩ := h4
    exact ⟨sv', fv', ⟨(h5.block t h1.tlt h1.nt).trans h1.tr, g1, h1.lo⟩, rfl, g3⟩
  · rcases hk with e | e
    · exact .inl (.inl e)
    · exact (h6 k e).imp .inr id

/-- Take on the document's arena. -/
theorem takeG (base : Nat) (w : World) (t g : Nat) (F : Nat → Prop) (A : Arn) (l : Int) (h : RepG base w t g F A l) (hg : An.Good A) :
    Calls Tryz.prog 11 #[ptr g] w fun e w' => e = .returned (.tuple #[nun A.take.2.1, nun A.take.1]) ∧ LeftG base w w' t g F A.take.2.2 l := by
  obtain ⟨sv, fv, h1, rfl, h3⟩ := h
  refine (take_r base w g (rfp g sv fv) A ⟨sv, fv, h1.ar, rfl, h3⟩ hg).mono ?_
  rintro e w' ⟨rfl, G, h4, h5, h6⟩
  refine ⟨rfl, fun k => k = t ∨ G k, ?_, h5.weaken (fun k _ e => .inr e), fun k hk => ?_⟩
  · obtain ⟨sv', fv', g1, rfl, g3⟩ := h4
    exact ⟨sv', fv', ⟨(h5.block t h1.tlt h1.nt).trans h1.tr, g1, h1.lo⟩, rfl, g3⟩
  · rcases hk with e | e
    · exact .inl (.inl e)
    · exact (h6 k e).imp .inr id
end Sw
end Go.Proofs.YthabnombfbehkaaGreatDoor
