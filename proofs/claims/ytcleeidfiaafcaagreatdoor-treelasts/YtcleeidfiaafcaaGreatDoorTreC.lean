import Derived.Test.YtcleeidfiaafcaaGreatDoorTrM
import Derived.Test.YtcleeidfiaafcaaGreatDoorTreT
import Derived.Test.YtcleeidfiaafcaaGreatDoorRngC
/- What the program's trees must answer; both sides' trees side by side. -/
namespace Go.Proofs.YtcleeidfiaafcaaGreatDoor
set_option linter.ambiguousOpen false
open Go.RowKit
namespace Tr
open An Rg Ft Lv
set_option linter.unusedSimpArgs false
set_option linter.unusedVariables false

/-- How a tree (at q) over an arena (at p) lies: slots, free ones, writes; the last one of the roots. -/
@[reducible] def RepTy : Type := World → Nat → Nat → (Nat → Prop) → Arn → Int → Prop

/-- The arena of such a tree. -/
@[reducible] def RepTy.ar (R : RepTy) (q : Nat) (l : Int) : World → Nat → (Nat → Prop) → Arn → Prop := fun w p F A => R w p q F A l

/-- What a call leaves of a tree. -/
def LeftT (R : RepTy) (w w' : World) (p q : Nat) (F : Nat → Prop) (A : Arn) (l : Int) : Prop := ∃ G, R w' p q G A l ∧ Keep F w w' ∧ Goes w F G

/-- What the program must answer, call by call. -/
structure TreeC (Rep : World → Nat → (Nat → Prop) → Arn → Prop) (R : RepTy) : Prop where
  keep : ∀ q l, KeepC (R.ar q l)
  get : ∀ q l, GetC (R.ar q l)
  put : ∀ q l, PutC (R.ar q l)
  new : ∀ (w : World) (p : Nat) (F : Nat → Prop) (A : Arn), Rep w p F A → An.Good A → Calls Tryz.prog 6 #[ptr p] w fun e w' => ∃ q G, e = .returned (ptr q) ∧ R w' p q G A (-1) ∧ (∀ k, G k → F k ∨ w.heap.size ≤ k) ∧ Below w.heap.size w w'
  add : ∀ (w : World) (p q : Nat) (F : Nat → Prop) (A : Arn) (l i us ub : Int), R w p q F A l → An.Good A → A.wr ≤ 999999980 → I64 i → I64 us → I64 ub → Calls Tryz.prog 24 #[ptr q, nu i, lkU us ub] w fun e w' => e = .returned (errP (addT A.sl l i us ub).no (addT A.sl l i us ub).pl) ∧ ∃ n, n ≤ 8 ∧ ((addT A.sl l i us ub).no ≠ 0 → n = 0) ∧ LeftT R w w' p q F ⟨(addT A.sl l i us ub).sl, A.fr, A.wr + n⟩ (addT A.sl l i us ub).last
  cut : ∀ (w : World) (p q : Nat) (F : Nat → Prop) (A : Arn) (l i : Int), R w p q F A l → An.Good A → A.wr ≤ 999999980 → I64 i → Calls Tryz.prog 27 #[ptr q, nu i] w fun e w' => e = .returned (errP (cutT A.sl l i).no (cutT A.sl l i).pl) ∧ ∃ n, n ≤ 8 ∧ ((cutT A.sl l i).no ≠ 0 → n = 0) ∧ LeftT R w w' p q F ⟨(cutT A.sl l i).sl, A.fr, A.wr + n⟩ (cutT A.sl l i).last
  last : ∀ (w : World) (p q : Nat) (F : Nat → Prop) (A : Arn) (l : Int), R w p q F A l → Calls Tryz.prog 11 #[ptr q] w fun e w' => e = .returned (nu l) ∧ Below w.heap.size w w'
  roots : ∀ (w : World) (p q : Nat) (F : Nat → Prop) (A : Arn) (l : Int), R w p q F A l → An.Good A → Calls Tryz.prog 14 #[ptr q] w fun e w' => ∃ fv X, e = .returned fv ∧ IterA w' fv X (allL A.sl l) ∧ (∀ b, X b → w.heap.size ≤ b) ∧ Below w.heap.size w w'
  kids : ∀ (w : World) (p q : Nat) (F : Nat → Prop) (A : Arn) (l i : Int), R w p q F A l → An.Good A → I64 i → Calls Tryz.prog 18 #[ptr q, nu i] w fun e w' => ∃ fv X, e = .returned fv ∧ IterA w' fv X (kidsL A.sl i) ∧ (∀ b, X b → w.heap.size ≤ b) ∧ Below w.heap.size w w'
  under : ∀ (w : World) (p q : Nat) (F : Nat → Prop) (A : Arn) (l i : Int), R w p q F A l → An.Good A → I64 i → Calls Tryz.prog 16 #[ptr q, nu i] w fun e w' => ∃ fv X, e = .returned fv ∧ IterA w' fv X (undL A.sl i) ∧ (∀ b, X b → w.heap.size ≤ b) ∧ Below w.heap.size w w'

/-- And how often slots were written. -/
structure TreeCW (Rep : World → Nat → (Nat → Prop) → Arn → Prop) (R : RepTy) : Prop extends TreeC Rep R where
  writes : ∀ q l, WritesC (R.ar q l)

/-! ### Errors, slots -/

set_option maxRecDepth 100000 in
theorem told17 (no : Nat) (pl : Int) (h : no ≤ 24) (h1 : 0 ≤ pl → 1 ≤ no) (w : World) (hg : Er.Handle w) :
    Calls Tryz.prog 25 #[errP no pl, nun no, nu pl] w fun e w' => e = .returned (.bool true) ∧ Below w.heap.size w w' := by
  unfold errP
  by_cases hp : pl < 0
  · rw [if_pos hp]
    have c1 := Hid.mk' (plainA no h w hg)
    generalize errE no = ev at *
    clear hg h1
    go_enter Tryz.func25, Tryz.ntmps25
    go_wp2_with fail
    refine c1.out.mono ?_
    rintro e w1 ⟨rfl, hb⟩
    have HB := Hid.mk' hb
    clear hb
    go_wp2
    go_ret
    exact ⟨rfl, HB.out⟩
  · rw [if_neg hp]
    have c1 := Hid.mk' (Er.at_at no pl (h1 (by omega)) h w hg)
    unfold Er.atV at c1
    clear hg h1
    go_enter Tryz.func25, Tryz.ntmps25
    go_wp2_with fail
    refine c1.out.mono ?_
    rintro e w1 ⟨rfl, hb⟩
    have HB := Hid.mk' hb
    clear hb
    go_wp2
    go_ret
    exact ⟨rfl, HB.out⟩

theorem at_in (A : Arn) (k : Nat) (h : k < 32) : A.at k = A.sl.getD k bare ∧ Arn.atE k = 0 := Rg.at_in A k h

set_option maxRecDepth 100000 in
set_option maxHeartbeats 2000000 in
theorem same17 {Rep : World → Nat → (Nat → Prop) → Arn → Prop} (H : KeepC Rep) (CG : GetC Rep) (base : Nat) (w : World) (p g : Nat) (F G : Nat → Prop) (A1 A2 : Arn) (h : Rep w p F A1) (hr : RepA base w g G A2) (hg : An.Good A1) (hs : A1.sl = A2.sl) :
    Calls Tryz.prog 12 #[ptr p, ptr g] w fun e w' => e = .returned (.bool true) ∧ Below w.heap.size w w' := by
  have hl2 : A2.sl.length = 32 := by rw [← hs]; exact hg.len
  obtain ⟨b, cap, fv, hRA, ⟨hc1, hc2⟩, _, _⟩ := RepA.open hr hl2
  have cG : Hid (∀ wx (k : Nat), k < 32 → Below w.heap.size w wx → Calls Tryz.prog 31 #[ptr p, nu k] wx fun e w' => e = .returned (.tuple #[(A2.sl.getD k bare).v, .nilIface]) ∧ Below wx.heap.size wx w') := fun wx k hk hb => by
    have := CG wx p F A1 k (H.below h hb) hg (by omega)
    rw [(at_in A1 k hk).1, (at_in A1 k hk).2, hs] at this
    exact this
  have HR : Hid (∀ wx, Below w.heap.size w wx → wx.cell? ⟨g, 0, none⟩ = some (.slice (some ⟨b, 0, none⟩) 32 cap) ∧ ∀ k : Nat, k < 32 → wx.rangeAt b (k * 17) (A2.sl.getD k bare).cells) := fun wx hb => by
    have hx := hRA.below hb
    refine ⟨hx.cells.1, fun k hk => ?_⟩
    obtain ⟨b', cap', e, _, _, hr', _⟩ := hx.slot hl2 k hk
    simp only [Value.slice.injEq, Option.some.injEq, Addr.mk.injEq, and_true, true_and] at e
    obtain ⟨rfl, rfl⟩ := e
    exact hr'
  clear H CG h hr hg hs hRA hl2
  go_enter Tryz.func12, Tryz.ntmps12
  go_wp2
  go_loopw [5] (fun iv wr => ∃ k : Nat, k ≤ 32 ∧ iv = nun k ∧ Hid (Below w.heap.size w wr)) (fun iv _ => 32 - (intOf iv).toNat)
  case atStart => exact ⟨0, by omega, rfl, Below.refl _ _⟩
  case round =>
    obtain ⟨k, hk, rfl, HB⟩ := hrel
    by_cases hlt : k < 32
    · have hkI : (k : Int) < 32 := by omega
      have c1 := Hid.mk' (cG.out wr k hlt HB.out)
      obtain ⟨x, hx⟩ : ∃ x, A2.sl.getD k bare = x := ⟨_, rfl⟩
      have HRx : Hid (∀ wx, Below w.heap.size w wx → wx.cell? ⟨g, 0, none⟩ = some (.slice (some ⟨b, 0, none⟩) 32 cap) ∧ wx.rangeAt b (k * 17) x.cells) := fun wx hb => ⟨(HR.out wx hb).1, by rw [← hx]; exact (HR.out wx hb).2 k hlt⟩
      rw [hx] at c1
      have hnq := neq_self x
      clear hx
      go_wp2_with fail
      refine c1.out.mono ?_
      rintro e w3 ⟨rfl, hb3⟩
      have HB3 : Hid (Below w.heap.size w w3) := HB.out.trans (hb3.mono HB.out.size)
      have HZ3 := Hid.mk' (lone_zero w3)
      clear hb3 c1
      go_wp2_with (first | (refine wpList_store_lone rfl _ _ rfl w3.heap.size rfl x rfl slt0 HZ3.out ?_; intro w4 hl4 hg4 hs4; have HL4 := Hid.mk' hl4; have HB4 : Hid (Below w.heap.size w w4) := ((HB3.out.alloc HB3.out.size _).grown hg4 (HB3.out.alloc HB3.out.size _).size (fun r e => by cases e; exact HB3.out.size)); clear hl4 hg4 hs4) | fail)
      have hS4 : Lone w4 w3.heap.size x ∧ w4.cell? ⟨g, 0, none⟩ = some (.slice (some ⟨b, 0, none⟩) 32 cap) ∧ w4.rangeAt b (k * 17) x.cells := ⟨HL4.out, HRx.out w4 HB4.out⟩
      refine wp_region_held_drew (S := fun w' => Lone w' w3.heap.size x ∧ w'.cell? ⟨g, 0, none⟩ = some (.slice (some ⟨b, 0, none⟩) 32 cap) ∧ w'.rangeAt b (k * 17) x.cells) (by kernel_rfl) hS4 (fun hHeld => ?_)
      refine wpAnyH_take (i := 0) (v := ?_) rfl (by kernel_rfl) (by kernel_rfl) (by kernel_rfl) (fun _ _ _ h => h) (Or.inl ⟨by rfl, ?_⟩) hHeld ?_
      rotate_left
      · (intro w' hS'; go_simp <;> with_reducible rfl)
      simp only [Act.put, List.getElem_toArray, List.getElem_cons_succ, List.getElem_cons_zero, List.setIfInBounds_toArray, List.set]
      refine wpAnyH_take (i := 1) (v := ?_) rfl (by kernel_rfl) (by kernel_rfl) (by kernel_rfl) (fun _ _ _ h => h) (Or.inl ⟨by rfl, ?_⟩) hHeld ?_
      rotate_left
      · (intro w' hS'; go_simp <;> with_reducible rfl)
      simp only [Act.put, List.getElem_toArray, List.getElem_cons_succ, List.getElem_cons_zero, List.setIfInBounds_toArray, List.set]
      refine wpAnyH_take (i := 2) (v := ?_) rfl (by kernel_rfl) (by kernel_rfl) (by kernel_rfl) (fun _ _ _ h => h) (Or.inl ⟨by rfl, ?_⟩) hHeld ?_
      rotate_left
      · (intro w' hS'; go_simp <;> with_reducible rfl)
      simp only [Act.put, List.getElem_toArray, List.getElem_cons_succ, List.getElem_cons_zero, List.setIfInBounds_toArray, List.set]
      refine wpAnyH_take (i := 3) (v := _) rfl (by kernel_rfl) (by kernel_rfl) (by kernel_rfl) (fun _ _ _ h => h) (yieldsIf_load_mid (by rfl) 40 _ rfl w3.heap.size 0 rfl x.cells _ (fun w' h => h.1.range) Tryz.underlying40 rfl size_slt) hHeld ?_
      simp only [Act.put, List.getElem_toArray, List.getElem_cons_succ, List.getElem_cons_zero, List.setIfInBounds_toArray, List.set]
      refine wpAnyH_take (i := 4) (v := ?_) rfl (by kernel_rfl) (by kernel_rfl) (by kernel_rfl) (fun _ _ _ h => h) (Or.inl ⟨by rfl, ?_⟩) hHeld ?_
      rotate_left
      · (intro w' hS'; go_simp <;> with_reducible rfl)
      simp only [Act.put, List.getElem_toArray, List.getElem_cons_succ, List.getElem_cons_zero, List.setIfInBounds_toArray, List.set]
      refine wpAnyH_take (i := 5) (v := ?_) rfl (by kernel_rfl) (by kernel_rfl) (by kernel_rfl) (fun _ _ _ h => h) (Or.inl ⟨by rfl, ?_⟩) hHeld ?_
      rotate_left
      · (intro w' hS'; go_simp <;> with_reducible rfl)
      simp only [Act.put, List.getElem_toArray, List.getElem_cons_succ, List.getElem_cons_zero, List.setIfInBounds_toArray, List.set]
      refine wpAnyH_take (i := 6) (v := ?_) rfl (by kernel_rfl) (by kernel_rfl) (by kernel_rfl) (fun _ _ _ h => h) (Or.inl ⟨by rfl, ?_⟩) hHeld ?_
      rotate_left
      · (intro w' hS'; go_simp <;> with_reducible rfl)
      simp only [Act.put, List.getElem_toArray, List.getElem_cons_succ, List.getElem_cons_zero, List.setIfInBounds_toArray, List.set]
      refine wpAnyH_take (i := 7) (v := ?_) rfl (by kernel_rfl) (by kernel_rfl) (by kernel_rfl) (fun _ _ _ h => h) (Or.inl ⟨by rfl, ?_⟩) hHeld ?_
      rotate_left
      · (intro w' hS'; go_simp <;> with_reducible rfl)
      simp only [Act.put, List.getElem_toArray, List.getElem_cons_succ, List.getElem_cons_zero, List.setIfInBounds_toArray, List.set]
      refine wpAnyH_take (i := 8) (v := ?_) rfl (by kernel_rfl) (by kernel_rfl) (by kernel_rfl) (fun _ _ _ h => h) (Or.inl ⟨by rfl, ?_⟩) hHeld ?_
      rotate_left
      · (intro w' hS'; go_simp <;> with_reducible rfl)
      simp only [Act.put, List.getElem_toArray, List.getElem_cons_succ, List.getElem_cons_zero, List.setIfInBounds_toArray, List.set]
      refine wpAnyH_take (i := 9) (v := ?_) rfl (by kernel_rfl) (by kernel_rfl) (by kernel_rfl) (fun _ _ _ h => h) (Or.inl ⟨by rfl, ?_⟩) hHeld ?_
      rotate_left
      · (intro w' hS'; go_simp <;> with_reducible rfl)
      simp only [Act.put, List.getElem_toArray, List.getElem_cons_succ, List.getElem_cons_zero, List.setIfInBounds_toArray, List.set]
      refine wpAnyH_take (i := 10) (v := _) rfl (by kernel_rfl) (by kernel_rfl) (by kernel_rfl) (fun _ _ _ h => h) (yieldsIf_load_mid (by rfl) 40 _ rfl b (k * 17) rfl x.cells _ (fun w' h => h.2.2) Tryz.underlying40 rfl size_slt) hHeld ?_
      simp only [Act.put, List.getElem_toArray, List.getElem_cons_succ, List.getElem_cons_zero, List.setIfInBounds_toArray, List.set]
      refine wpAnyH_take (i := 11) (v := ?_) rfl (by kernel_rfl) (by kernel_rfl) (by kernel_rfl) (fun _ _ _ h => h) (Or.inl ⟨by rfl, ?_⟩) hHeld ?_
      rotate_left
      · (intro w' hS'; go_simp <;> with_reducible rfl)
      simp only [Act.put, List.getElem_toArray, List.getElem_cons_succ, List.getElem_cons_zero, List.setIfInBounds_toArray, List.set]
      refine wpAnyH_take (i := 12) (v := ?_) rfl (by kernel_rfl) (by kernel_rfl) (by kernel_rfl) (fun _ _ _ h => h) (Or.inl ⟨by rfl, ?_⟩) hHeld ?_
      rotate_left
      · (intro w' hS'; go_simp <;> with_reducible rfl)
      simp only [Act.put, List.getElem_toArray, List.getElem_cons_succ, List.getElem_cons_zero, List.setIfInBounds_toArray, List.set]
      refine wpAnyH_done (by kernel_rfl) ?_ _
      have HB5 : Hid (Below w.heap.size w w4.drew) := HB4.out.drew
      generalize w4.drew = w5 at *
      clear hHeld hS4
      go_wp2
      go_roundw
      case rel => exact ⟨k + 1, by omega, by go_num, HB5⟩
      case measure => simp [intOf]; omega
    · obtain rfl : k = 32 := by omega
      go_wp2
      go_ret
      exact ⟨rfl, HB.out⟩

/-! ### The document's tree -/

/-- How it lies. -/
def RepD (base : Nat) (w : World) (t g : Nat) (G : Nat → Prop) (A : Arn) (l : Int) : Prop := ∃ sv fv, RTr base w t g sv fv A l ∧ G = tfp t g sv fv ∧ base ≤ w.heap.size

section
variable {base : Nat} {w w' : World} {t g : Nat} {F G : Nat → Prop} {A : Arn} {l : Int}

theorem RepD.keep (h : RepD base w t g F A l) (hk : Keep G w w') (hn : ∀ k, F k → ¬ G k) : RepD base w' t g F A l := by
  obtain ⟨sv, fv, h1, rfl, h3⟩ := h
  exact ⟨sv, fv, h1.keep hk hn, rfl, Nat.le_trans h3 hk.size⟩

theorem RepD.below (h : RepD base w t g F A l) (hb : Below w.heap.size w w') : RepD base w' t g F A l := h.keep (Keep.of_below (F := fun _ => False) hb) (fun _ _ h => h)

theorem RepD.lt (h : RepD base w t g F A l) (k : Nat) (hk : F k) : base ≤ k ∧ k < w.heap.size := by
  obtain ⟨sv, fv, h1, rfl, h3⟩ := h
  rcases hk with rfl | hk
  · exact ⟨h1.lo, h1.tlt⟩
  · exact h1.ar.lt k hk

theorem RepD.open (h : RepD base w t g F A l) (hl : A.sl.length = 32) : ∃ b cap fv, RTr base w t g (.slice (some ⟨b, 0, none⟩) 32 cap) fv A l ∧ (32 ≤ cap ∧ cap ≤ 9223372036854775807) ∧ F = tfp t g (.slice (some ⟨b, 0, none⟩) 32 cap) fv ∧ base ≤ w.heap.size := by
  obtain ⟨sv, fv, h1, h2, h3⟩ := h
  obtain ⟨b, cap, rfl, hc1, hc2, _, _⟩ := h1.ar.slot hl 0 (by omega)
  unfold maxLen at hc2
  exact ⟨b, cap, fv, h1, ⟨hc1, by omega⟩, h2, h3⟩

/-- Its arena. -/
theorem RepD.arena (h : RepD base w t g F A l) : ∃ Ga, RepA base w g Ga A ∧ ¬ Ga t ∧ (∀ k, F k ↔ k = t ∨ Ga k) := by
  obtain ⟨sv, fv, h1, rfl, h3⟩ := h
  exact ⟨rfp g sv fv, ⟨sv, fv, h1.ar, rfl, h3⟩, h1.nt, fun k => Iff.rfl⟩
end

/-- What a call leaves of it. -/
def LeftD (base : Nat) (w w' : World) (t g : Nat) (F : Nat → Prop) (A : Arn) (l : Int) : Prop := ∃ G, RepD base w' t g G A l ∧ Keep F w w' ∧ Goes w F G

theorem leftD_of {base : Nat} {w w' : World} {t g b cap : Nat} {fv : Value} {A : Arn} {l : Int} (h : RTr base w' t g (.slice (some ⟨b, 0, none⟩) 32 cap) fv A l) (hb : base ≤ w.heap.size) (hk : Keep (fun j => j = t ∨ j = b) w w') : LeftD base w w' t g (tfp t g (.slice (some ⟨b, 0, none⟩) 32 cap) fv) A l :=
  ⟨_, ⟨_, _, h, rfl, Nat.le_trans hb hk.size⟩, hk.weaken (fun k _ e => e.elim .inl (fun e => .inr (.inr (.inl (by rw [e]; rfl))))), Goes.refl _ _⟩

theorem add_r (base : Nat) (w : World) (t g : Nat) (F : Nat → Prop) (A : Arn) (l i us ub : Int) (h : RepD base w t g F A l) (hl : A.sl.length = 32) :
    Calls Tryz.prog 23 #[ptr t, nu i, lkU us ub] w fun e w' => e = .returned (.tuple #[nun (addT A.sl l i us ub).no, nu (addT A.sl l i us ub).pl]) ∧ LeftD base w w' t g F ⟨(addT A.sl l i us ub).sl, A.fr, A.wr⟩ (addT A.sl l i us ub).last := by
  obtain ⟨b, cap, fv, h1, hc, rfl, h3⟩ := h.open hl
  refine (add_ref base w t g b cap fv A l i us ub h1 hl hc).mono ?_
  rintro e w' ⟨rfl, h4, h5⟩
  exact ⟨rfl, leftD_of h4 h3 h5⟩

theorem cut_r (base : Nat) (w : World) (t g : Nat) (F : Nat → Prop) (A : Arn) (l i : Int) (h : RepD base w t g F A l) (hl : A.sl.length = 32) :
    Calls Tryz.prog 26 #[ptr t, nu i] w fun e w' => e = .returned (.tuple #[nun (cutT A.sl l i).no, nu (cutT A.sl l i).pl]) ∧ LeftD base w w' t g F ⟨(cutT A.sl l i).sl, A.fr, A.wr⟩ (cutT A.sl l i).last := by
  obtain ⟨b, cap, fv, h1, hc, rfl, h3⟩ := h.open hl
  refine (cut_ref base w t g b cap fv A l i h1 hl hc).mono ?_
  rintro e w' ⟨rfl, h4, h5⟩
  exact ⟨rfl, leftD_of h4 h3 h5⟩

theorem roots_r (base : Nat) (w : World) (t g : Nat) (F : Nat → Prop) (A : Arn) (l : Int) (h : RepD base w t g F A l) (hl : A.sl.length = 32) :
    Calls Tryz.prog 15 #[ptr t] w fun e w' => ∃ v, e = .returned v ∧ w'.ownsRow w.heap.size 3 1 v (allL A.sl l).length ((allL A.sl l).map nun) ∧ Below w.heap.size w w' := by
  obtain ⟨b, cap, fv, h1, hc, rfl, h3⟩ := h.open hl
  exact roots_ref base w t g b cap fv A l h1 hl hc

theorem kids_r (base : Nat) (w : World) (t g : Nat) (F : Nat → Prop) (A : Arn) (l i : Int) (h : RepD base w t g F A l) (hl : A.sl.length = 32) :
    Calls Tryz.prog 19 #[ptr t, nu i] w fun e w' => ∃ v, e = .returned v ∧ w'.ownsRow w.heap.size 3 1 v (kidsL A.sl i).length ((kidsL A.sl i).map nun) ∧ Below w.heap.size w w' := by
  obtain ⟨b, cap, fv, h1, hc, rfl, h3⟩ := h.open hl
  exact kids_ref base w t g b cap fv A l i h1 hl hc

theorem under_r (base : Nat) (w : World) (t g : Nat) (F : Nat → Prop) (A : Arn) (l i : Int) (h : RepD base w t g F A l) (hl : A.sl.length = 32) :
    Calls Tryz.prog 17 #[ptr t, nu i] w fun e w' => ∃ v, e = .returned v ∧ w'.ownsRow w.heap.size 3 1 v (undL A.sl i).length ((undL A.sl i).map nun) ∧ Below w.heap.size w w' := by
  obtain ⟨b, cap, fv, h1, hc, rfl, h3⟩ := h.open hl
  exact underT_ref base w t g b cap fv A l i h1 hl hc

/-- Put on the document's arena. -/
theorem putD (base : Nat) (w : World) (t g : Nat) (F : Nat → Prop) (A : Arn) (l i : Int) (s : Slt) (h : RepD base w t g F A l) (hg : An.Good A) (hwr : A.wr ≤ 1000000000) :
    Calls Tryz.prog 30 #[ptr g, nu i, s.v] w fun e w' => e = .returned (nun (A.put i s).1) ∧ LeftD base w w' t g F (A.put i s).2 l := by
  obtain ⟨sv, fv, h1, rfl, h3⟩ := h
  refine (put_r base w g (rfp g sv fv) A i s ⟨sv, fv, h1.ar, rfl, h3⟩ hg hwr).mono ?_
  rintro e w' ⟨rfl, G, h4, h5, h6⟩
  refine ⟨rfl, fun k => k = t ∨ G k, ?_, h5.weaken (fun k _ e => .inr e), fun k hk => ?_⟩
  · obtain ⟨sv', fv', g1, rfl, g3⟩ := h4
    exact ⟨sv', fv', ⟨(h5.block t h1.tlt h1.nt).trans h1.tr, g1, h1.lo⟩, rfl, g3⟩
  · rcases hk with e | e
    · exact .inl (.inl e)
    · exact (h6 k e).imp .inr id
end Tr
end Go.Proofs.YtcleeidfiaafcaaGreatDoor
