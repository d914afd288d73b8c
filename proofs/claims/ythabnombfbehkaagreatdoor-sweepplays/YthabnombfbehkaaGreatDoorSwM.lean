/- SwpR, SwpT, in one text. -/
import Derived.Test.YthabnombfbehkaaGreatDoorRgP
import Derived.Test.YthabnombfbehkaaGreatDoorRgM
import Derived.Test.YthabnombfbehkaaGreatDoorRngC
import Derived.Test.YthabnombfbehkaaGreatDoorArM
import Derived.Test.YthabnombfbehkaaGreatDoorArnA
import Derived.Maps.AppendAt
/- The document's garbage: how it lies; New, Add, Unit. -/
namespace Go.Proofs.YthabnombfbehkaaGreatDoor
set_option linter.ambiguousOpen false
open Go.RowKit
namespace Sw
open An Rg Ft Lv
set_option linter.unusedSimpArgs false
set_option linter.unusedVariables false

/-- It lies in the block t, its arena at g. -/
structure RGb (base : Nat) (w : World) (t g : Nat) (sv fv : Value) (A : Arn) (last : Int) : Prop where
  tr : w.heap[t]? = some (.cells #[ptr g, nu last] 39)
  ar : RAn base w g sv fv A
  lo : base ≤ t

def gfp (t g : Nat) (sv fv : Value) (k : Nat) : Prop := k = t ∨ rfp g sv fv k

section
variable {base : Nat} {w w' : World} {t g b cap : Nat} {sv fv : Value} {A : Arn} {last : Int}

theorem RGb.tlt (h : RGb base w t g sv fv A last) : t < w.heap.size := (Array.getElem?_eq_some_iff.1 h.tr).1

theorem RGb.nt (h : RGb base w t g sv fv A last) : ¬ rfp g sv fv t := by
  rintro (e | e | e)
  · have := h.tr
    rw [e, h.ar.blk] at this
    simp at this
  · obtain ⟨c, hc, _⟩ := own_cellsT h.ar.sl e
    have := h.tr
    rw [hc] at this
    simp at this
  · obtain ⟨c, hc, _⟩ := own_cellsT h.ar.fr e
    have := h.tr
    rw [hc] at this
    simp at this

theorem RGb.keep (h : RGb base w t g sv fv A last) {G : Nat → Prop} (hk : Keep G w w') (hn : ∀ k, gfp t g sv fv k → ¬ G k) : RGb base w' t g sv fv A last :=
  ⟨(hk.block t h.tlt (hn t (.inl rfl))).trans h.tr, h.ar.keep hk (fun k hkk => hn k (.inr hkk)), h.lo⟩

theorem RGb.below (h : RGb base w t g sv fv A last) (hb : Below w.heap.size w w') : RGb base w' t g sv fv A last :=
  h.keep (Keep.of_below (F := fun _ => False) hb) (fun _ _ h => h)

theorem RGb.cells (h : RGb base w t g sv fv A last) : w.cell? ⟨t, 0, none⟩ = some (ptr g) ∧ w.cell? ⟨t, 1, none⟩ = some (nu last) ∧ ∀ i, w.frozen? ⟨t, i, none⟩ = false := by
  refine ⟨by simp [World.cell?, h.tr], by simp [World.cell?, h.tr], fun i => by simp [World.frozen?, h.tr]⟩

/-- What is read of a slot. -/
theorem RAn.readG (h : RAn base w g (.slice (some ⟨b, 0, none⟩) 32 cap) fv A) (hl : A.sl.length = 32) (k : Nat) (hk : k < 32) : w.cell? ⟨b, k * 17, none⟩ = some (.bool (slG A.sl k).used) ∧ w.cell? ⟨b, k * 17 + 2, none⟩ = some (nu (slG A.sl k).kids) ∧ w.cell? ⟨b, k * 17 + 4, none⟩ = some (nu (nx A.sl k)) ∧ w.cell? ⟨b, k * 17 + 6, none⟩ = some (nu (slG A.sl k).s.birth) ∧ w.cell? ⟨b, k * 17 + 7, none⟩ = some (nu (slG A.sl k).s.us) ∧ w.cell? ⟨b, k * 17 + 8, none⟩ = some (nu (slG A.sl k).s.ub) ∧ ∀ i, w.frozen? ⟨b, i, none⟩ = false := by
  obtain ⟨b', cap', e, _, _, hr, _⟩ := h.slot hl k hk
  simp only [Value.slice.injEq, Option.some.injEq, Addr.mk.injEq, and_true, true_and] at e
  obtain ⟨rfl, rfl⟩ := e
  refine ⟨hr 0 _ rfl, hr 2 _ rfl, hr 4 _ rfl, hr 6 _ rfl, hr 7 _ rfl, hr 8 _ rfl, fun i => ?_⟩
  obtain ⟨c, hc, _⟩ := own_cellsT h.sl (k := b) rfl
  simp [World.frozen?, hc]
end

theorem below_dn {b : Nat} {w w' : World} (h : Below b w w') (n : Nat) : Below b w (w'.drewN n) := ⟨h.os, h.tape, h.output, h.size, h.block⟩


theorem RGb.setLast {base : Nat} {w : World} {t g : Nat} {sv fv : Value} {A : Arn} {l : Int} (h : RGb base w t g sv fv A l) (l' : Int) : RGb base (w.setCell ⟨t, 1, none⟩ (nu l')) t g sv fv A l' := by
  refine ⟨?_, h.ar.keep ((Keep.refl (fun k => k = t) w).setCell (p := ⟨t, 1, none⟩) (.inl rfl) _) (fun k hk e => h.nt (by rw [← e]; exact hk)), h.lo⟩
  rw [heap_setCell_same _ t 1 _ _ _ h.tr]
  rfl

/-- The arena has turned. -/
theorem RGb.turn {base : Nat} {w w' : World} {t g b cap : Nat} {fv : Value} {A A' : Arn} {l : Int} (h : RGb base w t g (.slice (some ⟨b, 0, none⟩) 32 cap) fv A l) (ha : RAn base w' g (.slice (some ⟨b, 0, none⟩) 32 cap) fv A') (hk : Keep (fun j => j = b) w w') : RGb base w' t g (.slice (some ⟨b, 0, none⟩) 32 cap) fv A' l :=
  ⟨(hk.block t h.tlt (fun e => h.nt (.inr (.inl (by rw [e]; rfl))))).trans h.tr, ha, h.lo⟩

/-- What a call leaves of it. -/
def RepG (base : Nat) (w : World) (t g : Nat) (G : Nat → Prop) (A : Arn) (l : Int) : Prop := ∃ sv fv, RGb base w t g sv fv A l ∧ G = gfp t g sv fv ∧ base ≤ w.heap.size

def LeftG (base : Nat) (w w' : World) (t g : Nat) (F : Nat → Prop) (A : Arn) (l : Int) : Prop := ∃ G, RepG base w' t g G A l ∧ Keep F w w' ∧ Goes w F G

theorem kids_set (S : List Slt) (i : Nat) (x : Slt) (hx : x.kids = (S.getD i bare).kids) (j : Int) : (slG (S.set i x) j).kids = (slG S j).kids := by
  unfold slG
  rw [List.getD_eq_getElem?_getD, List.getElem?_set]
  by_cases e : i = j.toNat
  · rw [if_pos e]
    by_cases hl : i < S.length
    · rw [if_pos hl]
      show x.kids = _
      rw [hx, e]
    · rw [if_neg hl, List.getD_eq_getElem?_getD, List.getElem?_eq_none (by omega)]
  · rw [if_neg e, ← List.getD_eq_getElem?_getD]

theorem kids_link (S : List Slt) (i k j : Int) : (slG (link S i k) j).kids = (slG S j).kids := by
  unfold link setP setN
  rw [kids_set, kids_set]
  · rfl
  · rfl

theorem kids_splice (S : List Slt) (o t j : Int) : (slG (splice S o t).sl j).kids = (slG S j).kids := by
  unfold splice
  repeat' split
  all_goals first | rfl | (rw [kids_link, kids_link])

set_option maxRecDepth 100000 in
theorem newG_ref (g : Nat) (w : World) : Calls Tryz.prog 5 #[ptr g] w fun e w' => e = .returned (ptr w.heap.size) ∧ w' = w.alloc (.cells #[ptr g, nu (-1)] 39) := by
  go_enter Tryz.func5, Tryz.ntmps5
  go_wp2
  go_ret
  exact ⟨rfl, rfl⟩

set_option maxRecDepth 100000 in
set_option maxHeartbeats 4000000 in
theorem addG_ref (base : Nat) (w : World) (t g b cap : Nat) (fv : Value) (A : Arn) (l i : Int) (h : RGb base w t g (.slice (some ⟨b, 0, none⟩) 32 cap) fv A l) (hl : A.sl.length = 32) (hc : 32 ≤ cap ∧ cap ≤ 9223372036854775807) :
    Calls Tryz.prog 24 #[ptr t, nu i] w fun e w' => e = .returned (.tuple #[nun (addG A.sl l i).no, nu (addG A.sl l i).pl]) ∧ RGb base w' t g (.slice (some ⟨b, 0, none⟩) 32 cap) fv ⟨(addG A.sl l i).sl, A.fr, A.wr⟩ (addG A.sl l i).last ∧ Keep (fun j => j = t ∨ j = b) w w' := by
  have c1 := Hid.mk' (there_ref i w)
  have HR0 := Hid.mk' h
  have HK0 := Hid.mk' (Keep.refl (fun j => j = t ∨ j = b) w)
  obtain ⟨q0, q1, _⟩ := h.cells
  have q2 := h.ar.cells.1
  obtain ⟨hc1, hc2⟩ := id hc
  unfold addG
  by_cases ht : there i
  · rw [decide_eq_true ht] at c1
    rw [if_neg (fun q => q ht)]
    obtain ⟨k, rfl⟩ : ∃ k : Nat, i = (k : Int) := ⟨i.toNat, by omega⟩
    have hk : k < 32 := by omega
    obtain ⟨q3, _⟩ := RAn.readG h.ar hl k hk
    have hkI : (k : Int) < 32 := by omega
    have hk0 : (0 : Int) ≤ (k : Int) := by omega
    cases hu : (slG A.sl k).used with
    | false =>
      rw [hu] at q3
      rw [if_pos rfl]
      clear h hl ht hu hc
      go_enter Tryz.func24, Tryz.ntmps24
      go_wp2_with (first | (go_at_call 41; refine c1.out.mono ?_; rintro e w1 ⟨rfl, hw1⟩; subst w1) | fail)
      go_ret2
      exact ⟨rfl, HR0.out, HK0.out⟩
    | true =>
      rw [hu] at q3
      rw [if_neg (by decide)]
      have hD : Below w.heap.size w w.drew := (Below.refl _ _).drew
      have cP := Hid.mk' (push_ref base w.drew g b cap fv A l k (h.ar.below hD) hl hc)
      have hRd := Hid.mk' (h.below hD)
      have HKd : Hid (Keep (fun j => j = t ∨ j = b) w w.drew) := Keep.of_below hD
      obtain ⟨P, hP⟩ : ∃ P, push A.sl l k = P := ⟨_, rfl⟩
      rw [hP] at cP ⊢
      obtain ⟨Pa, Pn, Pp, Ps⟩ := P
      dsimp only at cP ⊢
      have hS : w.cell? ⟨t, 0, none⟩ = some (ptr g) ∧ w.cell? ⟨t, 1, none⟩ = some (nu l) := ⟨q0, q1⟩
      clear h hl ht hu hc hP hD
      go_enter Tryz.func24, Tryz.ntmps24
      go_upto_region 5 with (first | (go_at_call 41; refine c1.out.mono ?_; rintro e w1 ⟨rfl, hw1⟩; subst w1) | fail)
      refine wp_region_held_drew (S := fun w' => w'.cell? ⟨t, 0, none⟩ = some (ptr g) ∧ w'.cell? ⟨t, 1, none⟩ = some (nu l)) (by kernel_rfl) hS (fun hHeld => ?_)
      refine wpAnyH_take (i := 0) (v := ?_) rfl (by kernel_rfl) (by kernel_rfl) (by kernel_rfl) (fun _ _ _ h => h) (Or.inl ⟨by rfl, ?_⟩) hHeld ?_
      rotate_left
      · (intro w' hS'; have hq0 := hS'.1; have hq1 := hS'.2; go_simp <;> with_reducible rfl)
      simp only [Act.put, List.getElem_toArray, List.getElem_cons_succ, List.getElem_cons_zero, List.setIfInBounds_toArray, List.set]
      refine wpAnyH_take (i := 1) (v := ?_) rfl (by kernel_rfl) (by kernel_rfl) (by kernel_rfl) (fun _ _ _ h => h) (Or.inl ⟨by rfl, ?_⟩) hHeld ?_
      rotate_left
      · (intro w' hS'; have hq0 := hS'.1; have hq1 := hS'.2; go_simp <;> with_reducible rfl)
      simp only [Act.put, List.getElem_toArray, List.getElem_cons_succ, List.getElem_cons_zero, List.setIfInBounds_toArray, List.set]
      refine wpAnyH_take (i := 2) (v := ?_) rfl (by kernel_rfl) (by kernel_rfl) (by kernel_rfl) (fun _ _ _ h => h) (Or.inl ⟨by rfl, ?_⟩) hHeld ?_
      rotate_left
      · (intro w' hS'; have hq0 := hS'.1; have hq1 := hS'.2; go_simp <;> with_reducible rfl)
      simp only [Act.put, List.getElem_toArray, List.getElem_cons_succ, List.getElem_cons_zero, List.setIfInBounds_toArray, List.set]
      refine wpAnyH_take (i := 3) (v := ?_) rfl (by kernel_rfl) (by kernel_rfl) (by kernel_rfl) (fun _ _ _ h => h) (Or.inl ⟨by rfl, ?_⟩) hHeld ?_
      rotate_left
      · (intro w' hS'; have hq0 := hS'.1; have hq1 := hS'.2; go_simp <;> with_reducible rfl)
      simp only [Act.put, List.getElem_toArray, List.getElem_cons_succ, List.getElem_cons_zero, List.setIfInBounds_toArray, List.set]
      refine wpAnyH_take (i := 4) (v := ?_) rfl (by kernel_rfl) (by kernel_rfl) (by kernel_rfl) (fun _ _ _ h => h) (Or.inl ⟨by rfl, ?_⟩) hHeld ?_
      rotate_left
      · (intro w' hS'; have hq0 := hS'.1; have hq1 := hS'.2; go_simp <;> with_reducible rfl)
      simp only [Act.put, List.getElem_toArray, List.getElem_cons_succ, List.getElem_cons_zero, List.setIfInBounds_toArray, List.set]
      refine wpAnyH_take (i := 5) (v := ?_) rfl (by kernel_rfl) (by kernel_rfl) (by kernel_rfl) (fun _ _ _ h => h) (Or.inl ⟨by rfl, ?_⟩) hHeld ?_
      rotate_left
      · (intro w' hS'; have hq0 := hS'.1; have hq1 := hS'.2; go_simp <;> with_reducible rfl)
      simp only [Act.put, List.getElem_toArray, List.getElem_cons_succ, List.getElem_cons_zero, List.setIfInBounds_toArray, List.set]
      refine wpAnyH_take (i := 6) (v := ?_) rfl (by kernel_rfl) (by kernel_rfl) (by kernel_rfl) (fun _ _ _ h => h) (Or.inl ⟨by rfl, ?_⟩) hHeld ?_
      rotate_left
      · (intro w' hS'; have hq0 := hS'.1; have hq1 := hS'.2; go_simp <;> with_reducible rfl)
      simp only [Act.put, List.getElem_toArray, List.getElem_cons_succ, List.getElem_cons_zero, List.setIfInBounds_toArray, List.set]
      refine wpAnyH_take (i := 7) (v := ?_) rfl (by kernel_rfl) (by kernel_rfl) (by kernel_rfl) (fun _ _ _ h => h) (Or.inl ⟨by rfl, ?_⟩) hHeld ?_
      rotate_left
      · (intro w' hS'; have hq0 := hS'.1; have hq1 := hS'.2; go_simp <;> with_reducible rfl)
      simp only [Act.put, List.getElem_toArray, List.getElem_cons_succ, List.getElem_cons_zero, List.setIfInBounds_toArray, List.set]
      refine wpAnyH_take (i := 8) (v := ?_) rfl (by kernel_rfl) (by kernel_rfl) (by kernel_rfl) (fun _ _ _ h => h) (Or.inl ⟨by rfl, ?_⟩) hHeld ?_
      rotate_left
      · (intro w' hS'; have hq0 := hS'.1; have hq1 := hS'.2; go_simp <;> with_reducible rfl)
      simp only [Act.put, List.getElem_toArray, List.getElem_cons_succ, List.getElem_cons_zero, List.setIfInBounds_toArray, List.set]
      refine wpAnyH_ready (rs := [9]) (by kernel_rfl) (by simp) ?_
      refine AllReadyH.cons rfl (fun K hK => ?_) AllReadyH.nil
      go_simp
      refine (cP.out).mono ?_
      rintro e w1 ⟨rfl, ha, hk1⟩
      go_wp2_with fail
      refine hK.out _ _ (by have := (hRd.out.turn ha hk1).cells; exact ⟨this.1, this.2.1⟩) (fun hHeld => ?_)
      clear hK K
      refine wpAnyH_take (i := 10) (v := ?_) rfl (by kernel_rfl) (by kernel_rfl) (by kernel_rfl) (fun _ _ _ h => h) (Or.inl ⟨by rfl, ?_⟩) hHeld ?_
      rotate_left
      · (intro w' hS'; go_simp <;> with_reducible rfl)
      simp only [Act.put, List.getElem_toArray, List.getElem_cons_succ, List.getElem_cons_zero, List.setIfInBounds_toArray, List.set]
      refine wpAnyH_take (i := 11) (v := ?_) rfl (by kernel_rfl) (by kernel_rfl) (by kernel_rfl) (fun _ _ _ h => h) (Or.inl ⟨by rfl, ?_⟩) hHeld ?_
      rotate_left
      · (intro w' hS'; go_simp <;> with_reducible rfl)
      simp only [Act.put, List.getElem_toArray, List.getElem_cons_succ, List.getElem_cons_zero, List.setIfInBounds_toArray, List.set]
      refine wpAnyH_take (i := 12) (v := ?_) rfl (by kernel_rfl) (by kernel_rfl) (by kernel_rfl) (fun _ _ _ h => h) (Or.inl ⟨by rfl, ?_⟩) hHeld ?_
      rotate_left
      · (intro w' hS'; go_simp <;> with_reducible rfl)
      simp only [Act.put, List.getElem_toArray, List.getElem_cons_succ, List.getElem_cons_zero, List.setIfInBounds_toArray, List.set]
      refine wpAnyH_take (i := 13) (v := ?_) rfl (by kernel_rfl) (by kernel_rfl) (by kernel_rfl) (fun _ _ _ h => h) (Or.inl ⟨by rfl, ?_⟩) hHeld ?_
      rotate_left
      · (intro w' hS'; go_simp <;> with_reducible rfl)
      simp only [Act.put, List.getElem_toArray, List.getElem_cons_succ, List.getElem_cons_zero, List.setIfInBounds_toArray, List.set]
      refine wpAnyH_take (i := 14) (v := ?_) rfl (by kernel_rfl) (by kernel_rfl) (by kernel_rfl) (fun _ _ _ h => h) (Or.inl ⟨by rfl, ?_⟩) hHeld ?_
      rotate_left
      · (intro w' hS'; go_simp <;> with_reducible rfl)
      simp only [Act.put, List.getElem_toArray, List.getElem_cons_succ, List.getElem_cons_zero, List.setIfInBounds_toArray, List.set]
      refine wpAnyH_take (i := 15) (v := ?_) rfl (by kernel_rfl) (by kernel_rfl) (by kernel_rfl) (fun _ _ _ h => h) (Or.inl ⟨by rfl, ?_⟩) hHeld ?_
      rotate_left
      · (intro w' hS'; go_simp <;> with_reducible rfl)
      simp only [Act.put, List.getElem_toArray, List.getElem_cons_succ, List.getElem_cons_zero, List.setIfInBounds_toArray, List.set]
      refine wpAnyH_take (i := 16) (v := ?_) rfl (by kernel_rfl) (by kernel_rfl) (by kernel_rfl) (fun _ _ _ h => h) (Or.inl ⟨by rfl, ?_⟩) hHeld ?_
      rotate_left
      · (intro w' hS'; go_simp <;> with_reducible rfl)
      simp only [Act.put, List.getElem_toArray, List.getElem_cons_succ, List.getElem_cons_zero, List.setIfInBounds_toArray, List.set]
      refine wpAnyH_done (by kernel_rfl) ?_ _
      clear hHeld
      clear hS q0 q1 q2 q3
      have HR1 := Hid.mk' (hRd.out.turn ha hk1)
      have HK1 := Hid.mk' (HKd.out.trans hk1 (fun j _ e => .inr e))
      clear ha hk1 hRd HKd cP
      by_cases h0 : Pn = 0
      · subst h0
        obtain ⟨q0, q1, qf⟩ := HR1.out.cells
        have qf1 := qf 1
        have HR2 := Hid.mk' (HR1.out.setLast Pa)
        have HK2 : Hid (Keep (fun j => j = t ∨ j = b) w (w1.setCell ⟨t, 1, none⟩ (nu Pa))) := HK1.out.setCell (p := ⟨t, 1, none⟩) (.inl (.inl rfl)) _
        clear qf
        go_wp2
        go_ret2
        exact ⟨rfl, HR2.out, HK2.out⟩
      · have hb0 : ((Pn : Int) == 0) = false := by simpa using h0
        have hb1 : (!((Pn : Int) == 0)) = true := by rw [hb0]; rfl
        go_wp2
        go_ret2
        exact ⟨rfl, HR1.out, HK1.out⟩
  · rw [decide_eq_false ht] at c1
    rw [if_pos ht]
    clear h hl ht hc
    go_enter Tryz.func24, Tryz.ntmps24
    go_wp2_with (first | (go_at_call 41; refine c1.out.mono ?_; rintro e w1 ⟨rfl, hw1⟩; subst w1) | fail)
    go_ret2
    exact ⟨rfl, HR0.out, HK0.out⟩

/-- Behind a give. -/
theorem give_gb {base : Nat} {w : World} {t g b cap : Nat} {fv : Value} {A : Arn} {l f : Int} (h : RGb base w t g (.slice (some ⟨b, 0, none⟩) 32 cap) fv A l) (hg : An.Good A) (hw : A.wr ≤ 1000000000) (hb : base ≤ w.heap.size) :
    Calls Tryz.prog 48 #[ptr g, nu f] w fun e w' => e = .returned (nun (A.free f).1) ∧ LeftG base w w' t g (gfp t g (.slice (some ⟨b, 0, none⟩) 32 cap) fv) (A.free f).2 l := by
  refine (give_r base w g _ A f ⟨_, fv, h.ar, rfl, hb⟩ hg hw).mono ?_
  rintro e w' ⟨rfl, G, h4, h5, h6⟩
  refine ⟨rfl, fun k => k = t ∨ G k, ?_, h5.weaken (fun k _ e => .inr e), fun k hk => ?_⟩
  · obtain ⟨sv', fv', g1, rfl, g3⟩ := h4
    exact ⟨sv', fv', ⟨(h5.block t h.tlt h.nt).trans h.tr, g1, h.lo⟩, rfl, g3⟩
  · rcases hk with e | e
    · exact .inl (.inl e)
    · exact (h6 k e).imp .inr id

theorem LeftG.trans {base : Nat} {w w1 w' : World} {t g b cap : Nat} {fv : Value} {A : Arn} {l : Int} (h : LeftG base w1 w' t g (gfp t g (.slice (some ⟨b, 0, none⟩) 32 cap) fv) A l) (hk : Keep (fun j => j = t ∨ j = b) w w1) : LeftG base w w' t g (gfp t g (.slice (some ⟨b, 0, none⟩) 32 cap) fv) A l := by
  obtain ⟨G, h1, h2, h3⟩ := h
  refine ⟨G, h1, (hk.weaken (fun k _ e => ?_)).trans h2 (fun _ _ e => e), fun k hk' => (h3 k hk').imp id (fun e => Nat.le_trans hk.size e)⟩
  rcases e with e | e
  · exact .inl e
  · exact .inr (.inr (.inl (by rw [e]; rfl)))

/-- What is left where the rings alone have turned. -/
theorem leftG_of {base : Nat} {w w' : World} {t g b cap : Nat} {fv : Value} {A : Arn} {l : Int} (h : RGb base w' t g (.slice (some ⟨b, 0, none⟩) 32 cap) fv A l) (hb : base ≤ w.heap.size) (hk : Keep (fun j => j = t ∨ j = b) w w') : LeftG base w w' t g (gfp t g (.slice (some ⟨b, 0, none⟩) 32 cap) fv) A l :=
  ⟨_, ⟨_, _, h, rfl, Nat.le_trans hb hk.size⟩, hk.weaken (fun k _ e => e.elim .inl (fun e => .inr (.inr (.inl (by rw [e]; rfl))))), Goes.refl _ _⟩

set_option maxRecDepth 100000 in
set_option maxHeartbeats 4000000 in
theorem unitG_ref (base : Nat) (w : World) (t g b cap : Nat) (fv : Value) (A : Arn) (l : Int) (h : RGb base w t g (.slice (some ⟨b, 0, none⟩) 32 cap) fv A l) (hg : An.Good A) (hc : 32 ≤ cap ∧ cap ≤ 9223372036854775807) (hw : A.wr ≤ 1000000000) (hok : okL l) (hbs : base ≤ w.heap.size) :
    Calls Tryz.prog 27 #[ptr t] w fun e w' => e = .returned (.tuple #[nun (unitG A.sl A.fr l).f, .bool (unitG A.sl A.fr l).ok]) ∧ ∃ n, n ≤ 1 ∧ LeftG base w w' t g (gfp t g (.slice (some ⟨b, 0, none⟩) 32 cap) fv) ⟨(unitG A.sl A.fr l).sl, (unitG A.sl A.fr l).fr, A.wr + n⟩ (unitG A.sl A.fr l).last := by
  have hl := hg.len
  have HR0 := Hid.mk' h
  obtain ⟨q0, q1, _⟩ := h.cells
  have q2 := h.ar.cells.1
  obtain ⟨hc1, hc2⟩ := id hc
  have HL0 : Hid (∃ n, n ≤ 1 ∧ LeftG base w w t g (gfp t g (.slice (some ⟨b, 0, none⟩) 32 cap) fv) ⟨A.sl, A.fr, A.wr + n⟩ l) := ⟨0, by omega, leftG_of h hbs (Keep.refl _ _)⟩
  by_cases h1 : l = -1
  · unfold unitG
    rw [if_pos (.inl h1)]
    subst h1
    clear h hl hc hg hok
    go_enter Tryz.func27, Tryz.ntmps27
    go_wp2
    go_ret2
    exact ⟨rfl, HL0.out⟩
  · have hlt : there l := hok.elim (fun e => absurd e h1) id
    obtain ⟨m, rfl⟩ : ∃ m : Nat, l = (m : Int) := ⟨l.toNat, by omega⟩
    have hm : m < 32 := by omega
    have hmI : (m : Int) < 32 := by omega
    have hm0 : (0 : Int) ≤ (m : Int) := by omega
    have hmn : ((m : Int) == -1) = false := by simp
    obtain ⟨_, _, q3, _⟩ := RAn.readG h.ar hl m hm
    obtain ⟨f, hf⟩ : ∃ f, nx A.sl m = f := ⟨_, rfl⟩
    rw [hf] at q3
    have c1 : Hid (∀ wx, _) := fun wx => there_ref f wx
    have hS : w.cell? ⟨t, 0, none⟩ = some (ptr g) ∧ w.cell? ⟨t, 1, none⟩ = some (nu m) ∧ w.cell? ⟨g, 0, none⟩ = some (.slice (some ⟨b, 0, none⟩) 32 cap) ∧ w.cell? ⟨b, m * 17 + 4, none⟩ = some (nu f) := ⟨q0, q1, q2, q3⟩
    have HU0 : Hid (¬ there f → unitG A.sl A.fr m = ⟨0, false, A.sl, A.fr, m⟩) := fun hn => by
      unfold unitG
      rw [hf, if_pos (.inr hn)]
    have HU : Hid (there f → unitG A.sl A.fr m = unit1 A.sl A.fr m f) := fun hy => by
      unfold unitG
      rw [hf, if_neg (fun e => e.elim (fun e => by omega) (fun e => e hy))]
    obtain ⟨U, hU⟩ : ∃ U, unitG A.sl A.fr m = U := ⟨_, rfl⟩
    rw [hU] at HU0 HU ⊢
    have hD1 : Below w.heap.size w w.drew := (Below.refl _ _).drew
    have HR1 := Hid.mk' (h.below hD1)
    have HK1 : Hid (Keep (fun j => j = t ∨ j = b) w w.drew) := Keep.of_below hD1
    by_cases hft : there f
    · obtain ⟨n, rfl⟩ : ∃ n : Nat, f = (n : Int) := ⟨f.toNat, by omega⟩
      have hn : n < 32 := by omega
      have hnI : (n : Int) < 32 := by omega
      have hn0 : (0 : Int) ≤ (n : Int) := by omega
      have hD2 : Below w.drew.heap.size w.drew w.drew.drew := (Below.refl _ _).drew
      have HR2 := Hid.mk' (HR1.out.below hD2)
      have HK2 : Hid (Keep (fun j => j = t ∨ j = b) w w.drew.drew) := HK1.out.drew
      have hkq := (RAn.readG HR2.out.ar hl n hn).2.1
      obtain ⟨z, hz⟩ : ∃ z, (slG A.sl n).kids = z := ⟨_, rfl⟩
      rw [hz] at hkq
      have hkp := kids_splice A.sl m z n
      rw [hz] at hkp
      have cS := Hid.mk' (splice_ref base w.drew.drew g b cap fv A m z HR2.out.ar hl hc)
      have hplen := splice_len A.sl m z
      have hU1 := HU.out hft
      unfold unit1 at hU1
      rw [hz] at hU1
      obtain ⟨P, hP⟩ : ∃ P, splice A.sl m z = P := ⟨_, rfl⟩
      rw [hP] at cS hplen hU1 hkp
      obtain ⟨Pa, Pn, Pp, Ps⟩ := P
      dsimp only at cS hplen hU1 hkp
      have hSS : w.drew.cell? ⟨t, 0, none⟩ = some (ptr g) ∧ w.drew.cell? ⟨t, 1, none⟩ = some (nu m) ∧ w.drew.cell? ⟨g, 0, none⟩ = some (.slice (some ⟨b, 0, none⟩) 32 cap) ∧ w.drew.cell? ⟨b, n * 17 + 2, none⟩ = some (nu z) := ⟨q0, q1, q2, hkq⟩
      have HSA : Hid (∀ w', RAn base w' g (.slice (some ⟨b, 0, none⟩) 32 cap) fv ⟨Ps, A.fr, A.wr⟩ → Keep (fun j => j = b) w.drew.drew w' → w'.cell? ⟨t, 0, none⟩ = some (ptr g) ∧ w'.cell? ⟨t, 1, none⟩ = some (nu m) ∧ w'.cell? ⟨g, 0, none⟩ = some (.slice (some ⟨b, 0, none⟩) 32 cap) ∧ w'.cell? ⟨b, n * 17 + 2, none⟩ = some (nu z)) := fun w' ha hk => by
        have hr := HR2.out.turn ha hk
        have h2 := (RAn.readG (A := ⟨Ps, A.fr, A.wr⟩) ha (hplen.trans hl) n hn).2.1
        rw [hkp] at h2
        exact ⟨hr.cells.1, hr.cells.2.1, ha.cells.1, h2⟩
      have cD : Hid (∀ wx, RAn base wx g (.slice (some ⟨b, 0, none⟩) 32 cap) fv ⟨Ps, A.fr, A.wr⟩ → _) := fun wx ha => drop_ref base wx g b cap fv ⟨Ps, A.fr, A.wr⟩ Pa n ha (hplen.trans hl) hc
      have hdlen := drop_len Ps Pa n
      unfold unit2 at hU1
      obtain ⟨Q, hQ⟩ : ∃ Q, drop Ps Pa n = Q := ⟨_, rfl⟩
      simp only [hQ] at cD hdlen hU1
      obtain ⟨Qa, Qn, Qp, Qs⟩ := Q
      dsimp only at cD hdlen hU1
      rw [Int.toNat_natCast] at hU1
      have hgood : An.Good ⟨Qs, A.fr, A.wr⟩ := ⟨hdlen.trans (hplen.trans hl), hg.nd, hg.lt⟩
      have cF : Hid (∀ wx l', RGb base wx t g (.slice (some ⟨b, 0, none⟩) 32 cap) fv ⟨Qs, A.fr, A.wr⟩ l' → base ≤ wx.heap.size → Calls Tryz.prog 48 #[ptr g, nu n] wx fun e w' => (n ∈ A.fr ∧ e = .returned (.int .i64 9) ∨ n ∉ A.fr ∧ e = .returned (.int .i64 0)) ∧ Hid (LeftG base wx w' t g (gfp t g (.slice (some ⟨b, 0, none⟩) 32 cap) fv) (if n ∈ A.fr then ⟨Qs, A.fr, A.wr⟩ else ⟨Qs.set n bare, n :: A.fr, A.wr + 1⟩) l')) := fun wx l' hr hb => by
        have := give_gb (f := (n : Int)) hr hgood hw hb
        unfold Arn.free at this
        rw [if_pos hft, Int.toNat_natCast] at this
        refine this.mono ?_
        rintro e w' ⟨rfl, hl'⟩
        by_cases hm' : n ∈ A.fr
        · rw [if_pos hm'] at hl' ⊢
          rw [if_pos hm']
          exact ⟨.inl ⟨hm', rfl⟩, hl'⟩
        · rw [if_neg hm'] at hl' ⊢
          rw [if_neg hm']
          exact ⟨.inr ⟨hm', rfl⟩, hl'⟩
      have HU1 := Hid.mk' hU1
      have HBS := Hid.mk' hbs
      rw [decide_eq_true hft] at c1
      clear h hl hc hg hok h1 hlt hf HU0 HU hU hP hQ hz hD1 hD2 hkq hkp hplen hdlen hU1 hgood hbs HL0 HR0 HR1 HK1
      go_enter Tryz.func27, Tryz.ntmps27
      go_upto_region 3 with fail
      refine wp_region_held_drew (S := fun w' => w'.cell? ⟨t, 0, none⟩ = some (ptr g) ∧ w'.cell? ⟨t, 1, none⟩ = some (nu m) ∧ w'.cell? ⟨g, 0, none⟩ = some (.slice (some ⟨b, 0, none⟩) 32 cap) ∧ w'.cell? ⟨b, m * 17 + 4, none⟩ = some (nu n)) (by kernel_rfl) hS (fun hHeld => ?_)
      refine wpAnyH_take (i := 0) (v := ?_) rfl (by kernel_rfl) (by kernel_rfl) (by kernel_rfl) (fun _ _ _ h => h) (Or.inl ⟨by rfl, ?_⟩) hHeld ?_
      rotate_left
      · (intro w' hS'; have hq0 := hS'.1; have hq1 := hS'.2.1; have hq2 := hS'.2.2.1; have hq3 := hS'.2.2.2; go_simp <;> with_reducible rfl)
      simp only [Act.put, List.getElem_toArray, List.getElem_cons_succ, List.getElem_cons_zero, List.setIfInBounds_toArray, List.set]
      refine wpAnyH_take (i := 1) (v := ?_) rfl (by kernel_rfl) (by kernel_rfl) (by kernel_rfl) (fun _ _ _ h => h) (Or.inl ⟨by rfl, ?_⟩) hHeld ?_
      rotate_left
      · (intro w' hS'; have hq0 := hS'.1; have hq1 := hS'.2.1; have hq2 := hS'.2.2.1; have hq3 := hS'.2.2.2; go_simp <;> with_reducible rfl)
      simp only [Act.put, List.getElem_toArray, List.getElem_cons_succ, List.getElem_cons_zero, List.setIfInBounds_toArray, List.set]
      refine wpAnyH_take (i := 2) (v := ?_) rfl (by kernel_rfl) (by kernel_rfl) (by kernel_rfl) (fun _ _ _ h => h) (Or.inl ⟨by rfl, ?_⟩) hHeld ?_
      rotate_left
      · (intro w' hS'; have hq0 := hS'.1; have hq1 := hS'.2.1; have hq2 := hS'.2.2.1; have hq3 := hS'.2.2.2; go_simp <;> with_reducible rfl)
      simp only [Act.put, List.getElem_toArray, List.getElem_cons_succ, List.getElem_cons_zero, List.setIfInBounds_toArray, List.set]
      refine wpAnyH_take (i := 3) (v := ?_) rfl (by kernel_rfl) (by kernel_rfl) (by kernel_rfl) (fun _ _ _ h => h) (Or.inl ⟨by rfl, ?_⟩) hHeld ?_
      rotate_left
      · (intro w' hS'; have hq0 := hS'.1; have hq1 := hS'.2.1; have hq2 := hS'.2.2.1; have hq3 := hS'.2.2.2; go_simp <;> with_reducible rfl)
      simp only [Act.put, List.getElem_toArray, List.getElem_cons_succ, List.getElem_cons_zero, List.setIfInBounds_toArray, List.set]
      refine wpAnyH_take (i := 4) (v := ?_) rfl (by kernel_rfl) (by kernel_rfl) (by kernel_rfl) (fun _ _ _ h => h) (Or.inl ⟨by rfl, ?_⟩) hHeld ?_
      rotate_left
      · (intro w' hS'; have hq0 := hS'.1; have hq1 := hS'.2.1; have hq2 := hS'.2.2.1; have hq3 := hS'.2.2.2; go_simp <;> with_reducible rfl)
      simp only [Act.put, List.getElem_toArray, List.getElem_cons_succ, List.getElem_cons_zero, List.setIfInBounds_toArray, List.set]
      refine wpAnyH_take (i := 5) (v := ?_) rfl (by kernel_rfl) (by kernel_rfl) (by kernel_rfl) (fun _ _ _ h => h) (Or.inl ⟨by rfl, ?_⟩) hHeld ?_
      rotate_left
      · (intro w' hS'; have hq0 := hS'.1; have hq1 := hS'.2.1; have hq2 := hS'.2.2.1; have hq3 := hS'.2.2.2; go_simp <;> with_reducible rfl)
      simp only [Act.put, List.getElem_toArray, List.getElem_cons_succ, List.getElem_cons_zero, List.setIfInBounds_toArray, List.set]
      refine wpAnyH_take (i := 6) (v := ?_) rfl (by kernel_rfl) (by kernel_rfl) (by kernel_rfl) (fun _ _ _ h => h) (Or.inl ⟨by rfl, ?_⟩) hHeld ?_
      rotate_left
      · (intro w' hS'; have hq0 := hS'.1; have hq1 := hS'.2.1; have hq2 := hS'.2.2.1; have hq3 := hS'.2.2.2; go_simp <;> with_reducible rfl)
      simp only [Act.put, List.getElem_toArray, List.getElem_cons_succ, List.getElem_cons_zero, List.setIfInBounds_toArray, List.set]
      refine wpAnyH_take (i := 7) (v := ?_) rfl (by kernel_rfl) (by kernel_rfl) (by kernel_rfl) (fun _ _ _ h => h) (Or.inl ⟨by rfl, ?_⟩) hHeld ?_
      rotate_left
      · (intro w' hS'; have hq0 := hS'.1; have hq1 := hS'.2.1; have hq2 := hS'.2.2.1; have hq3 := hS'.2.2.2; go_simp <;> with_reducible rfl)
      simp only [Act.put, List.getElem_toArray, List.getElem_cons_succ, List.getElem_cons_zero, List.setIfInBounds_toArray, List.set]
      refine wpAnyH_take (i := 8) (v := ?_) rfl (by kernel_rfl) (by kernel_rfl) (by kernel_rfl) (fun _ _ _ h => h) (Or.inl ⟨by rfl, ?_⟩) hHeld ?_
      rotate_left
      · (intro w' hS'; have hq0 := hS'.1; have hq1 := hS'.2.1; have hq2 := hS'.2.2.1; have hq3 := hS'.2.2.2; go_simp <;> with_reducible rfl)
      simp only [Act.put, List.getElem_toArray, List.getElem_cons_succ, List.getElem_cons_zero, List.setIfInBounds_toArray, List.set]
      refine wpAnyH_take (i := 9) (v := ?_) rfl (by kernel_rfl) (by kernel_rfl) (by kernel_rfl) (fun _ _ _ h => h) (Or.inl ⟨by rfl, ?_⟩) hHeld ?_
      rotate_left
      · (intro w' hS'; have hq0 := hS'.1; have hq1 := hS'.2.1; have hq2 := hS'.2.2.1; have hq3 := hS'.2.2.2; go_simp <;> with_reducible rfl)
      simp only [Act.put, List.getElem_toArray, List.getElem_cons_succ, List.getElem_cons_zero, List.setIfInBounds_toArray, List.set]
      refine wpAnyH_take (i := 10) (v := ?_) rfl (by kernel_rfl) (by kernel_rfl) (by kernel_rfl) (fun _ _ _ h => h) (Or.inl ⟨by rfl, ?_⟩) hHeld ?_
      rotate_left
      · (intro w' hS'; have hq0 := hS'.1; have hq1 := hS'.2.1; have hq2 := hS'.2.2.1; have hq3 := hS'.2.2.2; go_simp <;> with_reducible rfl)
      simp only [Act.put, List.getElem_toArray, List.getElem_cons_succ, List.getElem_cons_zero, List.setIfInBounds_toArray, List.set]
      refine wpAnyH_take (i := 11) (v := ?_) rfl (by kernel_rfl) (by kernel_rfl) (by kernel_rfl) (fun _ _ _ h => h) (Or.inl ⟨by rfl, ?_⟩) hHeld ?_
      rotate_left
      · (intro w' hS'; have hq0 := hS'.1; have hq1 := hS'.2.1; have hq2 := hS'.2.2.1; have hq3 := hS'.2.2.2; go_simp <;> with_reducible rfl)
      simp only [Act.put, List.getElem_toArray, List.getElem_cons_succ, List.getElem_cons_zero, List.setIfInBounds_toArray, List.set]
      refine wpAnyH_take (i := 12) (v := ?_) rfl (by kernel_rfl) (by kernel_rfl) (by kernel_rfl) (fun _ _ _ h => h) (Or.inl ⟨by rfl, ?_⟩) hHeld ?_
      rotate_left
      · (intro w' hS'; have hq0 := hS'.1; have hq1 := hS'.2.1; have hq2 := hS'.2.2.1; have hq3 := hS'.2.2.2; go_simp <;> with_reducible rfl)
      simp only [Act.put, List.getElem_toArray, List.getElem_cons_succ, List.getElem_cons_zero, List.setIfInBounds_toArray, List.set]
      refine wpAnyH_take (i := 13) (v := ?_) rfl (by kernel_rfl) (by kernel_rfl) (by kernel_rfl) (fun _ _ _ h => h) (Or.inl ⟨by rfl, ?_⟩) hHeld ?_
      rotate_left
      · (intro w' hS'; have hq0 := hS'.1; have hq1 := hS'.2.1; have hq2 := hS'.2.2.1; have hq3 := hS'.2.2.2; go_simp <;> with_reducible rfl)
      simp only [Act.put, List.getElem_toArray, List.getElem_cons_succ, List.getElem_cons_zero, List.setIfInBounds_toArray, List.set]
      refine wpAnyH_take (i := 14) (v := ?_) rfl (by kernel_rfl) (by kernel_rfl) (by kernel_rfl) (fun _ _ _ h => h) (Or.inl ⟨by rfl, ?_⟩) hHeld ?_
      rotate_left
      · (intro w' hS'; have hq0 := hS'.1; have hq1 := hS'.2.1; have hq2 := hS'.2.2.1; have hq3 := hS'.2.2.2; go_simp <;> with_reducible rfl)
      simp only [Act.put, List.getElem_toArray, List.getElem_cons_succ, List.getElem_cons_zero, List.setIfInBounds_toArray, List.set]
      refine wpAnyH_done (by kernel_rfl) ?_ _
      clear hHeld
      clear hS q0 q1 q2 q3
      go_upto_region 6 with (first | (go_at_call 41; refine (c1.out _).mono ?_; rintro e w1 ⟨rfl, hw1⟩; subst w1) | fail)
      refine wp_region_held_drew (S := fun w' => w'.cell? ⟨t, 0, none⟩ = some (ptr g) ∧ w'.cell? ⟨t, 1, none⟩ = some (nu m) ∧ w'.cell? ⟨g, 0, none⟩ = some (.slice (some ⟨b, 0, none⟩) 32 cap) ∧ w'.cell? ⟨b, n * 17 + 2, none⟩ = some (nu z)) (by kernel_rfl) hSS (fun hHeld => ?_)
      refine wpAnyH_take (i := 0) (v := ?_) rfl (by kernel_rfl) (by kernel_rfl) (by kernel_rfl) (fun _ _ _ h => h) (Or.inl ⟨by rfl, ?_⟩) hHeld ?_
      rotate_left
      · (intro w' hS'; have hq0 := hS'.1; have hq1 := hS'.2.1; have hq2 := hS'.2.2.1; have hq3 := hS'.2.2.2; go_simp <;> with_reducible rfl)
      simp only [Act.put, List.getElem_toArray, List.getElem_cons_succ, List.getElem_cons_zero, List.setIfInBounds_toArray, List.set]
      refine wpAnyH_take (i := 1) (v := ?_) rfl (by kernel_rfl) (by kernel_rfl) (by kernel_rfl) (fun _ _ _ h => h) (Or.inl ⟨by rfl, ?_⟩) hHeld ?_
      rotate_left
      · (intro w' hS'; have hq0 := hS'.1; have hq1 := hS'.2.1; have hq2 := hS'.2.2.1; have hq3 := hS'.2.2.2; go_simp <;> with_reducible rfl)
      simp only [Act.put, List.getElem_toArray, List.getElem_cons_succ, List.getElem_cons_zero, List.setIfInBounds_toArray, List.set]
      refine wpAnyH_take (i := 2) (v := ?_) rfl (by kernel_rfl) (by kernel_rfl) (by kernel_rfl) (fun _ _ _ h => h) (Or.inl ⟨by rfl, ?_⟩) hHeld ?_
      rotate_left
      · (intro w' hS'; have hq0 := hS'.1; have hq1 := hS'.2.1; have hq2 := hS'.2.2.1; have hq3 := hS'.2.2.2; go_simp <;> with_reducible rfl)
      simp only [Act.put, List.getElem_toArray, List.getElem_cons_succ, List.getElem_cons_zero, List.setIfInBounds_toArray, List.set]
      refine wpAnyH_take (i := 3) (v := ?_) rfl (by kernel_rfl) (by kernel_rfl) (by kernel_rfl) (fun _ _ _ h => h) (Or.inl ⟨by rfl, ?_⟩) hHeld ?_
      rotate_left
      · (intro w' hS'; have hq0 := hS'.1; have hq1 := hS'.2.1; have hq2 := hS'.2.2.1; have hq3 := hS'.2.2.2; go_simp <;> with_reducible rfl)
      simp only [Act.put, List.getElem_toArray, List.getElem_cons_succ, List.getElem_cons_zero, List.setIfInBounds_toArray, List.set]
      refine wpAnyH_take (i := 4) (v := ?_) rfl (by kernel_rfl) (by kernel_rfl) (by kernel_rfl) (fun _ _ _ h => h) (Or.inl ⟨by rfl, ?_⟩) hHeld ?_
      rotate_left
      · (intro w' hS'; have hq0 := hS'.1; have hq1 := hS'.2.1; have hq2 := hS'.2.2.1; have hq3 := hS'.2.2.2; go_simp <;> with_reducible rfl)
      simp only [Act.put, List.getElem_toArray, List.getElem_cons_succ, List.getElem_cons_zero, List.setIfInBounds_toArray, List.set]
      refine wpAnyH_take (i := 5) (v := ?_) rfl (by kernel_rfl) (by kernel_rfl) (by kernel_rfl) (fun _ _ _ h => h) (Or.inl ⟨by rfl, ?_⟩) hHeld ?_
      rotate_left
      · (intro w' hS'; have hq0 := hS'.1; have hq1 := hS'.2.1; have hq2 := hS'.2.2.1; have hq3 := hS'.2.2.2; go_simp <;> with_reducible rfl)
      simp only [Act.put, List.getElem_toArray, List.getElem_cons_succ, List.getElem_cons_zero, List.setIfInBounds_toArray, List.set]
      refine wpAnyH_take (i := 6) (v := ?_) rfl (by kernel_rfl) (by kernel_rfl) (by kernel_rfl) (fun _ _ _ h => h) (Or.inl ⟨by rfl, ?_⟩) hHeld ?_
      rotate_left
      · (intro w' hS'; have hq0 := hS'.1; have hq1 := hS'.2.1; have hq2 := hS'.2.2.1; have hq3 := hS'.2.2.2; go_simp <;> with_reducible rfl)
      simp only [Act.put, List.getElem_toArray, List.getElem_cons_succ, List.getElem_cons_zero, List.setIfInBounds_toArray, List.set]
      refine wpAnyH_take (i := 7) (v := ?_) rfl (by kernel_rfl) (by kernel_rfl) (by kernel_rfl) (fun _ _ _ h => h) (Or.inl ⟨by rfl, ?_⟩) hHeld ?_
      rotate_left
      · (intro w' hS'; have hq0 := hS'.1; have hq1 := hS'.2.1; have hq2 := hS'.2.2.1; have hq3 := hS'.2.2.2; go_simp <;> with_reducible rfl)
      simp only [Act.put, List.getElem_toArray, List.getElem_cons_succ, List.getElem_cons_zero, List.setIfInBounds_toArray, List.set]
      refine wpAnyH_take (i := 8) (v := ?_) rfl (by kernel_rfl) (by kernel_rfl) (by kernel_rfl) (fun _ _ _ h => h) (Or.inl ⟨by rfl, ?_⟩) hHeld ?_
      rotate_left
      · (intro w' hS'; have hq0 := hS'.1; have hq1 := hS'.2.1; have hq2 := hS'.2.2.1; have hq3 := hS'.2.2.2; go_simp <;> with_reducible rfl)
      simp only [Act.put, List.getElem_toArray, List.getElem_cons_succ, List.getElem_cons_zero, List.setIfInBounds_toArray, List.set]
      refine wpAnyH_take (i := 9) (v := ?_) rfl (by kernel_rfl) (by kernel_rfl) (by kernel_rfl) (fun _ _ _ h => h) (Or.inl ⟨by rfl, ?_⟩) hHeld ?_
      rotate_left
      · (intro w' hS'; have hq0 := hS'.1; have hq1 := hS'.2.1; have hq2 := hS'.2.2.1; have hq3 := hS'.2.2.2; go_simp <;> with_reducible rfl)
      simp only [Act.put, List.getElem_toArray, List.getElem_cons_succ, List.getElem_cons_zero, List.setIfInBounds_toArray, List.set]
      refine wpAnyH_take (i := 10) (v := ?_) rfl (by kernel_rfl) (by kernel_rfl) (by kernel_rfl) (fun _ _ _ h => h) (Or.inl ⟨by rfl, ?_⟩) hHeld ?_
      rotate_left
      · (intro w' hS'; have hq0 := hS'.1; have hq1 := hS'.2.1; have hq2 := hS'.2.2.1; have hq3 := hS'.2.2.2; go_simp <;> with_reducible rfl)
      simp only [Act.put, List.getElem_toArray, List.getElem_cons_succ, List.getElem_cons_zero, List.setIfInBounds_toArray, List.set]
      refine wpAnyH_take (i := 11) (v := ?_) rfl (by kernel_rfl) (by kernel_rfl) (by kernel_rfl) (fun _ _ _ h => h) (Or.inl ⟨by rfl, ?_⟩) hHeld ?_
      rotate_left
      · (intro w' hS'; have hq0 := hS'.1; have hq1 := hS'.2.1; have hq2 := hS'.2.2.1; have hq3 := hS'.2.2.2; go_simp <;> with_reducible rfl)
      simp only [Act.put, List.getElem_toArray, List.getElem_cons_succ, List.getElem_cons_zero, List.setIfInBounds_toArray, List.set]
      refine wpAnyH_take (i := 12) (v := ?_) rfl (by kernel_rfl) (by kernel_rfl) (by kernel_rfl) (fun _ _ _ h => h) (Or.inl ⟨by rfl, ?_⟩) hHeld ?_
      rotate_left
      · (intro w' hS'; have hq0 := hS'.1; have hq1 := hS'.2.1; have hq2 := hS'.2.2.1; have hq3 := hS'.2.2.2; go_simp <;> with_reducible rfl)
      simp only [Act.put, List.getElem_toArray, List.getElem_cons_succ, List.getElem_cons_zero, List.setIfInBounds_toArray, List.set]
      refine wpAnyH_take (i := 13) (v := ?_) rfl (by kernel_rfl) (by kernel_rfl) (by kernel_rfl) (fun _ _ _ h => h) (Or.inl ⟨by rfl, ?_⟩) hHeld ?_
      rotate_left
      · (intro w' hS'; have hq0 := hS'.1; have hq1 := hS'.2.1; have hq2 := hS'.2.2.1; have hq3 := hS'.2.2.2; go_simp <;> with_reducible rfl)
      simp only [Act.put, List.getElem_toArray, List.getElem_cons_succ, List.getElem_cons_zero, List.setIfInBounds_toArray, List.set]
      refine wpAnyH_take (i := 14) (v := ?_) rfl (by kernel_rfl) (by kernel_rfl) (by kernel_rfl) (fun _ _ _ h => h) (Or.inl ⟨by rfl, ?_⟩) hHeld ?_
      rotate_left
      · (intro w' hS'; have hq0 := hS'.1; have hq1 := hS'.2.1; have hq2 := hS'.2.2.1; have hq3 := hS'.2.2.2; go_simp <;> with_reducible rfl)
      simp only [Act.put, List.getElem_toArray, List.getElem_cons_succ, List.getElem_cons_zero, List.setIfInBounds_toArray, List.set]
      refine wpAnyH_take (i := 15) (v := ?_) rfl (by kernel_rfl) (by kernel_rfl) (by kernel_rfl) (fun _ _ _ h => h) (Or.inl ⟨by rfl, ?_⟩) hHeld ?_
      rotate_left
      · (intro w' hS'; have hq0 := hS'.1; have hq1 := hS'.2.1; have hq2 := hS'.2.2.1; have hq3 := hS'.2.2.2; go_simp <;> with_reducible rfl)
      simp only [Act.put, List.getElem_toArray, List.getElem_cons_succ, List.getElem_cons_zero, List.setIfInBounds_toArray, List.set]
      refine wpAnyH_take (i := 16) (v := ?_) rfl (by kernel_rfl) (by kernel_rfl) (by kernel_rfl) (fun _ _ _ h => h) (Or.inl ⟨by rfl, ?_⟩) hHeld ?_
      rotate_left
      · (intro w' hS'; have hq0 := hS'.1; have hq1 := hS'.2.1; have hq2 := hS'.2.2.1; have hq3 := hS'.2.2.2; go_simp <;> with_reducible rfl)
      simp only [Act.put, List.getElem_toArray, List.getElem_cons_succ, List.getElem_cons_zero, List.setIfInBounds_toArray, List.set]
      refine wpAnyH_take (i := 17) (v := ?_) rfl (by kernel_rfl) (by kernel_rfl) (by kernel_rfl) (fun _ _ _ h => h) (Or.inl ⟨by rfl, ?_⟩) hHeld ?_
      rotate_left
      · (intro w' hS'; have hq0 := hS'.1; have hq1 := hS'.2.1; have hq2 := hS'.2.2.1; have hq3 := hS'.2.2.2; go_simp <;> with_reducible rfl)
      simp only [Act.put, List.getElem_toArray, List.getElem_cons_succ, List.getElem_cons_zero, List.setIfInBounds_toArray, List.set]
      refine wpAnyH_take (i := 18) (v := ?_) rfl (by kernel_rfl) (by kernel_rfl) (by kernel_rfl) (fun _ _ _ h => h) (Or.inl ⟨by rfl, ?_⟩) hHeld ?_
      rotate_left
      · (intro w' hS'; have hq0 := hS'.1; have hq1 := hS'.2.1; have hq2 := hS'.2.2.1; have hq3 := hS'.2.2.2; go_simp <;> with_reducible rfl)
      simp only [Act.put, List.getElem_toArray, List.getElem_cons_succ, List.getElem_cons_zero, List.setIfInBounds_toArray, List.set]
      refine wpAnyH_ready (rs := [19]) (by kernel_rfl) (by simp) ?_
      refine AllReadyH.cons rfl (fun K hK => ?_) AllReadyH.nil
      go_simp
      refine (cS.out).mono ?_
      rintro e w1 ⟨rfl, ha, hk1⟩
      go_wp2_with fail
      refine hK.out _ _ (HSA.out _ ha hk1) (fun hHeld => ?_)
      clear hK K
      refine wpAnyH_take (i := 20) (v := ?_) rfl (by kernel_rfl) (by kernel_rfl) (by kernel_rfl) (fun _ _ _ h => h) (Or.inl ⟨by rfl, ?_⟩) hHeld ?_
      rotate_left
      · (intro w' hS'; go_simp <;> with_reducible rfl)
      simp only [Act.put, List.getElem_toArray, List.getElem_cons_succ, List.getElem_cons_zero, List.setIfInBounds_toArray, List.set]
      refine wpAnyH_take (i := 21) (v := ?_) rfl (by kernel_rfl) (by kernel_rfl) (by kernel_rfl) (fun _ _ _ h => h) (Or.inl ⟨by rfl, ?_⟩) hHeld ?_
      rotate_left
      · (intro w' hS'; go_simp <;> with_reducible rfl)
      simp only [Act.put, List.getElem_toArray, List.getElem_cons_succ, List.getElem_cons_zero, List.setIfInBounds_toArray, List.set]
      refine wpAnyH_take (i := 22) (v := ?_) rfl (by kernel_rfl) (by kernel_rfl) (by kernel_rfl) (fun _ _ _ h => h) (Or.inl ⟨by rfl, ?_⟩) hHeld ?_
      rotate_left
      · (intro w' hS'; go_simp <;> with_reducible rfl)
      simp only [Act.put, List.getElem_toArray, List.getElem_cons_succ, List.getElem_cons_zero, List.setIfInBounds_toArray, List.set]
      refine wpAnyH_take (i := 23) (v := ?_) rfl (by kernel_rfl) (by kernel_rfl) (by kernel_rfl) (fun _ _ _ h => h) (Or.inl ⟨by rfl, ?_⟩) hHeld ?_
      rotate_left
      · (intro w' hS'; go_simp <;> with_reducible rfl)
      simp only [Act.put, List.getElem_toArray, List.getElem_cons_succ, List.getElem_cons_zero, List.setIfInBounds_toArray, List.set]
      refine wpAnyH_take (i := 24) (v := ?_) rfl (by kernel_rfl) (by kernel_rfl) (by kernel_rfl) (fun _ _ _ h => h) (Or.inl ⟨by rfl, ?_⟩) hHeld ?_
      rotate_left
      · (intro w' hS'; go_simp <;> with_reducible rfl)
      simp only [Act.put, List.getElem_toArray, List.getElem_cons_succ, List.getElem_cons_zero, List.setIfInBounds_toArray, List.set]
      refine wpAnyH_take (i := 25) (v := ?_) rfl (by kernel_rfl) (by kernel_rfl) (by kernel_rfl) (fun _ _ _ h => h) (Or.inl ⟨by rfl, ?_⟩) hHeld ?_
      rotate_left
      · (intro w' hS'; go_simp <;> with_reducible rfl)
      simp only [Act.put, List.getElem_toArray, List.getElem_cons_succ, List.getElem_cons_zero, List.setIfInBounds_toArray, List.set]
      refine wpAnyH_take (i := 26) (v := ?_) rfl (by kernel_rfl) (by kernel_rfl) (by kernel_rfl) (fun _ _ _ h => h) (Or.inl ⟨by rfl, ?_⟩) hHeld ?_
      rotate_left
      · (intro w' hS'; go_simp <;> with_reducible rfl)
      simp only [Act.put, List.getElem_toArray, List.getElem_cons_succ, List.getElem_cons_zero, List.setIfInBounds_toArray, List.set]
      refine wpAnyH_done (by kernel_rfl) ?_ _
      clear hHeld
      clear hSS HSA
      have HR3 := Hid.mk' (HR2.out.turn ha hk1)
      have HK3 := Hid.mk' (HK2.out.trans hk1 (fun j _ e => .inr e))
      clear ha hk1 HR2 HK2 cS
      by_cases h0 : Pn = 0
      · subst h0
        have HU2 := Hid.mk' HU1.out
        obtain ⟨q0, q1, qf⟩ := HR3.out.cells
        have qf1 := qf 1
        have HR4 := Hid.mk' (HR3.out.setLast Pa)
        have HK4 : Hid (Keep (fun j => j = t ∨ j = b) w (w1.setCell ⟨t, 1, none⟩ (nu Pa))) := HK3.out.setCell (p := ⟨t, 1, none⟩) (.inl (.inl rfl)) _
        clear qf HR3 HK3 HU1
        go_upto_region 10 with fail
        generalize w1.setCell ⟨t, 1, none⟩ (nu Pa) = w2 at *
        clear q0 q1 qf1
        have hD3 : Below w2.heap.size w2 w2.drew := (Below.refl _ _).drew
        have HR5 := Hid.mk' (HR4.out.below hD3)
        have HK5 : Hid (Keep (fun j => j = t ∨ j = b) w w2.drew) := HK4.out.drew
        have cE := Hid.mk' (cD.out _ HR5.out.ar)
        have hS : w2.cell? ⟨t, 0, none⟩ = some (ptr g) ∧ w2.cell? ⟨t, 1, none⟩ = some (nu Pa) := ⟨HR4.out.cells.1, HR4.out.cells.2.1⟩
        clear hD3 cD HR4 HK4
        refine wp_region_held_drew (S := fun w' => w'.cell? ⟨t, 0, none⟩ = some (ptr g) ∧ w'.cell? ⟨t, 1, none⟩ = some (nu Pa)) (by kernel_rfl) hS (fun hHeld => ?_)
        refine wpAnyH_take (i := 0) (v := ?_) rfl (by kernel_rfl) (by kernel_rfl) (by kernel_rfl) (fun _ _ _ h => h) (Or.inl ⟨by rfl, ?_⟩) hHeld ?_
        rotate_left
        · (intro w' hS'; have hq0 := hS'.1; have hq1 := hS'.2; go_simp <;> with_reducible rfl)
        simp only [Act.put, List.getElem_toArray, List.getElem_cons_succ, List.getElem_cons_zero, List.setIfInBounds_toArray, List.set]
        refine wpAnyH_take (i := 1) (v := ?_) rfl (by kernel_rfl) (by kernel_rfl) (by kernel_rfl) (fun _ _ _ h => h) (Or.inl ⟨by rfl, ?_⟩) hHeld ?_
        rotate_left
        · (intro w' hS'; have hq0 := hS'.1; have hq1 := hS'.2; go_simp <;> with_reducible rfl)
        simp only [Act.put, List.getElem_toArray, List.getElem_cons_succ, List.getElem_cons_zero, List.setIfInBounds_toArray, List.set]
        refine wpAnyH_take (i := 2) (v := ?_) rfl (by kernel_rfl) (by kernel_rfl) (by kernel_rfl) (fun _ _ _ h => h) (Or.inl ⟨by rfl, ?_⟩) hHeld ?_
        rotate_left
        · (intro w' hS'; have hq0 := hS'.1; have hq1 := hS'.2; go_simp <;> with_reducible rfl)
        simp only [Act.put, List.getElem_toArray, List.getElem_cons_succ, List.getElem_cons_zero, List.setIfInBounds_toArray, List.set]
        refine wpAnyH_take (i := 3) (v := ?_) rfl (by kernel_rfl) (by kernel_rfl) (by kernel_rfl) (fun _ _ _ h => h) (Or.inl ⟨by rfl, ?_⟩) hHeld ?_
        rotate_left
        · (intro w' hS'; have hq0 := hS'.1; have hq1 := hS'.2; go_simp <;> with_reducible rfl)
        simp only [Act.put, List.getElem_toArray, List.getElem_cons_succ, List.getElem_cons_zero, List.setIfInBounds_toArray, List.set]
        refine wpAnyH_take (i := 4) (v := ?_) rfl (by kernel_rfl) (by kernel_rfl) (by kernel_rfl) (fun _ _ _ h => h) (Or.inl ⟨by rfl, ?_⟩) hHeld ?_
        rotate_left
        · (intro w' hS'; have hq0 := hS'.1; have hq1 := hS'.2; go_simp <;> with_reducible rfl)
        simp only [Act.put, List.getElem_toArray, List.getElem_cons_succ, List.getElem_cons_zero, List.setIfInBounds_toArray, List.set]
        refine wpAnyH_take (i := 5) (v := ?_) rfl (by kernel_rfl) (by kernel_rfl) (by kernel_rfl) (fun _ _ _ h => h) (Or.inl ⟨by rfl, ?_⟩) hHeld ?_
        rotate_left
        · (intro w' hS'; have hq0 := hS'.1; have hq1 := hS'.2; go_simp <;> with_reducible rfl)
        simp only [Act.put, List.getElem_toArray, List.getElem_cons_succ, List.getElem_cons_zero, List.setIfInBounds_toArray, List.set]
        refine wpAnyH_take (i := 6) (v := ?_) rfl (by kernel_rfl) (by kernel_rfl) (by kernel_rfl) (fun _ _ _ h => h) (Or.inl ⟨by rfl, ?_⟩) hHeld ?_
        rotate_left
        · (intro w' hS'; have hq0 := hS'.1; have hq1 := hS'.2; go_simp <;> with_reducible rfl)
        simp only [Act.put, List.getElem_toArray, List.getElem_cons_succ, List.getElem_cons_zero, List.setIfInBounds_toArray, List.set]
        refine wpAnyH_take (i := 7) (v := ?_) rfl (by kernel_rfl) (by kernel_rfl) (by kernel_rfl) (fun _ _ _ h => h) (Or.inl ⟨by rfl, ?_⟩) hHeld ?_
        rotate_left
        · (intro w' hS'; have hq0 := hS'.1; have hq1 := hS'.2; go_simp <;> with_reducible rfl)
        simp only [Act.put, List.getElem_toArray, List.getElem_cons_succ, List.getElem_cons_zero, List.setIfInBounds_toArray, List.set]
        refine wpAnyH_take (i := 8) (v := ?_) rfl (by kernel_rfl) (by kernel_rfl) (by kernel_rfl) (fun _ _ _ h => h) (Or.inl ⟨by rfl, ?_⟩) hHeld ?_
        rotate_left
        · (intro w' hS'; have hq0 := hS'.1; have hq1 := hS'.2; go_simp <;> with_reducible rfl)
        simp only [Act.put, List.getElem_toArray, List.getElem_cons_succ, List.getElem_cons_zero, List.setIfInBounds_toArray, List.set]
        refine wpAnyH_ready (rs := [9]) (by kernel_rfl) (by simp) ?_
        refine AllReadyH.cons rfl (fun K hK => ?_) AllReadyH.nil
        go_simp
        refine (cE.out).mono ?_
        rintro e w3 ⟨rfl, ha, hk1⟩
        go_wp2_with fail
        refine hK.out _ _ (by have := (HR5.out.turn ha hk1).cells; exact ⟨this.1, this.2.1⟩) (fun hHeld => ?_)
        clear hK K
        refine wpAnyH_take (i := 10) (v := ?_) rfl (by kernel_rfl) (by kernel_rfl) (by kernel_rfl) (fun _ _ _ h => h) (Or.inl ⟨by rfl, ?_⟩) hHeld ?_
        rotate_left
        · (intro w' hS'; go_simp <;> with_reducible rfl)
        simp only [Act.put, List.getElem_toArray, List.getElem_cons_succ, List.getElem_cons_zero, List.setIfInBounds_toArray, List.set]
        refine wpAnyH_take (i := 11) (v := ?_) rfl (by kernel_rfl) (by kernel_rfl) (by kernel_rfl) (fun _ _ _ h => h) (Or.inl ⟨by rfl, ?_⟩) hHeld ?_
        rotate_left
        · (intro w' hS'; go_simp <;> with_reducible rfl)
        simp only [Act.put, List.getElem_toArray, List.getElem_cons_succ, List.getElem_cons_zero, List.setIfInBounds_toArray, List.set]
        refine wpAnyH_take (i := 12) (v := ?_) rfl (by kernel_rfl) (by kernel_rfl) (by kernel_rfl) (fun _ _ _ h => h) (Or.inl ⟨by rfl, ?_⟩) hHeld ?_
        rotate_left
        · (intro w' hS'; go_simp <;> with_reducible rfl)
        simp only [Act.put, List.getElem_toArray, List.getElem_cons_succ, List.getElem_cons_zero, List.setIfInBounds_toArray, List.set]
        refine wpAnyH_take (i := 13) (v := ?_) rfl (by kernel_rfl) (by kernel_rfl) (by kernel_rfl) (fun _ _ _ h => h) (Or.inl ⟨by rfl, ?_⟩) hHeld ?_
        rotate_left
        · (intro w' hS'; go_simp <;> with_reducible rfl)
        simp only [Act.put, List.getElem_toArray, List.getElem_cons_succ, List.getElem_cons_zero, List.setIfInBounds_toArray, List.set]
        refine wpAnyH_take (i := 14) (v := ?_) rfl (by kernel_rfl) (by kernel_rfl) (by kernel_rfl) (fun _ _ _ h => h) (Or.inl ⟨by rfl, ?_⟩) hHeld ?_
        rotate_left
        · (intro w' hS'; go_simp <;> with_reducible rfl)
        simp only [Act.put, List.getElem_toArray, List.getElem_cons_succ, List.getElem_cons_zero, List.setIfInBounds_toArray, List.set]
        refine wpAnyH_take (i := 15) (v := ?_) rfl (by kernel_rfl) (by kernel_rfl) (by kernel_rfl) (fun _ _ _ h => h) (Or.inl ⟨by rfl, ?_⟩) hHeld ?_
        rotate_left
        · (intro w' hS'; go_simp <;> with_reducible rfl)
        simp only [Act.put, List.getElem_toArray, List.getElem_cons_succ, List.getElem_cons_zero, List.setIfInBounds_toArray, List.set]
        refine wpAnyH_done (by kernel_rfl) ?_ _
        clear hHeld
        clear hS cE
        have HR6 := Hid.mk' (HR5.out.turn ha hk1)
        have HK6 := Hid.mk' (HK5.out.trans hk1 (fun j _ e => .inr e))
        clear ha hk1 HR5 HK5
        by_cases h0 : Qn = 0
        · subst h0
          obtain ⟨q0, q1, qf⟩ := HR6.out.cells
          have qf1 := qf 1
          have HR7 := Hid.mk' (HR6.out.setLast Qa)
          have HK7 : Hid (Keep (fun j => j = t ∨ j = b) w (w3.setCell ⟨t, 1, none⟩ (nu Qa))) := HK6.out.setCell (p := ⟨t, 1, none⟩) (.inl (.inl rfl)) _
          clear qf HR6 HK6
          go_upto_region 14 with fail
          generalize w3.setCell ⟨t, 1, none⟩ (nu Qa) = w4 at *
          clear q0 q1 qf1
          obtain ⟨q0, q1, _⟩ := HR7.out.cells
          have cG := Hid.mk' (cF.out _ _ HR7.out (Nat.le_trans HBS.out HK7.out.size))
          clear cF
          go_wp2_with fail
          refine cG.out.mono ?_
          rintro e w5 ⟨he, HL⟩
          clear q0 q1 cG
          rcases he with ⟨hin, rfl⟩ | ⟨hin, rfl⟩
          · have HE : Hid (U = ⟨0, false, Qs, A.fr, Qa⟩ ∧ LeftG base w w5 t g (gfp t g (.slice (some ⟨b, 0, none⟩) 32 cap) fv) ⟨Qs, A.fr, A.wr⟩ Qa) := by
              have h1 := HU2.out
              rw [if_neg (fun q => q rfl), if_neg (fun q => q rfl), if_pos hin] at h1
              have h2 := HL.out
              rw [if_pos hin] at h2
              exact ⟨h1, h2.trans HK7.out⟩
            clear hin HL HU2 HR7 HK7
            go_wp2
            go_ret2
            rw [HE.out.1]
            exact ⟨rfl, 0, by omega, HE.out.2⟩
          · have HE : Hid (U = ⟨n, true, Qs.set n bare, n :: A.fr, Qa⟩ ∧ LeftG base w w5 t g (gfp t g (.slice (some ⟨b, 0, none⟩) 32 cap) fv) ⟨Qs.set n bare, n :: A.fr, A.wr + 1⟩ Qa) := by
              have h1 := HU2.out
              rw [if_neg (fun q => q rfl), if_neg (fun q => q rfl), if_neg hin] at h1
              have h2 := HL.out
              rw [if_neg hin] at h2
              exact ⟨h1, h2.trans HK7.out⟩
            clear hin HL HU2 HR7 HK7
            go_wp2
            go_ret2
            rw [HE.out.1]
            exact ⟨rfl, 1, by omega, HE.out.2⟩
        · have hb0 : ((Qn : Int) == 0) = false := by simpa using h0
          have hb1 : (!((Qn : Int) == 0)) = true := by rw [hb0]; rfl
          have HE : Hid (U = ⟨0, false, Qs, A.fr, Pa⟩ ∧ LeftG base w w3 t g (gfp t g (.slice (some ⟨b, 0, none⟩) 32 cap) fv) ⟨Qs, A.fr, A.wr⟩ Pa) := by
            have h1 := HU2.out
            rw [if_neg (fun q => q rfl), if_pos h0] at h1
            exact ⟨h1, leftG_of HR6.out HBS.out HK6.out⟩
          clear HU2 HR6 HK6 h0
          go_wp2
          go_ret2
          rw [HE.out.1]
          exact ⟨rfl, 0, by omega, HE.out.2⟩
      · have hb0 : ((Pn : Int) == 0) = false := by simpa using h0
        have hb1 : (!((Pn : Int) == 0)) = true := by rw [hb0]; rfl
        have HE : Hid (U = ⟨0, false, Ps, A.fr, m⟩ ∧ LeftG base w w1 t g (gfp t g (.slice (some ⟨b, 0, none⟩) 32 cap) fv) ⟨Ps, A.fr, A.wr⟩ m) := by
          have h1 := HU1.out
          rw [if_pos h0] at h1
          exact ⟨h1, leftG_of HR3.out HBS.out HK3.out⟩
        clear HU1 HR3 HK3 h0
        go_wp2
        go_ret2
        rw [HE.out.1]
        exact ⟨rfl, 0, by omega, HE.out.2⟩
    · rw [decide_eq_false hft] at c1
      have HE : Hid (U = ⟨0, false, A.sl, A.fr, m⟩ ∧ LeftG base w w.drew t g (gfp t g (.slice (some ⟨b, 0, none⟩) 32 cap) fv) ⟨A.sl, A.fr, A.wr⟩ m) := ⟨HU0.out hft, leftG_of HR1.out hbs HK1.out⟩
      clear h hl hc hg hok h1 hlt hf HU0 HU hU hD1 hbs HL0 HR0 HR1 HK1 hft
      go_enter Tryz.func27, Tryz.ntmps27
      go_upto_region 3 with fail
      refine wp_region_held_drew (S := fun w' => w'.cell? ⟨t, 0, none⟩ = some (ptr g) ∧ w'.cell? ⟨t, 1, none⟩ = some (nu m) ∧ w'.cell? ⟨g, 0, none⟩ = some (.slice (some ⟨b, 0, none⟩) 32 cap) ∧ w'.cell? ⟨b, m * 17 + 4, none⟩ = some (nu f)) (by kernel_rfl) hS (fun hHeld => ?_)
      refine wpAnyH_take (i := 0) (v := ?_) rfl (by kernel_rfl) (by kernel_rfl) (by kernel_rfl) (fun _ _ _ h => h) (Or.inl ⟨by rfl, ?_⟩) hHeld ?_
      rotate_left
      · (intro w' hS'; have hq0 := hS'.1; have hq1 := hS'.2.1; have hq2 := hS'.2.2.1; have hq3 := hS'.2.2.2; go_simp <;> with_reducible rfl)
      simp only [Act.put, List.getElem_toArray, List.getElem_cons_succ, List.getElem_cons_zero, List.setIfInBounds_toArray, List.set]
      refine wpAnyH_take (i := 1) (v := ?_) rfl (by kernel_rfl) (by kernel_rfl) (by kernel_rfl) (fun _ _ _ h => h) (Or.inl ⟨by rfl, ?_⟩) hHeld ?_
      rotate_left
      · (intro w' hS'; have hq0 := hS'.1; have hq1 := hS'.2.1; have hq2 := hS'.2.2.1; have hq3 := hS'.2.2.2; go_simp <;> with_reducible rfl)
      simp only [Act.put, List.getElem_toArray, List.getElem_cons_succ, List.getElem_cons_zero, List.setIfInBounds_toArray, List.set]
      refine wpAnyH_take (i := 2) (v := ?_) rfl (by kernel_rfl) (by kernel_rfl) (by kernel_rfl) (fun _ _ _ h => h) (Or.inl ⟨by rfl, ?_⟩) hHeld ?_
      rotate_left
      · (intro w' hS'; have hq0 := hS'.1; have hq1 := hS'.2.1; have hq2 := hS'.2.2.1; have hq3 := hS'.2.2.2; go_simp <;> with_reducible rfl)
      simp only [Act.put, List.getElem_toArray, List.getElem_cons_succ, List.getElem_cons_zero, List.setIfInBounds_toArray, List.set]
      refine wpAnyH_take (i := 3) (v := ?_) rfl (by kernel_rfl) (by kernel_rfl) (by kernel_rfl) (fun _ _ _ h => h) (Or.inl ⟨by rfl, ?_⟩) hHeld ?_
      rotate_left
      · (intro w' hS'; have hq0 := hS'.1; have hq1 := hS'.2.1; have hq2 := hS'.2.2.1; have hq3 := hS'.2.2.2; go_simp <;> with_reducible rfl)
      simp only [Act.put, List.getElem_toArray, List.getElem_cons_succ, List.getElem_cons_zero, List.setIfInBounds_toArray, List.set]
      refine wpAnyH_take (i := 4) (v := ?_) rfl (by kernel_rfl) (by kernel_rfl) (by kernel_rfl) (fun _ _ _ h => h) (Or.inl ⟨by rfl, ?_⟩) hHeld ?_
      rotate_left
      · (intro w' hS'; have hq0 := hS'.1; have hq1 := hS'.2.1; have hq2 := hS'.2.2.1; have hq3 := hS'.2.2.2; go_simp <;> with_reducible rfl)
      simp only [Act.put, List.getElem_toArray, List.getElem_cons_succ, List.getElem_cons_zero, List.setIfInBounds_toArray, List.set]
      refine wpAnyH_take (i := 5) (v := ?_) rfl (by kernel_rfl) (by kernel_rfl) (by kernel_rfl) (fun _ _ _ h => h) (Or.inl ⟨by rfl, ?_⟩) hHeld ?_
      rotate_left
      · (intro w' hS'; have hq0 := hS'.1; have hq1 := hS'.2.1; have hq2 := hS'.2.2.1; have hq3 := hS'.2.2.2; go_simp <;> with_reducible rfl)
      simp only [Act.put, List.getElem_toArray, List.getElem_cons_succ, List.getElem_cons_zero, List.setIfInBounds_toArray, List.set]
      refine wpAnyH_take (i := 6) (v := ?_) rfl (by kernel_rfl) (by kernel_rfl) (by kernel_rfl) (fun _ _ _ h => h) (Or.inl ⟨by rfl, ?_⟩) hHeld ?_
      rotate_left
      · (intro w' hS'; have hq0 := hS'.1; have hq1 := hS'.2.1; have hq2 := hS'.2.2.1; have hq3 := hS'.2.2.2; go_simp <;> with_reducible rfl)
      simp only [Act.put, List.getElem_toArray, List.getElem_cons_succ, List.getElem_cons_zero, List.setIfInBounds_toArray, List.set]
      refine wpAnyH_take (i := 7) (v := ?_) rfl (by kernel_rfl) (by kernel_rfl) (by kernel_rfl) (fun _ _ _ h => h) (Or.inl ⟨by rfl, ?_⟩) hHeld ?_
      rotate_left
      · (intro w' hS'; have hq0 := hS'.1; have hq1 := hS'.2.1; have hq2 := hS'.2.2.1; have hq3 := hS'.2.2.2; go_simp <;> with_reducible rfl)
      simp only [Act.put, List.getElem_toArray, List.getElem_cons_succ, List.getElem_cons_zero, List.setIfInBounds_toArray, List.set]
      refine wpAnyH_take (i := 8) (v := ?_) rfl (by kernel_rfl) (by kernel_rfl) (by kernel_rfl) (fun _ _ _ h => h) (Or.inl ⟨by rfl, ?_⟩) hHeld ?_
      rotate_left
      · (intro w' hS'; have hq0 := hS'.1; have hq1 := hS'.2.1; have hq2 := hS'.2.2.1; have hq3 := hS'.2.2.2; go_simp <;> with_reducible rfl)
      simp only [Act.put, List.getElem_toArray, List.getElem_cons_succ, List.getElem_cons_zero, List.setIfInBounds_toArray, List.set]
      refine wpAnyH_take (i := 9) (v := ?_) rfl (by kernel_rfl) (by kernel_rfl) (by kernel_rfl) (fun _ _ _ h => h) (Or.inl ⟨by rfl, ?_⟩) hHeld ?_
      rotate_left
      · (intro w' hS'; have hq0 := hS'.1; have hq1 := hS'.2.1; have hq2 := hS'.2.2.1; have hq3 := hS'.2.2.2; go_simp <;> with_reducible rfl)
      simp only [Act.put, List.getElem_toArray, List.getElem_cons_succ, List.getElem_cons_zero, List.setIfInBounds_toArray, List.set]
      refine wpAnyH_take (i := 10) (v := ?_) rfl (by kernel_rfl) (by kernel_rfl) (by kernel_rfl) (fun _ _ _ h => h) (Or.inl ⟨by rfl, ?_⟩) hHeld ?_
      rotate_left
      · (intro w' hS'; have hq0 := hS'.1; have hq1 := hS'.2.1; have hq2 := hS'.2.2.1; have hq3 := hS'.2.2.2; go_simp <;> with_reducible rfl)
      simp only [Act.put, List.getElem_toArray, List.getElem_cons_succ, List.getElem_cons_zero, List.setIfInBounds_toArray, List.set]
      refine wpAnyH_take (i := 11) (v := ?_) rfl (by kernel_rfl) (by kernel_rfl) (by kernel_rfl) (fun _ _ _ h => h) (Or.inl ⟨by rfl, ?_⟩) hHeld ?_
      rotate_left
      · (intro w' hS'; have hq0 := hS'.1; have hq1 := hS'.2.1; have hq2 := hS'.2.2.1; have hq3 := hS'.2.2.2; go_simp <;> with_reducible rfl)
      simp only [Act.put, List.getElem_toArray, List.getElem_cons_succ, List.getElem_cons_zero, List.setIfInBounds_toArray, List.set]
      refine wpAnyH_take (i := 12) (v := ?_) rfl (by kernel_rfl) (by kernel_rfl) (by kernel_rfl) (fun _ _ _ h => h) (Or.inl ⟨by rfl, ?_⟩) hHeld ?_
      rotate_left
      · (intro w' hS'; have hq0 := hS'.1; have hq1 := hS'.2.1; have hq2 := hS'.2.2.1; have hq3 := hS'.2.2.2; go_simp <;> with_reducible rfl)
      simp only [Act.put, List.getElem_toArray, List.getElem_cons_succ, List.getElem_cons_zero, List.setIfInBounds_toArray, List.set]
      refine wpAnyH_take (i := 13) (v := ?_) rfl (by kernel_rfl) (by kernel_rfl) (by kernel_rfl) (fun _ _ _ h => h) (Or.inl ⟨by rfl, ?_⟩) hHeld ?_
      rotate_left
      · (intro w' hS'; have hq0 := hS'.1; have hq1 := hS'.2.1; have hq2 := hS'.2.2.1; have hq3 := hS'.2.2.2; go_simp <;> with_reducible rfl)
      simp only [Act.put, List.getElem_toArray, List.getElem_cons_succ, List.getElem_cons_zero, List.setIfInBounds_toArray, List.set]
      refine wpAnyH_take (i := 14) (v := ?_) rfl (by kernel_rfl) (by kernel_rfl) (by kernel_rfl) (fun _ _ _ h => h) (Or.inl ⟨by rfl, ?_⟩) hHeld ?_
      rotate_left
      · (intro w' hS'; have hq0 := hS'.1; have hq1 := hS'.2.1; have hq2 := hS'.2.2.1; have hq3 := hS'.2.2.2; go_simp <;> with_reducible rfl)
      simp only [Act.put, List.getElem_toArray, List.getElem_cons_succ, List.getElem_cons_zero, List.setIfInBounds_toArray, List.set]
      refine wpAnyH_done (by kernel_rfl) ?_ _
      clear hHeld
      clear hS q0 q1 q2 q3
      go_wp2_with (first | (go_at_call 41; refine (c1.out _).mono ?_; rintro e w1 ⟨rfl, hw1⟩; subst w1) | fail)
      go_ret2
      rw [HE.out.1]
      exact ⟨rfl, 0, by omega, HE.out.2⟩
end Sw
end Go.Proofs.YthabnombfbehkaaGreatDoor
/- The document's garbage: has, with, All. -/
namespace Go.Proofs.YthabnombfbehkaaGreatDoor
set_option linter.ambiguousOpen false
open Go.RowKit
namespace Sw
open An Rg Ft Lv
set_option linter.unusedSimpArgs false
set_option linter.unusedVariables false

set_option maxRecDepth 100000 in
set_option maxHeartbeats 1000000 in
theorem hasG_ref (v : Value) (l : List Nat) (x : Nat) (w : World) (h : RdN w v l) :
    Calls Tryz.prog 61 #[v, nun x] w fun e w' => e = .returned (.bool (decide (x ∈ l))) ∧ w' = w := by
  obtain ⟨r, hr⟩ : ∃ r, decide (x ∈ l) = r := ⟨_, rfl⟩
  rw [hr]
  have HR := Hid.mk' hr
  obtain ⟨a, cap, rfl, h1, h2, h3⟩ := h
  obtain ⟨n, hn⟩ : ∃ n, l.length = n := ⟨_, rfl⟩
  rw [hn] at h1 ⊢
  unfold maxLen at h2
  have HN := Hid.mk' hn
  have H3 := Hid.mk' h3
  have hcI : (cap : Int) ≤ 9223372036854775807 := by omega
  clear hr hn h3
  go_enter Tryz.func61, Tryz.ntmps61
  go_wp2
  go_loopw [5] (fun kv wr => ∃ k : Nat, k ≤ n ∧ kv = nun k ∧ Hid (wr = w ∧ x ∉ l.take k)) (fun kv _ => n - (intOf kv).toNat)
  case atStart => exact ⟨0, Nat.zero_le _, rfl, rfl, by simp⟩
  case round =>
    obtain ⟨k, hk, rfl, HK⟩ := hrel
    have hwr := HK.out.1
    subst hwr
    by_cases hlt : k < n
    · have hkI : (k : Int) < (n : Int) := by omega
      obtain ⟨y, hy⟩ : ∃ y, l[k]? = some y := ⟨_, List.getElem?_eq_getElem (by rw [HN.out]; exact hlt)⟩
      obtain ⟨g, rfl, hgl, hc⟩ := H3.out (by rw [HN.out]; omega)
      have hcy := hc k y hy
      have htk : l.take k ++ [y] = l.take (k + 1) := by
        obtain ⟨h1, rfl⟩ := List.getElem?_eq_some_iff.1 hy
        exact (List.take_succ_eq_append_getElem h1).symm
      by_cases he : y = x
      · have hb : ((y : Int) == (x : Int)) = true := by simp [he]
        have hrt : Hid (r = true) := by
          show _ = _
          rw [← HR.out]
          exact decide_eq_true (he ▸ List.mem_of_getElem? hy)
        clear hc hy htk he
        go_wp2
        go_ret
        exact ⟨by rw [hrt.out]; rfl, rfl⟩
      · have hb : ((y : Int) == (x : Int)) = false := by simp; omega
        have HK2 : Hid (wr = wr ∧ x ∉ l.take (k + 1)) := by
          refine ⟨rfl, ?_⟩
          rw [← htk]
          intro hm
          rcases List.mem_append.1 hm with hm | hm
          · exact HK.out.2 hm
          · simp at hm
            exact he hm.symm
        clear hc hy htk he HK
        go_wp2
        go_roundw
        case rel => exact ⟨k + 1, by omega, by go_num, ⟨by simp, HK2.out.2⟩⟩
        case measure => simp [intOf]; omega
    · have hkI : ¬ (k : Int) < (n : Int) := by omega
      have hrf : Hid (r = false) := by
        show _ = _
        rw [← HR.out]
        have := HK.out.2
        rw [List.take_of_length_le (by rw [HN.out]; omega)] at this
        exact decide_eq_false this
      clear HK
      go_wp2
      go_ret
      exact ⟨by rw [hrf.out]; rfl, rfl⟩


theorem add_at (g j : Nat) : (⟨g, 0, none⟩ : Addr).add j = ⟨g, j, none⟩ := by
  simp only [Addr.add]
  split
  · rename_i h
    rw [h]
  · simp

/-- One number more; what lay in the old row lies there still. -/
theorem run_append1 (w : World) (ty : TypeId) (base n : Nat) (v : Value) (xs : List Value) (hown : w.ownsRow base 3 1 v n xs) (a : Nat) (x : Nat) (hx : w.cell? ⟨a, 0, none⟩ = some (nun x)) (hn : n ≤ 1000) (hbase : base ≤ w.heap.size) :
    ∃ v' w', (Builtin.append_ #[55, 55] ty #[v, .slice (some ⟨a, 0, none⟩) 1 1]).run Tryz.prog w = .ok v' w' ∧ w'.ownsRow base 3 1 v' (n + 1) (xs ++ [nun x]) ∧ w.grownBy w' v.ownBlock ∧ (v'.ownBlock = v.ownBlock ∨ v'.ownBlock = some w.heap.size) ∧ ∀ g j u, v.ownBlock = some g → xs[j]? = some u → w'.cell? ⟨g, j, none⟩ = some u := by
  obtain ⟨i0, ji, hz0, hz1, hz2⟩ := info_parts info_int
  have hnews : ∀ (j : Nat) (u : Value), [nun x][j]? = some u → w.cell? ((⟨a, 0, none⟩ : Addr).add j) = some u := fun j u hu => by
    rcases j with _ | j
    · simp at hu
      subst hu
      simpa [Addr.add] using hx
    · simp at hu
  obtain ⟨v', w', hr, ho, hg, _, hat⟩ := run_append_own_at (P := Tryz.prog) w base 55 ty 3 i0 (.int .i64 0) 1 8 Tryz.underlying55 ji hz0 hz1 hz2 rfl (by decide) v n xs hown ⟨a, 0, none⟩ 1 1 [nun x] rfl hnews (by simp [Value.oneCell']) (by unfold maxLen; omega) (by omega) hbase
  refine ⟨v', w', hr, ho, hg, hat, fun g j u hv hu => ?_⟩
  rcases hat with e | e
  · have hj : j < xs.length := (List.getElem?_eq_some_iff.1 hu).1
    have h2 := ho.cells (g := g) (by rw [e]; exact hv) j u (by rw [List.getElem?_append_left hj]; exact hu)
    rwa [add_at] at h2
  · rcases hown.2 with ⟨rfl, _⟩ | ⟨g', cap, cur, rfl, hbg, hgc, hnc, hcm, hcs, htake⟩
    · simp [Value.ownBlock] at hv
    · obtain rfl : g' = g := by simpa [Value.ownBlock] using hv
      have hlt := (Array.getElem?_eq_some_iff.1 hgc).1
      have holds : ∀ (j : Nat) (u : Value), xs[j]? = some u → w.cell? ((⟨g', 0, none⟩ : Addr).add j) = some u := hown.cells (g := g') rfl
      by_cases hroom : n + 1 ≤ cap
      · have h3 := run_append_room (P := Tryz.prog) w 55 ty 3 i0 Tryz.underlying55 ji g' n cap cur hgc ⟨a, 0, none⟩ 1 1 [nun x] (by rw [hz1]; rfl) hnews (by simp [Value.oneCell']) hroom (by rw [hz1, hcs, Nat.mul_one, Nat.mul_one]; simpa using hroom)
        rw [hr] at h3
        have h4 : v' = .slice (some ⟨g', 0, none⟩) (n + 1) cap := by injection h3
        rw [h4] at e
        have : g' = w.heap.size := by simpa [Value.ownBlock] using e
        omega
      · have h3 := run_append_grow (P := Tryz.prog) w 55 ty 3 i0 (.int .i64 0) Tryz.underlying55 ji hz0 ⟨g', 0, none⟩ n cap xs (by rw [hz1]; exact hown.1) holds ⟨a, 0, none⟩ 1 1 [nun x] (by rw [hz1]; rfl) hnews (by omega) (by omega) (growslice_fits (by omega) (by rw [hz2]; omega))
        rw [hr] at h3
        have h4 : w' = w.drew.alloc (.cells (xs.toArray ++ [nun x].toArray ++ Builtin.zeroCells (Value.int .i64 0).cells (grownCap w (n + 1) cap 3 - (n + 1))) 3) := by injection h3
        rw [h4]
        have h5 := holds j u hu
        have h6 : (w.drew.alloc (.cells (xs.toArray ++ [nun x].toArray ++ Builtin.zeroCells (Value.int .i64 0).cells (grownCap w (n + 1) cap 3 - (n + 1))) 3)).heap[g']? = w.heap[g']? := heap_alloc_old w.drew _ hlt
        rw [World.cell?_of_block (w := w) h6]
        rwa [add_at] at h5

set_option maxRecDepth 100000 in
theorem wpList_append1 {ops : Array Oper} {rest : List Oper} {o : Oper} {a : Act} {w : World} {Q : Exit → Act → World → Prop} (hgd : o.guard = none) (s x : Operand)
    (ho : o.op = .call { callee := .builtin .append, args := #[s, x], argTypes := #[55, 55] })
    (base n : Nat) (v : Value) (xs : List Value) (hs : a.eval s = v) (hown : w.ownsRow base 3 1 v n xs) (b y : Nat) (hx : a.eval x = .slice (some ⟨b, 0, none⟩) 1 1) (hy : w.cell? ⟨b, 0, none⟩ = some (nun y)) (hn : n ≤ 1000) (hbase : base ≤ w.heap.size)
    (h : ∀ v' w', w'.ownsRow base 3 1 v' (n + 1) (xs ++ [nun y]) → w.grownBy w' v.ownBlock → (v'.ownBlock = v.ownBlock ∨ v'.ownBlock = some w.heap.size) → (∀ g j u, v.ownBlock = some g → xs[j]? = some u → w'.cell? ⟨g, j, none⟩ = some u) → wpList Tryz.prog ops Q rest (a.put o.dst v') w') :
    wpList Tryz.prog ops Q (o :: rest) a w := by
  refine wpList_plain hgd fun K hK => ?_
  obtain ⟨v', w', hr, h2, h3, h4, h5⟩ := run_append1 w o.type base n v xs hown b y hy hn hbase
  unfold Oper.wp execOp
  simp only [ho, resolve, invoke, builtin, Sem.run_bind, Sem.run_pure, Result.andThen_ok, List.map_toArray, List.map_cons, List.map_nil, hs, hx, hr]
  exact hK _ _ (h v' w' h2 h3 h4 h5)

theorem wit_snoc (l m : List Nat) (x : Nat) : wit l (m ++ [x]) = if x ∈ wit l m then wit l m else wit l m ++ [x] := by
  unfold wit
  rw [List.foldl_append]
  rfl

/-- What lay in a row lies there still. -/
def Kept (v : Value) (l : List Nat) (w : World) : Prop := ∀ g j u, v.ownBlock = some g → (l.map nun)[j]? = some u → w.cell? ⟨g, j, none⟩ = some u

/-- Amid with. -/
structure Wt (base : Nat) (w wr : World) (v : Value) (l : List Nat) (v2 : Value) (m : List Nat) (k : Nat) (lv : Value) (n : Nat) : Prop where
  own : wr.ownsRow base 3 1 lv n ((wit l (m.take k)).map nun)
  own2 : wr.ownsRow 0 3 1 v2 m.length (m.map nun)
  sep : ∀ g, lv.ownBlock = some g → v2.ownBlock ≠ some g
  bel : Below base w wr
  kept : ∀ g j u, v.ownBlock = some g → (l.map nun)[j]? = some u → wr.cell? ⟨g, j, none⟩ = some u
  vlt : ∀ g, v.ownBlock = some g → g < w.heap.size

section
variable {base : Nat} {w wr w' : World} {v v2 lv v' : Value} {l m : List Nat} {k n : Nat}

theorem Wt.len (h : Wt base w wr v l v2 m k lv n) : (wit l (m.take k)).length = n := by
  have := h.own.1
  simpa using this

theorem Wt.same (h : Wt base w wr v l v2 m k lv n) {x : Nat} (hx : m[k]? = some x) (hi : x ∈ wit l (m.take k)) : Wt base w wr v l v2 m (k + 1) lv n := by
  have e : wit l (m.take (k + 1)) = wit l (m.take k) := by
    rw [List.take_add_one, hx]
    show wit l (m.take k ++ [x]) = _
    rw [wit_snoc, if_pos hi]
  exact ⟨by rw [e]; exact h.own, h.own2, h.sep, h.bel, h.kept, h.vlt⟩

theorem Wt.more (h : Wt base w wr v l v2 m k lv n) {x : Nat} (hx : m[k]? = some x) (hi : x ∉ wit l (m.take k)) (hb : base ≤ w.heap.size) {o : Obj}
    (ho : w'.ownsRow base 3 1 v' (n + 1) ((wit l (m.take k)).map nun ++ [nun x])) (hg : (wr.alloc o).grownBy w' lv.ownBlock) (hat : v'.ownBlock = lv.ownBlock ∨ v'.ownBlock = some (wr.alloc o).heap.size) (hk : ∀ g j u, lv.ownBlock = some g → ((wit l (m.take k)).map nun)[j]? = some u → w'.cell? ⟨g, j, none⟩ = some u) : Wt base w w' v l v2 m (k + 1) v' (n + 1) := by
  have e : wit l (m.take (k + 1)) = wit l (m.take k) ++ [x] := by
    rw [List.take_add_one, hx]
    show wit l (m.take k ++ [x]) = _
    rw [wit_snoc, if_neg hi]
  have hsz := h.bel.size
  have hKp : Keep (fun j => lv.ownBlock = some j) wr w' := ((Keep.refl (fun j => lv.ownBlock = some j) wr).alloc o).grown hg (fun j e => .inl e)
  refine ⟨by rw [e, List.map_append]; exact ho, hKp.own h.own2 (fun g hg' e => h.sep g e hg'), fun g hg' e2 => ?_, h.bel.trans (hKp.below (fun j hj e => by have := (h.own.lt j e).1; omega) (Nat.le_trans hb hsz)), fun g j u hv hu => ?_, h.vlt⟩
  · rcases hat with e3 | e3
    · exact h.sep g (by rw [← e3]; exact hg') e2
    · rw [e3] at hg'
      have h1 := (h.own2.lt g e2).2
      have : (wr.alloc o).heap.size = g := Option.some.inj hg'
      rw [World.size_alloc] at this
      omega
  · by_cases hsame : lv.ownBlock = some g
    · obtain ⟨r, hr⟩ := wit_pre (m.take k) l
      refine hk g j u hsame ?_
      have hj : j < (l.map nun).length := (List.getElem?_eq_some_iff.1 hu).1
      rw [hr, List.map_append, List.getElem?_append_left hj]
      exact hu
    · have h1 := h.kept g j u hv hu
      have h2 := h.vlt g hv
      rw [hKp.cell (p := ⟨g, j, none⟩) (by show g < _; omega) hsame]
      exact h1
end

set_option maxRecDepth 100000 in
set_option maxHeartbeats 4000000 in
theorem with_ref (base : Nat) (w : World) (v : Value) (l : List Nat) (v2 : Value) (m : List Nat) (ho : w.ownsRow base 3 1 v l.length (l.map nun)) (hm : w.ownsRow 0 3 1 v2 m.length (m.map nun)) (hs : ∀ g, v.ownBlock = some g → v2.ownBlock ≠ some g) (hl : Gl l) (hmm : ∀ x ∈ m, x < 32) (hb : base ≤ w.heap.size) :
    Calls Tryz.prog 34 #[v, v2] w fun e w' => ∃ a c, e = .returned (.slice a (wit l m).length c) ∧ Hid (w'.ownsRow base 3 1 (.slice a (wit l m).length c) (wit l m).length ((wit l m).map nun) ∧ Below base w w' ∧ Kept v l w') := by
  obtain ⟨a2, c2, rfl, hm1, hm2, hm3⟩ := Nm.own_shape hm
  obtain ⟨a1, c1, rfl, _⟩ := Nm.own_shape ho
  unfold maxLen at hm2
  obtain ⟨M, hM⟩ : ∃ M, m.length = M := ⟨_, rfl⟩
  rw [hM] at hm1 hm3
  have hMI : (c2 : Int) ≤ 9223372036854775807 := by omega
  have HM := Hid.mk' hM
  have HGl : Hid (∀ k, Gl (wit l (m.take k))) := fun k => hl.wit (fun x hx => hmm x (List.mem_of_mem_take hx))
  have HW0 : Hid (Wt base w w (.slice a1 l.length c1) l (.slice a2 m.length c2) m 0 (.slice a1 l.length c1) l.length) := ⟨by simpa [wit] using ho, hm, hs, Below.refl _ _, fun g j u hv hu => by have := ho.cells (g := g) hv j u hu; rwa [add_at] at this, fun g hg => (ho.lt g hg).2⟩
  have cH : Hid (∀ (wx : World) (v : Value) (l : List Nat) (x : Nat), RdN wx v l → _) := fun wx v l x h => hasG_ref v l x wx h
  rw [hM] at HW0 ⊢
  have HB := Hid.mk' hb
  have HM3 := Hid.mk' hm3
  clear ho hm hs hl hmm hM hb hm3
  go_enter Tryz.func34, Tryz.ntmps34
  go_wp2
  go_loopw [0, 5] (fun lv kv wr => ∃ (k : Nat) (a : Option Addr) (n c : Nat), k ≤ M ∧ kv = nun k ∧ lv = .slice a n c ∧ Hid (Wt base w wr (.slice a1 l.length c1) l (.slice a2 M c2) m k (.slice a n c) n)) (fun _ kv _ => M - (intOf kv).toNat)
  case atStart => exact ⟨0, a1, l.length, c1, Nat.zero_le _, rfl, rfl, HW0⟩
  case round =>
    clear HW0
    obtain ⟨k, a, n, c, hk, rfl, rfl, HW⟩ := hrel
    have hn : n ≤ 32 := by rw [← HW.out.len]; exact (HGl.out k).len
    by_cases hlt : k < M
    · have hkI : (k : Int) < (M : Int) := by omega
      have hk0 : (0 : Int) ≤ (k : Int) := by omega
      obtain ⟨x, hx⟩ : ∃ x, m[k]? = some x := ⟨_, List.getElem?_eq_getElem (by rw [HM.out]; exact hlt)⟩
      obtain ⟨g, rfl⟩ := HM3.out (by omega)
      have hcx : wr.cell? ⟨g, k, none⟩ = some (nun x) := by
        have h2 := HW.out.own2
        have := h2.cells (g := g) rfl k (nun x) (by rw [List.getElem?_map, hx]; rfl)
        rwa [add_at] at this
      have c5 := Hid.mk' (cH.out wr (.slice a n c) _ x (own_rdN HW.out.own))
      have hs2 := HW.out.bel.size
      by_cases hi : x ∈ wit l (m.take k)
      · rw [decide_eq_true hi] at c5
        have HW2 := Hid.mk' (HW.out.same hx hi)
        clear HW hx hi
        go_wp2_with fail
        refine c5.out.mono ?_
        rintro e w1 ⟨rfl, hw1⟩
        subst w1
        clear c5
        go_wp2
        go_roundw
        case rel => exact ⟨k + 1, a, n, c, by omega, by go_num, rfl, HW2⟩
        case measure => simp [intOf]; omega
      · rw [decide_eq_false hi] at c5
        have HX := Hid.mk' hx
        have HI := Hid.mk' hi
        clear hx hi
        go_wp2_with fail
        refine c5.out.mono ?_
        rintro e w1 ⟨rfl, hw1⟩
        subst w1
        clear c5
        go_wp2_with (first | (at_builtin; refine wpList_append1 rfl _ _ rfl base n (.slice a n c) _ rfl (HW.out.own.alloc _) wr.heap.size x rfl (by rw [cell_of_row _ _ _ _ _ _ (heap_alloc_new wr _)]; rfl) (by omega) (by rw [World.size_alloc]; have := HB.out; omega) ?_; intro v4 w4 ho4 hg4 hat4 hk4; have HW4 := Hid.mk' (HW.out.more HX.out HI.out HB.out ho4 hg4 hat4 hk4); obtain ⟨g4, c4, rfl⟩ := ownsRow_succ ho4; clear ho4 hg4 hat4 hk4) | fail)
        go_roundw
        case rel => exact ⟨k + 1, _, n + 1, c4, by omega, by go_num, rfl, HW4⟩
        case measure => simp [intOf]; omega
    · obtain rfl : k = M := by omega
      have hkI : ¬ (k : Int) < (k : Int) := by omega
      have HE : Hid ((wit l m).length = n ∧ wr.ownsRow base 3 1 (.slice a n c) n ((wit l m).map nun) ∧ Below base w wr ∧ Kept (.slice a1 l.length c1) l wr) := by
        have e : m.take k = m := List.take_of_length_le (by rw [HM.out]; exact Nat.le_refl _)
        have h1 := HW.out.len
        have h2 := HW.out.own
        rw [e] at h1 h2
        exact ⟨h1, h2, HW.out.bel, HW.out.kept⟩
      clear HW
      go_wp2
      go_ret
      refine ⟨a, c, by rw [HE.out.1]; rfl, ?_⟩
      rw [HE.out.1]
      exact HE.out.2

/-- Amid All. -/
structure Ag (S : List Slt) (w wr : World) (full : List Nat) (k : Nat) (lv : Value) (n : Nat) (l : List Nat) : Prop where
  own : wr.ownsRow w.heap.size 3 1 lv n (l.map nun)
  len : l.length = n
  gl : Gl l
  bel : Below w.heap.size w wr
  eq : goG S (33 - k) k l = full

set_option maxRecDepth 100000 in
set_option maxHeartbeats 4000000 in
theorem allG_ref (base : Nat) (w : World) (t g b cap : Nat) (fv : Value) (A : Arn) (l : Int) (h : RGb base w t g (.slice (some ⟨b, 0, none⟩) 32 cap) fv A l) (hl : A.sl.length = 32) (hc : 32 ≤ cap ∧ cap ≤ 9223372036854775807) :
    Calls Tryz.prog 18 #[ptr t] w fun e w' => ∃ v, e = .returned v ∧ w'.ownsRow w.heap.size 3 1 v (allG A.sl l).length ((allG A.sl l).map nun) ∧ Below w.heap.size w w' := by
  obtain ⟨hc1, hc2⟩ := id hc
  have HRX : Hid (∀ wx, Below w.heap.size w wx → RGb base wx t g (.slice (some ⟨b, 0, none⟩) 32 cap) fv A l) := fun wx hb => h.below hb
  have cA : Hid (∀ wx last, Below w.heap.size w wx → Calls Tryz.prog 35 #[ptr g, nu last] wx fun e w' => ∃ a c, e = .returned (.slice a (allL A.sl last).length c) ∧ Hid (w'.ownsRow wx.heap.size 3 1 (.slice a (allL A.sl last).length c) (allL A.sl last).length ((allL A.sl last).map nun) ∧ Below wx.heap.size wx w')) := fun wx last hb => by
    refine (all_ref base wx g b cap fv A last (h.below hb).ar hl hc).mono ?_
    rintro e w' ⟨v, rfl, ho, hb'⟩
    obtain ⟨a, c, rfl, _⟩ := Nm.own_shape ho
    exact ⟨a, c, rfl, ho, hb'⟩
  have HRD : Hid (∀ wx (x : Nat), x < 32 → Below w.heap.size w wx → wx.cell? ⟨t, 0, none⟩ = some (ptr g) ∧ wx.cell? ⟨g, 0, none⟩ = some (.slice (some ⟨b, 0, none⟩) 32 cap) ∧ wx.cell? ⟨b, x * 17 + 2, none⟩ = some (nu (slG A.sl x).kids)) := fun wx x hx hb => by
    have hr := h.below hb
    exact ⟨hr.cells.1, hr.ar.cells.1, (RAn.readG hr.ar hl x hx).2.1⟩
  have HS1 : Hid (∀ wx, Below w.heap.size w wx → wx.cell? ⟨t, 0, none⟩ = some (ptr g) ∧ wx.cell? ⟨t, 1, none⟩ = some (nu l)) := fun wx hb => by
    have hr := h.below hb
    exact ⟨hr.cells.1, hr.cells.2.1⟩
  have hbel : Below w.heap.size w w.drew := (Below.refl _ _).drew
  have hS : w.cell? ⟨t, 0, none⟩ = some (ptr g) ∧ w.cell? ⟨t, 1, none⟩ = some (nu l) := HS1.out w (Below.refl _ _)
  have c1 := Hid.mk' (cA.out w.drew l hbel)
  obtain ⟨full, hfull⟩ : ∃ full, allG A.sl l = full := ⟨_, rfl⟩
  rw [hfull]
  have HF := Hid.mk' hfull
  have cW : Hid (∀ (wx : World) (v : Value) (l : List Nat) (v2 : Value) (m : List Nat), wx.ownsRow w.heap.size 3 1 v l.length (l.map nun) → wx.ownsRow 0 3 1 v2 m.length (m.map nun) → (∀ g, v.ownBlock = some g → v2.ownBlock ≠ some g) → Gl l → (∀ x ∈ m, x < 32) → w.heap.size ≤ wx.heap.size → _) := fun wx v l v2 m h1 h2 h3 h4 h5 h6 => with_ref w.heap.size wx v l v2 m h1 h2 h3 h4 h5 h6
  have hSl : ∀ last, ∀ x ∈ allL A.sl last, x < 32 := fun last => allL_lt A.sl last
  have HSL := Hid.mk' hSl
  clear h hl hc hfull hSl hbel
  go_enter Tryz.func18, Tryz.ntmps18
  go_upto_region 1 with fail
  refine wp_region_held_drew (S := fun w' => w'.cell? ⟨t, 0, none⟩ = some (ptr g) ∧ w'.cell? ⟨t, 1, none⟩ = some (nu l)) (by kernel_rfl) hS (fun hHeld => ?_)
  refine wpAnyH_take (i := 0) (v := ?_) rfl (by kernel_rfl) (by kernel_rfl) (by kernel_rfl) (fun _ _ _ h => h) (Or.inl ⟨by rfl, ?_⟩) hHeld ?_
  rotate_left
  · (intro w' hS'; have hq0 := hS'.1; have hq1 := hS'.2; go_simp <;> with_reducible rfl)
  simp only [Act.put, List.getElem_toArray, List.getElem_cons_succ, List.getElem_cons_zero, List.setIfInBounds_toArray, List.set]
  refine wpAnyH_take (i := 1) (v := ?_) rfl (by kernel_rfl) (by kernel_rfl) (by kernel_rfl) (fun _ _ _ h => h) (Or.inl ⟨by rfl, ?_⟩) hHeld ?_
  rotate_left
  · (intro w' hS'; have hq0 := hS'.1; have hq1 := hS'.2; go_simp <;> with_reducible rfl)
  simp only [Act.put, List.getElem_toArray, List.getElem_cons_succ, List.getElem_cons_zero, List.setIfInBounds_toArray, List.set]
  refine wpAnyH_take (i := 2) (v := ?_) rfl (by kernel_rfl) (by kernel_rfl) (by kernel_rfl) (fun _ _ _ h => h) (Or.inl ⟨by rfl, ?_⟩) hHeld ?_
  rotate_left
  · (intro w' hS'; have hq0 := hS'.1; have hq1 := hS'.2; go_simp <;> with_reducible rfl)
  simp only [Act.put, List.getElem_toArray, List.getElem_cons_succ, List.getElem_cons_zero, List.setIfInBounds_toArray, List.set]
  refine wpAnyH_take (i := 3) (v := ?_) rfl (by kernel_rfl) (by kernel_rfl) (by kernel_rfl) (fun _ _ _ h => h) (Or.inl ⟨by rfl, ?_⟩) hHeld ?_
  rotate_left
  · (intro w' hS'; have hq0 := hS'.1; have hq1 := hS'.2; go_simp <;> with_reducible rfl)
  simp only [Act.put, List.getElem_toArray, List.getElem_cons_succ, List.getElem_cons_zero, List.setIfInBounds_toArray, List.set]
  refine wpAnyH_take (i := 4) (v := ?_) rfl (by kernel_rfl) (by kernel_rfl) (by kernel_rfl) (fun _ _ _ h => h) (Or.inl ⟨by rfl, ?_⟩) hHeld ?_
  rotate_left
  · (intro w' hS'; have hq0 := hS'.1; have hq1 := hS'.2; go_simp <;> with_reducible rfl)
  simp only [Act.put, List.getElem_toArray, List.getElem_cons_succ, List.getElem_cons_zero, List.setIfInBounds_toArray, List.set]
  refine wpAnyH_take (i := 5) (v := ?_) rfl (by kernel_rfl) (by kernel_rfl) (by kernel_rfl) (fun _ _ _ h => h) (Or.inl ⟨by rfl, ?_⟩) hHeld ?_
  rotate_left
  · (intro w' hS'; have hq0 := hS'.1; have hq1 := hS'.2; go_simp <;> with_reducible rfl)
  simp only [Act.put, List.getElem_toArray, List.getElem_cons_succ, List.getElem_cons_zero, List.setIfInBounds_toArray, List.set]
  refine wpAnyH_take (i := 6) (v := ?_) rfl (by kernel_rfl) (by kernel_rfl) (by kernel_rfl) (fun _ _ _ h => h) (Or.inl ⟨by rfl, ?_⟩) hHeld ?_
  rotate_left
  · (intro w' hS'; have hq0 := hS'.1; have hq1 := hS'.2; go_simp <;> with_reducible rfl)
  simp only [Act.put, List.getElem_toArray, List.getElem_cons_succ, List.getElem_cons_zero, List.setIfInBounds_toArray, List.set]
  refine wpAnyH_take (i := 7) (v := ?_) rfl (by kernel_rfl) (by kernel_rfl) (by kernel_rfl) (fun _ _ _ h => h) (Or.inl ⟨by rfl, ?_⟩) hHeld ?_
  rotate_left
  · (intro w' hS'; have hq0 := hS'.1; have hq1 := hS'.2; go_simp <;> with_reducible rfl)
  simp only [Act.put, List.getElem_toArray, List.getElem_cons_succ, List.getElem_cons_zero, List.setIfInBounds_toArray, List.set]
  refine wpAnyH_ready (rs := [8]) (by kernel_rfl) (by simp) ?_
  refine AllReadyH.cons rfl (fun K hK => ?_) AllReadyH.nil
  go_simp
  refine (c1.out).mono ?_
  rintro e w2 ⟨a2, c2, rfl, hQ2⟩
  go_wp2_with fail
  refine hK.out _ _ (HS1.out _ ((Below.refl w.heap.size w).drew.trans hQ2.out.2)) (fun hHeld => ?_)
  clear hK K
  have HB2 : Hid (Below w.heap.size w w2) := (Below.refl w.heap.size w).drew.trans hQ2.out.2
  have c2' := Hid.mk' (cW.out w2 (.slice none 0 0) [] (.slice a2 (allL A.sl l).length c2) (allL A.sl l) (World.ownsRow_nil _ _ _ _) (own_monoA hQ2.out.1 (Nat.zero_le _)) (fun g hg => by simp [Value.ownBlock] at hg) Gl.nil (HSL.out l) HB2.out.size)
  refine wpAnyH_ready (rs := [9]) (by kernel_rfl) (by simp) ?_
  refine AllReadyH.cons rfl (fun K hK => ?_) AllReadyH.nil
  go_simp
  refine (c2'.out).mono ?_
  rintro e w3 ⟨a3, c3, rfl, HQ3⟩
  go_wp2_with fail
  refine hK.out _ _ (HS1.out _ (HB2.out.trans HQ3.out.2.1)) (fun hHeld => ?_)
  clear hK K
  have HB3 : Hid (Below w.heap.size w w3) := HB2.out.trans HQ3.out.2.1
  clear HB2 c2' hQ2
  refine wpAnyH_take (i := 10) (v := ?_) rfl (by kernel_rfl) (by kernel_rfl) (by kernel_rfl) (fun _ _ _ h => h) (Or.inl ⟨by rfl, ?_⟩) hHeld ?_
  rotate_left
  · (intro w' hS'; go_simp <;> with_reducible rfl)
  simp only [Act.put, List.getElem_toArray, List.getElem_cons_succ, List.getElem_cons_zero, List.setIfInBounds_toArray, List.set]
  refine wpAnyH_done (by kernel_rfl) ?_ _
  clear hHeld
  clear hS c1 HS1
  have HA0 : Hid (Ag A.sl w w3 full 0 (.slice a3 (wit [] (allL A.sl l)).length c3) (wit [] (allL A.sl l)).length (wit [] (allL A.sl l))) := ⟨HQ3.out.1, rfl, Gl.nil.wit (HSL.out l), HB3.out, HF.out⟩
  generalize (wit [] (allL A.sl l)).length = n3 at *
  generalize wit [] (allL A.sl l) = l3 at *
  clear HQ3 HB3
  go_wp2
  go_loopw [3, 4] (fun lv kv wr => ∃ (k : Nat) (a : Option Addr) (n c : Nat), k ≤ n ∧ kv = nun k ∧ lv = .slice a n c ∧ Hid (∃ l, Ag A.sl w wr full k (.slice a n c) n l)) (fun _ kv _ => 33 - (intOf kv).toNat)
  case atStart => exact ⟨0, a3, n3, c3, Nat.zero_le _, rfl, rfl, l3, HA0.out⟩
  case round =>
    clear HA0
    obtain ⟨k, a, n, c, hk, rfl, rfl, HA⟩ := hrel
    obtain ⟨l', hA⟩ := HA.out
    clear HA
    have hn : n ≤ 32 := by rw [← hA.len]; exact hA.gl.len
    obtain ⟨f, hf⟩ : ∃ f, 33 - k = f + 1 := ⟨32 - k, by omega⟩
    have heq := hA.eq
    rw [hf] at heq
    unfold goG at heq
    rw [hA.len] at heq
    by_cases hlt : k < n
    · rw [if_pos hlt] at heq
      have hf2 : 33 - (k + 1) = f := by omega
      rw [← hf2] at heq
      have hkI : (k : Int) < (n : Int) := by omega
      have hk0 : (0 : Int) ≤ (k : Int) := by omega
      obtain ⟨x, hx⟩ : ∃ x, l'[k]? = some x := ⟨_, List.getElem?_eq_getElem (by rw [hA.len]; exact hlt)⟩
      have hxd : l'.getD k 0 = x := by rw [List.getD_eq_getElem?_getD, hx]; rfl
      rw [hxd] at heq
      have hx32 : x < 32 := hA.gl.lt x (List.mem_of_getElem? hx)
      have hxI : (x : Int) < 32 := by omega
      have hx0 : (0 : Int) ≤ (x : Int) := by omega
      obtain ⟨a', c', e1, hc3, hc4, hc5⟩ := Nm.own_shape hA.own
      obtain ⟨rfl, rfl⟩ : a = a' ∧ c = c' := by simpa using e1
      obtain ⟨lb, rfl⟩ := hc5 (by omega)
      unfold maxLen at hc4
      have hcI : (c : Int) ≤ 9223372036854775807 := by omega
      have hml : (l'.map nun)[k]? = some (nun x) := by rw [List.getElem?_map, hx]; rfl
      have hcx : wr.cell? ⟨lb, k, none⟩ = some (nun x) := by
        have := hA.own.cells (g := lb) rfl k (nun x) hml
        rwa [add_at] at this
      have hlb := (hA.own.lt lb rfl).2
      obtain ⟨q1, q2, q3⟩ := HRD.out wr x hx32 hA.bel
      obtain ⟨z, hz⟩ : ∃ z, (slG A.sl x).kids = z := ⟨_, rfl⟩
      rw [hz] at q3 heq
      have hS : wr.cell? ⟨t, 0, none⟩ = some (ptr g) ∧ wr.cell? ⟨g, 0, none⟩ = some (.slice (some ⟨b, 0, none⟩) 32 cap) ∧ wr.cell? ⟨lb, k, none⟩ = some (nun x) ∧ wr.cell? ⟨b, x * 17 + 2, none⟩ = some (nu z) := ⟨q1, q2, hcx, q3⟩
      have HSX : Hid (∀ wx, Below w.heap.size w wx → wx.cell? ⟨lb, k, none⟩ = some (nun x) → wx.cell? ⟨t, 0, none⟩ = some (ptr g) ∧ wx.cell? ⟨g, 0, none⟩ = some (.slice (some ⟨b, 0, none⟩) 32 cap) ∧ wx.cell? ⟨lb, k, none⟩ = some (nun x) ∧ wx.cell? ⟨b, x * 17 + 2, none⟩ = some (nu z)) := fun wx hb hq => by
        obtain ⟨p1, p2, p3⟩ := HRD.out wx x hx32 hb
        rw [hz] at p3
        exact ⟨p1, p2, hq, p3⟩
      have HAg := Hid.mk' hA
      have HEQ := Hid.mk' heq
      have HML := Hid.mk' hml
      have HCX := Hid.mk' hcx
      have hBd : Below w.heap.size w wr.drew := hA.bel.drew
      have c5 := Hid.mk' (cA.out wr.drew z hBd)
      have HBd := Hid.mk' hBd
      clear hA heq hx hxd hml hcx q1 q2 q3 hz hBd e1 hc5 hf hf2 HRD cA
      go_upto_region 5 with fail
      refine wp_region_held_drew (S := fun w' => w'.cell? ⟨t, 0, none⟩ = some (ptr g) ∧ w'.cell? ⟨g, 0, none⟩ = some (.slice (some ⟨b, 0, none⟩) 32 cap) ∧ w'.cell? ⟨lb, k, none⟩ = some (nun x) ∧ w'.cell? ⟨b, x * 17 + 2, none⟩ = some (nu z)) (by kernel_rfl) hS (fun hHeld => ?_)
      refine wpAnyH_take (i := 0) (v := ?_) rfl (by kernel_rfl) (by kernel_rfl) (by kernel_rfl) (fun _ _ _ h => h) (Or.inl ⟨by rfl, ?_⟩) hHeld ?_
      rotate_left
      · (intro w' hS'; have hq0 := hS'.1; have hq1 := hS'.2.1; have hq2 := hS'.2.2.1; have hq3 := hS'.2.2.2; go_simp <;> with_reducible rfl)
      simp only [Act.put, List.getElem_toArray, List.getElem_cons_succ, List.getElem_cons_zero, List.setIfInBounds_toArray, List.set]
      refine wpAnyH_take (i := 1) (v := ?_) rfl (by kernel_rfl) (by kernel_rfl) (by kernel_rfl) (fun _ _ _ h => h) (Or.inl ⟨by rfl, ?_⟩) hHeld ?_
      rotate_left
      · (intro w' hS'; have hq0 := hS'.1; have hq1 := hS'.2.1; have hq2 := hS'.2.2.1; have hq3 := hS'.2.2.2; go_simp <;> with_reducible rfl)
      simp only [Act.put, List.getElem_toArray, List.getElem_cons_succ, List.getElem_cons_zero, List.setIfInBounds_toArray, List.set]
      refine wpAnyH_take (i := 2) (v := ?_) rfl (by kernel_rfl) (by kernel_rfl) (by kernel_rfl) (fun _ _ _ h => h) (Or.inl ⟨by rfl, ?_⟩) hHeld ?_
      rotate_left
      · (intro w' hS'; have hq0 := hS'.1; have hq1 := hS'.2.1; have hq2 := hS'.2.2.1; have hq3 := hS'.2.2.2; go_simp <;> with_reducible rfl)
      simp only [Act.put, List.getElem_toArray, List.getElem_cons_succ, List.getElem_cons_zero, List.setIfInBounds_toArray, List.set]
      refine wpAnyH_take (i := 3) (v := ?_) rfl (by kernel_rfl) (by kernel_rfl) (by kernel_rfl) (fun _ _ _ h => h) (Or.inl ⟨by rfl, ?_⟩) hHeld ?_
      rotate_left
      · (intro w' hS'; have hq0 := hS'.1; have hq1 := hS'.2.1; have hq2 := hS'.2.2.1; have hq3 := hS'.2.2.2; go_simp <;> with_reducible rfl)
      simp only [Act.put, List.getElem_toArray, List.getElem_cons_succ, List.getElem_cons_zero, List.setIfInBounds_toArray, List.set]
      refine wpAnyH_take (i := 4) (v := ?_) rfl (by kernel_rfl) (by kernel_rfl) (by kernel_rfl) (fun _ _ _ h => h) (Or.inl ⟨by rfl, ?_⟩) hHeld ?_
      rotate_left
      · (intro w' hS'; have hq0 := hS'.1; have hq1 := hS'.2.1; have hq2 := hS'.2.2.1; have hq3 := hS'.2.2.2; go_simp <;> with_reducible rfl)
      simp only [Act.put, List.getElem_toArray, List.getElem_cons_succ, List.getElem_cons_zero, List.setIfInBounds_toArray, List.set]
      refine wpAnyH_take (i := 5) (v := ?_) rfl (by kernel_rfl) (by kernel_rfl) (by kernel_rfl) (fun _ _ _ h => h) (Or.inl ⟨by rfl, ?_⟩) hHeld ?_
      rotate_left
      · (intro w' hS'; have hq0 := hS'.1; have hq1 := hS'.2.1; have hq2 := hS'.2.2.1; have hq3 := hS'.2.2.2; go_simp <;> with_reducible rfl)
      simp only [Act.put, List.getElem_toArray, List.getElem_cons_succ, List.getElem_cons_zero, List.setIfInBounds_toArray, List.set]
      refine wpAnyH_take (i := 6) (v := ?_) rfl (by kernel_rfl) (by kernel_rfl) (by kernel_rfl) (fun _ _ _ h => h) (Or.inl ⟨by rfl, ?_⟩) hHeld ?_
      rotate_left
      · (intro w' hS'; have hq0 := hS'.1; have hq1 := hS'.2.1; have hq2 := hS'.2.2.1; have hq3 := hS'.2.2.2; go_simp <;> with_reducible rfl)
      simp only [Act.put, List.getElem_toArray, List.getElem_cons_succ, List.getElem_cons_zero, List.setIfInBounds_toArray, List.set]
      refine wpAnyH_take (i := 7) (v := ?_) rfl (by kernel_rfl) (by kernel_rfl) (by kernel_rfl) (fun _ _ _ h => h) (Or.inl ⟨by rfl, ?_⟩) hHeld ?_
      rotate_left
      · (intro w' hS'; have hq0 := hS'.1; have hq1 := hS'.2.1; have hq2 := hS'.2.2.1; have hq3 := hS'.2.2.2; go_simp <;> with_reducible rfl)
      simp only [Act.put, List.getElem_toArray, List.getElem_cons_succ, List.getElem_cons_zero, List.setIfInBounds_toArray, List.set]
      refine wpAnyH_take (i := 8) (v := ?_) rfl (by kernel_rfl) (by kernel_rfl) (by kernel_rfl) (fun _ _ _ h => h) (Or.inl ⟨by rfl, ?_⟩) hHeld ?_
      rotate_left
      · (intro w' hS'; have hq0 := hS'.1; have hq1 := hS'.2.1; have hq2 := hS'.2.2.1; have hq3 := hS'.2.2.2; go_simp <;> with_reducible rfl)
      simp only [Act.put, List.getElem_toArray, List.getElem_cons_succ, List.getElem_cons_zero, List.setIfInBounds_toArray, List.set]
      refine wpAnyH_take (i := 9) (v := ?_) rfl (by kernel_rfl) (by kernel_rfl) (by kernel_rfl) (fun _ _ _ h => h) (Or.inl ⟨by rfl, ?_⟩) hHeld ?_
      rotate_left
      · (intro w' hS'; have hq0 := hS'.1; have hq1 := hS'.2.1; have hq2 := hS'.2.2.1; have hq3 := hS'.2.2.2; go_simp <;> with_reducible rfl)
      simp only [Act.put, List.getElem_toArray, List.getElem_cons_succ, List.getElem_cons_zero, List.setIfInBounds_toArray, List.set]
      refine wpAnyH_take (i := 10) (v := ?_) rfl (by kernel_rfl) (by kernel_rfl) (by kernel_rfl) (fun _ _ _ h => h) (Or.inl ⟨by rfl, ?_⟩) hHeld ?_
      rotate_left
      · (intro w' hS'; have hq0 := hS'.1; have hq1 := hS'.2.1; have hq2 := hS'.2.2.1; have hq3 := hS'.2.2.2; go_simp <;> with_reducible rfl)
      simp only [Act.put, List.getElem_toArray, List.getElem_cons_succ, List.getElem_cons_zero, List.setIfInBounds_toArray, List.set]
      refine wpAnyH_take (i := 11) (v := ?_) rfl (by kernel_rfl) (by kernel_rfl) (by kernel_rfl) (fun _ _ _ h => h) (Or.inl ⟨by rfl, ?_⟩) hHeld ?_
      rotate_left
      · (intro w' hS'; have hq0 := hS'.1; have hq1 := hS'.2.1; have hq2 := hS'.2.2.1; have hq3 := hS'.2.2.2; go_simp <;> with_reducible rfl)
      simp only [Act.put, List.getElem_toArray, List.getElem_cons_succ, List.getElem_cons_zero, List.setIfInBounds_toArray, List.set]
      refine wpAnyH_take (i := 12) (v := ?_) rfl (by kernel_rfl) (by kernel_rfl) (by kernel_rfl) (fun _ _ _ h => h) (Or.inl ⟨by rfl, ?_⟩) hHeld ?_
      rotate_left
      · (intro w' hS'; have hq0 := hS'.1; have hq1 := hS'.2.1; have hq2 := hS'.2.2.1; have hq3 := hS'.2.2.2; go_simp <;> with_reducible rfl)
      simp only [Act.put, List.getElem_toArray, List.getElem_cons_succ, List.getElem_cons_zero, List.setIfInBounds_toArray, List.set]
      refine wpAnyH_take (i := 13) (v := ?_) rfl (by kernel_rfl) (by kernel_rfl) (by kernel_rfl) (fun _ _ _ h => h) (Or.inl ⟨by rfl, ?_⟩) hHeld ?_
      rotate_left
      · (intro w' hS'; have hq0 := hS'.1; have hq1 := hS'.2.1; have hq2 := hS'.2.2.1; have hq3 := hS'.2.2.2; go_simp <;> with_reducible rfl)
      simp only [Act.put, List.getElem_toArray, List.getElem_cons_succ, List.getElem_cons_zero, List.setIfInBounds_toArray, List.set]
      refine wpAnyH_take (i := 14) (v := ?_) rfl (by kernel_rfl) (by kernel_rfl) (by kernel_rfl) (fun _ _ _ h => h) (Or.inl ⟨by rfl, ?_⟩) hHeld ?_
      rotate_left
      · (intro w' hS'; have hq0 := hS'.1; have hq1 := hS'.2.1; have hq2 := hS'.2.2.1; have hq3 := hS'.2.2.2; go_simp <;> with_reducible rfl)
      simp only [Act.put, List.getElem_toArray, List.getElem_cons_succ, List.getElem_cons_zero, List.setIfInBounds_toArray, List.set]
      refine wpAnyH_take (i := 15) (v := ?_) rfl (by kernel_rfl) (by kernel_rfl) (by kernel_rfl) (fun _ _ _ h => h) (Or.inl ⟨by rfl, ?_⟩) hHeld ?_
      rotate_left
      · (intro w' hS'; have hq0 := hS'.1; have hq1 := hS'.2.1; have hq2 := hS'.2.2.1; have hq3 := hS'.2.2.2; go_simp <;> with_reducible rfl)
      simp only [Act.put, List.getElem_toArray, List.getElem_cons_succ, List.getElem_cons_zero, List.setIfInBounds_toArray, List.set]
      refine wpAnyH_take (i := 16) (v := ?_) rfl (by kernel_rfl) (by kernel_rfl) (by kernel_rfl) (fun _ _ _ h => h) (Or.inl ⟨by rfl, ?_⟩) hHeld ?_
      rotate_left
      · (intro w' hS'; have hq0 := hS'.1; have hq1 := hS'.2.1; have hq2 := hS'.2.2.1; have hq3 := hS'.2.2.2; go_simp <;> with_reducible rfl)
      simp only [Act.put, List.getElem_toArray, List.getElem_cons_succ, List.getElem_cons_zero, List.setIfInBounds_toArray, List.set]
      refine wpAnyH_take (i := 17) (v := ?_) rfl (by kernel_rfl) (by kernel_rfl) (by kernel_rfl) (fun _ _ _ h => h) (Or.inl ⟨by rfl, ?_⟩) hHeld ?_
      rotate_left
      · (intro w' hS'; have hq0 := hS'.1; have hq1 := hS'.2.1; have hq2 := hS'.2.2.1; have hq3 := hS'.2.2.2; go_simp <;> with_reducible rfl)
      simp only [Act.put, List.getElem_toArray, List.getElem_cons_succ, List.getElem_cons_zero, List.setIfInBounds_toArray, List.set]
      refine wpAnyH_take (i := 18) (v := ?_) rfl (by kernel_rfl) (by kernel_rfl) (by kernel_rfl) (fun _ _ _ h => h) (Or.inl ⟨by rfl, ?_⟩) hHeld ?_
      rotate_left
      · (intro w' hS'; have hq0 := hS'.1; have hq1 := hS'.2.1; have hq2 := hS'.2.2.1; have hq3 := hS'.2.2.2; go_simp <;> with_reducible rfl)
      simp only [Act.put, List.getElem_toArray, List.getElem_cons_succ, List.getElem_cons_zero, List.setIfInBounds_toArray, List.set]
      refine wpAnyH_ready (rs := [19]) (by kernel_rfl) (by simp) ?_
      refine AllReadyH.cons rfl (fun K hK => ?_) AllReadyH.nil
      go_simp
      refine (c5.out).mono ?_
      rintro e w6 ⟨a6, c6, rfl, hQ6⟩
      go_wp2_with fail
      refine hK.out _ _ (HSX.out _ (HBd.out.trans (hQ6.out.2.mono HBd.out.size)) ((hQ6.out.2.cell (p := ⟨lb, k, none⟩) hlb).trans HCX.out)) (fun hHeld => ?_)
      clear hK K
      have HB6 : Hid (Below w.heap.size w w6) := HBd.out.trans (hQ6.out.2.mono HBd.out.size)
      have c6' := Hid.mk' (cW.out w6 (.slice (some ⟨lb, 0, none⟩) n c) l' (.slice a6 (allL A.sl z).length c6) (allL A.sl z) (by rw [HAg.out.len]; exact (Keep.of_below (F := fun _ => False) ((Below.refl wr.heap.size wr).drew.trans hQ6.out.2)).own HAg.out.own (fun _ _ h => h)) (own_monoA hQ6.out.1 (Nat.zero_le _)) (fun g hg e => by have h1 : lb = g := (by simpa [Value.ownBlock] using hg); have h2 := (hQ6.out.1.lt g e).1; have h3 : wr.drew.heap.size = wr.heap.size := rfl; omega) HAg.out.gl (HSL.out z) HB6.out.size)
      refine wpAnyH_ready (rs := [20]) (by kernel_rfl) (by simp) ?_
      refine AllReadyH.cons rfl (fun K hK => ?_) AllReadyH.nil
      go_simp
      refine (c6'.out).mono ?_
      rintro e w7 ⟨a7, c7, rfl, hQ7⟩
      go_wp2_with fail
      refine hK.out _ _ (HSX.out _ (HB6.out.trans hQ7.out.2.1) (hQ7.out.2.2 lb k (nun x) rfl HML.out)) (fun hHeld => ?_)
      clear hK K
      have HA7 : Hid (Ag A.sl w w7 full (k + 1) (.slice a7 (wit l' (allL A.sl z)).length c7) (wit l' (allL A.sl z)).length (wit l' (allL A.sl z))) := ⟨hQ7.out.1, rfl, HAg.out.gl.wit (HSL.out z), HB6.out.trans hQ7.out.2.1, HEQ.out⟩
      have HNK : Hid (k + 1 ≤ (wit l' (allL A.sl z)).length) := by
        obtain ⟨r, hr⟩ := wit_pre (allL A.sl z) l'
        show _ ≤ _
        rw [hr, List.length_append, HAg.out.len]
        omega
      clear c6' hQ6 hQ7 HB6 HAg HEQ
      refine wpAnyH_take (i := 21) (v := ?_) rfl (by kernel_rfl) (by kernel_rfl) (by kernel_rfl) (fun _ _ _ h => h) (Or.inl ⟨by rfl, ?_⟩) hHeld ?_
      rotate_left
      · (intro w' hS'; go_simp <;> with_reducible rfl)
      simp only [Act.put, List.getElem_toArray, List.getElem_cons_succ, List.getElem_cons_zero, List.setIfInBounds_toArray, List.set]
      refine wpAnyH_done (by kernel_rfl) ?_ _
      clear hHeld
      clear hS c5
      go_wp2
      go_roundw
      case rel => exact ⟨k + 1, a7, _, c7, HNK.out, by go_num, rfl, _, HA7.out⟩
      case measure => simp [intOf]; omega
    · rw [if_neg hlt] at heq
      have hkI : ¬ (k : Int) < (n : Int) := by omega
      have HO := Hid.mk' hA.own
      have HB := Hid.mk' hA.bel
      have HE : Hid (full = l' ∧ l'.length = n) := ⟨heq.symm, hA.len⟩
      clear hA heq
      go_wp2
      go_ret
      refine ⟨_, rfl, ?_, HB.out⟩
      rw [HE.out.1, HE.out.2]
      exact HO.out
end Sw
end Go.Proofs.YthabnombfbehkaaGreatDoor
