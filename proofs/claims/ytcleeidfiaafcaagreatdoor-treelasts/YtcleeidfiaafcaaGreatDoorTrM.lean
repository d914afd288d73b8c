/- TreR, TreS, TreA, TreU, in one text. -/
import Derived.Test.YtcleeidfiaafcaaGreatDoorTreP
import Derived.Test.YtcleeidfiaafcaaGreatDoorRgM
/- The document's trees: how one lies; New, used, There, ring. -/
namespace Go.Proofs.YtcleeidfiaafcaaGreatDoor
set_option linter.ambiguousOpen false
open Go.RowKit
namespace Tr
open An Rg Ft Lv
set_option linter.unusedSimpArgs false
set_option linter.unusedVariables false

/-- A link as a value. -/
@[reducible] def lkU (us ub : Int) : Value := .agg #[nu us, nu ub]

/-- It lies in the block t, its arena at g. -/
structure RTr (base : Nat) (w : World) (t g : Nat) (sv fv : Value) (A : Arn) (last : Int) : Prop where
  tr : w.heap[t]? = some (.cells #[ptr g, nu last] 44)
  ar : RAn base w g sv fv A
  lo : base ≤ t

def tfp (t g : Nat) (sv fv : Value) (k : Nat) : Prop := k = t ∨ rfp g sv fv k

section
variable {base : Nat} {w w' : World} {t g b cap : Nat} {sv fv : Value} {A : Arn} {last : Int}

theorem RTr.tlt (h : RTr base w t g sv fv A last) : t < w.heap.size := (Array.getElem?_eq_some_iff.1 h.tr).1

theorem RTr.nt (h : RTr base w t g sv fv A last) : ¬ rfp g sv fv t := by
  rintro (e | e | e)
  · have := h.tr
    rw [e, h.ar.blk] at this
    simp at this
  · obtain ⟨c, hc, _⟩ := own_cellsT h.ar.sl e
    have := h.tr
    rw [hc] at this
    simp at this
  · obtain ⟨c, hc, _⟩ := own_cellsT h.ar.fr e
    have := h.tr
    rw [hc] at this
    simp at this

theorem RTr.keep (h : RTr base w t g sv fv A last) {G : Nat → Prop} (hk : Keep G w w') (hn : ∀ k, tfp t g sv fv k → ¬ G k) : RTr base w' t g sv fv A last :=
  ⟨(hk.block t h.tlt (hn t (.inl rfl))).trans h.tr, h.ar.keep hk (fun k hkk => hn k (.inr hkk)), h.lo⟩

theorem RTr.below (h : RTr base w t g sv fv A last) (hb : Below w.heap.size w w') : RTr base w' t g sv fv A last :=
  h.keep (Keep.of_below (F := fun _ => False) hb) (fun _ _ h => h)

theorem RTr.cells (h : RTr base w t g sv fv A last) : w.cell? ⟨t, 0, none⟩ = some (ptr g) ∧ w.cell? ⟨t, 1, none⟩ = some (nu last) ∧ ∀ i, w.frozen? ⟨t, i, none⟩ = false := by
  refine ⟨by simp [World.cell?, h.tr], by simp [World.cell?, h.tr], fun i => by simp [World.frozen?, h.tr]⟩

/-- What is read of a slot. -/
theorem RAn.read (h : RAn base w g (.slice (some ⟨b, 0, none⟩) 32 cap) fv A) (hl : A.sl.length = 32) (k : Nat) (hk : k < 32) : w.cell? ⟨b, k * 17, none⟩ = some (.bool (at' A.sl k).used) ∧ w.cell? ⟨b, k * 17 + 2, none⟩ = some (nu (at' A.sl k).kids) ∧ w.cell? ⟨b, k * 17 + 6, none⟩ = some (nu (at' A.sl k).s.birth) ∧ w.cell? ⟨b, k * 17 + 7, none⟩ = some (nu (at' A.sl k).s.us) ∧ w.cell? ⟨b, k * 17 + 8, none⟩ = some (nu (at' A.sl k).s.ub) ∧ ∀ i, w.frozen? ⟨b, i, none⟩ = false := by
  obtain ⟨b', cap', e, _, _, hr, _⟩ := h.slot hl k hk
  simp only [Value.slice.injEq, Option.some.injEq, Addr.mk.injEq, and_true, true_and] at e
  obtain ⟨rfl, rfl⟩ := e
  refine ⟨hr 0 _ rfl, hr 2 _ rfl, hr 6 _ rfl, hr 7 _ rfl, hr 8 _ rfl, fun i => ?_⟩
  obtain ⟨c, hc, _⟩ := own_cellsT h.sl (k := b) rfl
  simp [World.frozen?, hc]
end

theorem below_dn {b : Nat} {w w' : World} (h : Below b w w') (n : Nat) : Below b w (w'.drewN n) := ⟨h.os, h.tape, h.output, h.size, h.block⟩

set_option maxRecDepth 100000 in
theorem newT_ref (g : Nat) (w : World) : Calls Tryz.prog 8 #[ptr g] w fun e w' => e = .returned (ptr w.heap.size) ∧ w' = w.alloc (.cells #[ptr g, nu (-1)] 44) := by
  go_enter Tryz.func8, Tryz.ntmps8
  go_wp2
  go_ret
  exact ⟨rfl, rfl⟩

set_option maxRecDepth 100000 in
set_option maxHeartbeats 1000000 in
theorem used_ref (base : Nat) (w : World) (t g b cap : Nat) (fv : Value) (A : Arn) (last i : Int) (h : RTr base w t g (.slice (some ⟨b, 0, none⟩) 32 cap) fv A last) (hl : A.sl.length = 32) (hc : 32 ≤ cap ∧ cap ≤ 9223372036854775807) :
    Calls Tryz.prog 40 #[ptr t, nu i] w fun e w' => e = .returned (nun (usedE A.sl i)) ∧ w' = w := by
  have c1 := Hid.mk' (there_ref i w)
  obtain ⟨r, hr⟩ : ∃ r, usedE A.sl i = r := ⟨_, rfl⟩
  rw [hr]
  unfold usedE at hr
  obtain ⟨q0, _, _⟩ := h.cells
  have q1 := h.ar.cells.1
  obtain ⟨hc1, hc2⟩ := hc
  by_cases ht : there i
  · rw [if_neg (fun q => q ht)] at hr
    rw [decide_eq_true ht] at c1
    obtain ⟨k, rfl⟩ : ∃ k : Nat, i = (k : Int) := ⟨i.toNat, by omega⟩
    have hk : k < 32 := by omega
    obtain ⟨q2, _⟩ := RAn.read h.ar hl k hk
    have hkI : (k : Int) < 32 := by omega
    have hk0 : (0 : Int) ≤ (k : Int) := by omega
    cases hu : (at' A.sl k).used with
    | true =>
      rw [hu] at q2 hr
      rw [if_pos rfl] at hr
      subst hr
      clear h hl ht hu
      go_enter Tryz.func40, Tryz.ntmps40
      go_wp2_with (first | (go_at_call 37; refine c1.out.mono ?_; rintro e w1 ⟨rfl, hw1⟩; subst w1) | fail)
      go_ret
      exact ⟨rfl, rfl⟩
    | false =>
      rw [hu] at q2 hr
      rw [if_neg (by decide)] at hr
      subst hr
      clear h hl ht hu
      go_enter Tryz.func40, Tryz.ntmps40
      go_wp2_with (first | (go_at_call 37; refine c1.out.mono ?_; rintro e w1 ⟨rfl, hw1⟩; subst w1) | fail)
      go_ret
      exact ⟨rfl, rfl⟩
  · rw [if_pos ht] at hr
    rw [decide_eq_false ht] at c1
    subst hr
    clear h hl ht
    go_enter Tryz.func40, Tryz.ntmps40
    go_wp2_with (first | (go_at_call 37; refine c1.out.mono ?_; rintro e w1 ⟨rfl, hw1⟩; subst w1) | fail)
    go_ret
    exact ⟨rfl, rfl⟩

set_option maxRecDepth 100000 in
set_option maxHeartbeats 2000000 in
theorem thereL_ref (base : Nat) (w : World) (t g b cap : Nat) (fv : Value) (A : Arn) (last us ub : Int) (h : RTr base w t g (.slice (some ⟨b, 0, none⟩) 32 cap) fv A last) (hl : A.sl.length = 32) (hc : 32 ≤ cap ∧ cap ≤ 9223372036854775807) :
    Calls Tryz.prog 41 #[ptr t, lkU us ub] w fun e w' => e = .returned (.bool (decide (isUp A.sl us ub))) ∧ Below w.heap.size w w' := by
  have c1 : Hid (∀ wx, Calls Tryz.prog 37 #[nu us] wx fun e w' => e = .returned (.bool (decide (there us))) ∧ ∃ n, w' = wx.drewN n) := fun wx => (there_ref us wx).mono (fun e w' h => ⟨h.1, 0, h.2⟩)
  obtain ⟨r, hr⟩ : ∃ r, decide (isUp A.sl us ub) = r := ⟨_, rfl⟩
  rw [hr]
  have hB : Below w.heap.size w (w.alloc (.cells #[nu us, nu ub] 34)) := (Below.refl _ _).alloc (Nat.le_refl _) _
  have hL : (w.alloc (.cells #[nu us, nu ub] 34)).heap[w.heap.size]? = some (.cells #[nu us, nu ub] 34) := heap_alloc_new _ _
  have h' := h.below hB
  obtain ⟨W, hW⟩ : ∃ W, w.alloc (.cells #[nu us, nu ub] 34) = W := ⟨_, rfl⟩
  rw [hW] at hB hL h'
  have HW := Hid.mk' hW
  have x0 : W.cell? ⟨w.heap.size, 0, none⟩ = some (nu us) := by simp [World.cell?, hL]
  have x1 : W.cell? ⟨w.heap.size, 1, none⟩ = some (nu ub) := by simp [World.cell?, hL]
  obtain ⟨q0, _, _⟩ := h'.cells
  have q1 := h'.ar.cells.1
  obtain ⟨hc1, hc2⟩ := hc
  have HB := Hid.mk' hB
  by_cases ht : there us
  · simp only [decide_eq_true ht] at c1
    obtain ⟨k, rfl⟩ : ∃ k : Nat, us = (k : Int) := ⟨us.toNat, by omega⟩
    have hk : k < 32 := by omega
    obtain ⟨q2, _, q3, _⟩ := RAn.read h'.ar hl k hk
    have hkI : (k : Int) < 32 := by omega
    have hk0 : (0 : Int) ≤ (k : Int) := by omega
    cases hu : (at' A.sl k).used with
    | true =>
      rw [hu] at q2
      obtain ⟨bi, hbi⟩ : ∃ bi, (at' A.sl k).s.birth = bi := ⟨_, rfl⟩
      rw [hbi] at q3
      have hrr : r = (bi == ub) := by
        rw [← hr, Bool.eq_iff_iff]
        simp only [decide_eq_true_eq, beq_iff_eq]
        unfold isUp
        rw [hbi]
        exact ⟨fun q => q.2.2, fun q => ⟨ht, hu, q⟩⟩
      have HRR := Hid.mk' hrr
      clear h hl ht hu hbi hr hB hL h' hW hrr
      go_enter Tryz.func41, Tryz.ntmps41
      go_upto_region 1 with fail
      rw [HW.out]
      go_quiet ((go_at_call 37; exact Calls.quiet_of (c1.out _)))
      go_wp2
      go_ret
      exact ⟨by rw [HRR.out]; rfl, below_dn HB.out _⟩
    | false =>
      rw [hu] at q2
      have hrr : r = false := by
        rw [← hr]
        exact decide_eq_false (fun q => by have := q.2.1; rw [hu] at this; cases this)
      subst hrr
      clear h hl ht hu hr hB hL h' hW
      go_enter Tryz.func41, Tryz.ntmps41
      go_upto_region 1 with fail
      rw [HW.out]
      go_quiet ((go_at_call 37; exact Calls.quiet_of (c1.out _)))
      go_wp2
      go_ret
      exact ⟨rfl, below_dn HB.out _⟩
  · simp only [decide_eq_false ht] at c1
    have hrr : r = false := by
      rw [← hr]
      exact decide_eq_false (fun q => ht q.1)
    subst hrr
    clear h hl ht hr hB hL h' hW
    go_enter Tryz.func41, Tryz.ntmps41
    go_upto_region 1 with fail
    rw [HW.out]
    go_quiet ((go_at_call 37; exact Calls.quiet_of (c1.out _)))
    go_wp2
    go_ret
    exact ⟨rfl, below_dn HB.out _⟩

set_option maxRecDepth 100000 in
set_option maxHeartbeats 1000000 in
theorem ringT_ref (base : Nat) (w : World) (t g b cap : Nat) (fv : Value) (A : Arn) (last us ub : Int) (h : RTr base w t g (.slice (some ⟨b, 0, none⟩) 32 cap) fv A last) (hl : A.sl.length = 32) (hc : 32 ≤ cap ∧ cap ≤ 9223372036854775807) (hu : ub ≠ 0 → there us) :
    Calls Tryz.prog 43 #[ptr t, lkU us ub] w fun e w' => e = .returned (nu (ringOf A.sl last us ub)) ∧ Below w.heap.size w w' := by
  obtain ⟨r, hr⟩ : ∃ r, ringOf A.sl last us ub = r := ⟨_, rfl⟩
  rw [hr]
  unfold ringOf at hr
  have hB : Below w.heap.size w (w.alloc (.cells #[nu us, nu ub] 34)) := (Below.refl _ _).alloc (Nat.le_refl _) _
  have hL : (w.alloc (.cells #[nu us, nu ub] 34)).heap[w.heap.size]? = some (.cells #[nu us, nu ub] 34) := heap_alloc_new _ _
  have h' := h.below hB
  obtain ⟨W, hW⟩ : ∃ W, w.alloc (.cells #[nu us, nu ub] 34) = W := ⟨_, rfl⟩
  rw [hW] at hB hL h'
  have HW := Hid.mk' hW
  have x0 : W.cell? ⟨w.heap.size, 0, none⟩ = some (nu us) := by simp [World.cell?, hL]
  have x1 : W.cell? ⟨w.heap.size, 1, none⟩ = some (nu ub) := by simp [World.cell?, hL]
  obtain ⟨q0, q9, _⟩ := h'.cells
  have q1 := h'.ar.cells.1
  obtain ⟨hc1, hc2⟩ := hc
  have HB := Hid.mk' hB
  by_cases h0 : ub = 0
  · rw [if_pos h0] at hr
    subst hr
    have hb : (ub == 0) = true := by simpa using h0
    clear h hl hB hL h' hW hu h0
    go_enter Tryz.func43, Tryz.ntmps43
    go_upto_region 1 with fail
    rw [HW.out]
    go_wp2
    go_ret
    exact ⟨rfl, HB.out⟩
  · rw [if_neg h0] at hr
    have hb : (ub == 0) = false := by simpa using h0
    have ht := hu h0
    obtain ⟨k, rfl⟩ : ∃ k : Nat, us = (k : Int) := ⟨us.toNat, by omega⟩
    have hk : k < 32 := by omega
    obtain ⟨_, q2, _⟩ := RAn.read h'.ar hl k hk
    rw [hr] at q2
    have hkI : (k : Int) < 32 := by omega
    have hk0 : (0 : Int) ≤ (k : Int) := by omega
    clear h hl hB hL h' hW hu h0 ht hr
    go_enter Tryz.func43, Tryz.ntmps43
    go_upto_region 1 with fail
    rw [HW.out]
    go_upto_region 3 with fail
    go_quiet (fail)
    go_wp2
    go_ret
    exact ⟨rfl, below_dn HB.out _⟩
end Tr
end Go.Proofs.YtcleeidfiaafcaaGreatDoor
/- The document's trees: how slots are turned; set. -/
namespace Go.Proofs.YtcleeidfiaafcaaGreatDoor
set_option linter.ambiguousOpen false
open Go.RowKit
namespace Tr
open An Rg Ft Lv
set_option linter.unusedSimpArgs false
set_option linter.unusedVariables false

section
variable {base : Nat} {w : World} {t g b cap : Nat} {fv : Value} {A : Arn} {last : Int}

theorem RAn.put1 (h : RAn base w g (.slice (some ⟨b, 0, none⟩) 32 cap) fv A) (hl : A.sl.length = 32) (k : Nat) (hk : k < 32) (x : Slt) (j : Nat) (v : Value) (hj : j < 17) (hx : (A.sl.getD k bare).cells.set j v = x.cells) : RAn base (w.setCell ⟨b, k * 17 + j, none⟩ v) g (.slice (some ⟨b, 0, none⟩) 32 cap) fv ⟨A.sl.set k x, A.fr, A.wr⟩ := by
  have hG : w.grownBy (w.setCell ⟨b, k * 17 + j, none⟩ v) (some b) := ⟨rfl, rfl, rfl, by simp, fun k hk hn => Below.heap_setCell _ _ _ k (fun e => hn (by rw [e]))⟩
  have hne := h.ne
  refine ⟨(hG.block g h.glt (fun e => hne.1 e.symm)).trans h.blk, ?_, h.fr.kept hG (.inr (fun e => hne.2.2 b rfl e)), h.lo⟩
  have h0 := h.sl
  rw [hl] at h0
  have h1 := own_cellSet h0 (k * 17 + j) v
  have h2 := scs_mid A.sl k (by omega) x j v hj hx
  show World.ownsRow _ _ _ _ _ (A.sl.set k x).length (scs (A.sl.set k x))
  rw [List.length_set, hl, h2]
  exact h1

theorem RAn.putK (h : RAn base w g (.slice (some ⟨b, 0, none⟩) 32 cap) fv A) (hl : A.sl.length = 32) (k : Nat) (hk : k < 32) (v : Int) : RAn base (w.setCell ⟨b, k * 17 + 2, none⟩ (nu v)) g (.slice (some ⟨b, 0, none⟩) 32 cap) fv ⟨setK A.sl k v, A.fr, A.wr⟩ := by
  have := RAn.put1 h hl k hk { at' A.sl k with kids := v } 2 (nu v) (by omega) rfl
  exact this

theorem RAn.putU (h : RAn base w g (.slice (some ⟨b, 0, none⟩) 32 cap) fv A) (hl : A.sl.length = 32) (k : Nat) (hk : k < 32) (us ub : Int) : RAn base ((w.setCell ⟨b, k * 17 + 7, none⟩ (nu us)).setCell ⟨b, k * 17 + 8, none⟩ (nu ub)) g (.slice (some ⟨b, 0, none⟩) 32 cap) fv ⟨setU A.sl k us ub, A.fr, A.wr⟩ := by
  have h1 := RAn.put1 h hl k hk (hung (at' A.sl k) us (at' A.sl k).s.ub) 7 (nu us) (by omega) rfl
  have e1 : (A.sl.set k (hung (at' A.sl k) us (at' A.sl k).s.ub)).getD k bare = hung (at' A.sl k) us (at' A.sl k).s.ub := by
    rw [List.getD_eq_getElem?_getD, List.getElem?_set, if_pos rfl, if_pos (by omega)]
    rfl
  have h2 := RAn.put1 h1 (by simp [hl]) k hk (hung (at' A.sl k) us ub) 8 (nu ub) (by omega) (by
    show ((A.sl.set k (hung (at' A.sl k) us (at' A.sl k).s.ub)).getD k bare).cells.set 8 (nu ub) = _
    rw [e1]
    rfl)
  have e2 : setU A.sl k us ub = (A.sl.set k (hung (at' A.sl k) us (at' A.sl k).s.ub)).set k (hung (at' A.sl k) us ub) := by
    rw [List.set_set]
    rfl
  rw [e2]
  exact h2

theorem RAn.bt (h : RTr base w t g (.slice (some ⟨b, 0, none⟩) 32 cap) fv A last) : t ≠ b ∧ t ≠ g := ⟨fun e => h.nt (.inr (.inl (by rw [e]; rfl))), fun e => h.nt (.inl e)⟩

/-- The last one of the roots is turned. -/
theorem RTr.setLast (h : RTr base w t g (.slice (some ⟨b, 0, none⟩) 32 cap) fv A last) (v : Int) : RTr base (w.setCell ⟨t, 1, none⟩ (nu v)) t g (.slice (some ⟨b, 0, none⟩) 32 cap) fv A v := by
  have hk : Keep (fun j => j = t) w (w.setCell ⟨t, 1, none⟩ (nu v)) := (Keep.refl (fun j => j = t) w).setCell (p := ⟨t, 1, none⟩) (.inl rfl) _
  refine ⟨?_, h.ar.keep hk (fun k hkk e => h.nt (e ▸ hkk)), h.lo⟩
  rw [heap_setCell_same _ t 1 _ _ _ h.tr]
  rfl

/-- A slot is turned. -/
theorem RTr.slots {w' : World} (h : RTr base w t g (.slice (some ⟨b, 0, none⟩) 32 cap) fv A last) {A' : Arn} (ha : RAn base w' g (.slice (some ⟨b, 0, none⟩) 32 cap) fv A') (hk : Keep (fun j => j = b) w w') : RTr base w' t g (.slice (some ⟨b, 0, none⟩) 32 cap) fv A' last :=
  ⟨(hk.block t h.tlt (RAn.bt h).1).trans h.tr, ha, h.lo⟩
end

theorem RTr.drew {base : Nat} {w : World} {t g : Nat} {sv fv : Value} {A : Arn} {last : Int} (h : RTr base w t g sv fv A last) : RTr base w.drew t g sv fv A last := h.keep (Keep.drew (Keep.refl (fun _ => False) w)) (fun _ _ h => h)

theorem setCells2 (w : World) (b o : Nat) (u v : Value) : w.setCells b o [u, v] = (w.setCell ⟨b, o, none⟩ u).setCell ⟨b, o + 1, none⟩ v := rfl

/-- A link in a block of its own. -/
def Lnl (w : World) (b : Nat) (us ub : Int) : Prop := w.heap[b]? = some (.cells #[nu us, nu ub] 34)

theorem lnl_new (w : World) (us ub : Int) : Lnl (w.alloc (.cells #[nu us, nu ub] 34)) w.heap.size us ub := heap_alloc_new _ _

theorem Lnl.cells {w : World} {b : Nat} {us ub : Int} (h : Lnl w b us ub) : w.cell? ⟨b, 0, none⟩ = some (nu us) ∧ w.cell? ⟨b, 1, none⟩ = some (nu ub) ∧ ∀ i, w.frozen? ⟨b, i, none⟩ = false := by
  unfold Lnl at h
  refine ⟨by simp [World.cell?, h], by simp [World.cell?, h], fun i => by simp [World.frozen?, h]⟩

theorem Lnl.lt {w : World} {b : Nat} {us ub : Int} (h : Lnl w b us ub) : b < w.heap.size := (Array.getElem?_eq_some_iff.1 h).1

theorem Lnl.below {w w' : World} {b : Nat} {us ub : Int} (h : Lnl w b us ub) (hb : Below w.heap.size w w') : Lnl w' b us ub := (hb.block b h.lt).trans h

theorem Lnl.keep {w w' : World} {b : Nat} {us ub : Int} (h : Lnl w b us ub) {F : Nat → Prop} (hk : Keep F w w') (hn : ¬ F b) : Lnl w' b us ub := (hk.block b h.lt hn).trans h

theorem size_lnl : (Tryz.prog.info? 34).map (·.size) = some 2 := by kernel_rfl

set_option maxRecDepth 100000 in
theorem wpList_store_lnl {ops : Array Oper} {rest : List Oper} {op : Oper} {a : Act} {w : World} {Q : Exit → Act → World → Prop} (hgd : op.guard = none) (x y : Operand) (ho : op.op = .store 34 x y)
    (b : Nat) (hx : a.eval x = .pointer (some ⟨b, 0, none⟩)) (p n : Int) (hy : a.eval y = .agg #[nu p, nu n]) (p0 n0 : Int) (hz : Lnl w b p0 n0)
    (h : ∀ w', Lnl w' b p n → w.grownBy w' (some b) → w'.heap.size = w.heap.size → wpList Tryz.prog ops Q rest (a.put op.dst undef) w') : wpList Tryz.prog ops Q (op :: rest) a w := by
  refine wpList_plain hgd fun K hK => ?_
  have hrun := run_storeVar_row (P := Tryz.prog) w b _ 34 #[nu p0, nu n0] #[nu p, nu n] hz size_lnl rfl (all_oneCell_toArray (cs := [nu p, nu n]) (by simp [Value.oneCell']))
  have hk := hK _ _ (h (w.setRow b #[nu p, nu n]) (setRow_heap w b _ _ _ _ hz) ⟨rfl, rfl, rfl, by simp, fun k hk hn => setRow_other _ _ _ _ (fun e => hn (by rw [e]))⟩ (by simp))
  unfold Oper.wp execOp
  simp only [ho, hx, hy, Instr.storeAt, Instr.sureAddr, Sem.run_bind, Sem.run_pure, Result.andThen_ok, hrun]
  exact hk

theorem Lnl.range {w : World} {b : Nat} {p n : Int} (h : Lnl w b p n) : w.rangeAt b 0 [nu p, nu n] := fun j v hv => by
  rw [Nat.zero_add, cell_of_row w b j _ _ _ h]
  simpa using hv

set_option maxRecDepth 100000 in
theorem wpList_load_lnl {ops : Array Oper} {rest : List Oper} {op : Oper} {a : Act} {w : World} {Q : Exit → Act → World → Prop} (hgd : op.guard = none) (x : Operand) (ho : op.op = .load 34 x)
    (b o : Nat) (hx : a.eval x = .pointer (some ⟨b, o, none⟩)) (p n : Int) (hr : w.rangeAt b o [nu p, nu n])
    (h : wpList Tryz.prog ops Q rest (a.put op.dst (.agg #[nu p, nu n])) w) : wpList Tryz.prog ops Q (op :: rest) a w :=
  wpList_load_mid hgd 34 x ho b o hx [nu p, nu n] _ hr Tryz.underlying34 rfl size_lnl h

set_option maxRecDepth 100000 in
set_option maxHeartbeats 1000000 in
theorem setT_ref (base : Nat) (w : World) (t g b cap : Nat) (fv : Value) (A : Arn) (last us ub v : Int) (h : RTr base w t g (.slice (some ⟨b, 0, none⟩) 32 cap) fv A last) (hl : A.sl.length = 32) (hc : 32 ≤ cap ∧ cap ≤ 9223372036854775807) (hu : ub ≠ 0 → there us) :
    Calls Tryz.prog 44 #[ptr t, lkU us ub, nu v] w fun e w' => (∃ u, e = .returned u) ∧ RTr base w' t g (.slice (some ⟨b, 0, none⟩) 32 cap) fv ⟨if ub = 0 then A.sl else setK A.sl us v, A.fr, A.wr⟩ (if ub = 0 then v else last) ∧ Keep (fun j => j = t ∨ j = b) w w' := by
  have hB : Below w.heap.size w (w.alloc (.cells #[nu us, nu ub] 34)) := (Below.refl _ _).alloc (Nat.le_refl _) _
  have hL := lnl_new w us ub
  have h' := h.below hB
  obtain ⟨W, hW⟩ : ∃ W, w.alloc (.cells #[nu us, nu ub] 34) = W := ⟨_, rfl⟩
  rw [hW] at hB hL h'
  have HW := Hid.mk' hW
  obtain ⟨x0, x1, _⟩ := hL.cells
  obtain ⟨q0, q9, qf⟩ := h'.cells
  have q1 := h'.ar.cells.1
  obtain ⟨hc1, hc2⟩ := hc
  by_cases h0 : ub = 0
  · rw [if_pos h0, if_pos h0]
    have hb : (ub == 0) = true := by simpa using h0
    have HR : Hid (RTr base (W.setCell ⟨t, 1, none⟩ (nu v)) t g (.slice (some ⟨b, 0, none⟩) 32 cap) fv A v) := h'.setLast v
    have HK : Hid (Keep (fun j => j = t ∨ j = b) w (W.setCell ⟨t, 1, none⟩ (nu v))) := (Keep.of_below hB).setCell (p := ⟨t, 1, none⟩) (.inl (.inl rfl)) _
    have qf1 := qf 1
    clear h hl hB hL h' hW hu h0 qf
    go_enter Tryz.func44, Tryz.ntmps44
    go_upto_region 1 with fail
    rw [HW.out]
    go_wp2
    refine bodyPost_ret (results_none rfl _ _ _) rfl ?_
    exact ⟨⟨_, rfl⟩, HR.out, HK.out⟩
  · rw [if_neg h0, if_neg h0]
    have hb : (ub == 0) = false := by simpa using h0
    have ht := hu h0
    obtain ⟨k, rfl⟩ : ∃ k : Nat, us = (k : Int) := ⟨us.toNat, by omega⟩
    have hk : k < 32 := by omega
    obtain ⟨_, q2, _, _, _, qfb⟩ := RAn.read h'.ar hl k hk
    have hs : RTr base (W.setCell ⟨b, k * 17 + 2, none⟩ (nu v)) t g (.slice (some ⟨b, 0, none⟩) 32 cap) fv ⟨setK A.sl k v, A.fr, A.wr⟩ last := h'.slots (RAn.putK h'.ar hl k hk v) ((Keep.refl (fun j => j = b) W).setCell (p := ⟨b, k * 17 + 2, none⟩) (.inl rfl) _)
    have HR : Hid (RTr base (W.setCell ⟨b, k * 17 + 2, none⟩ (nu v)).drew t g (.slice (some ⟨b, 0, none⟩) 32 cap) fv ⟨setK A.sl k v, A.fr, A.wr⟩ last) := hs.drew
    have HK : Hid (Keep (fun j => j = t ∨ j = b) w (W.setCell ⟨b, k * 17 + 2, none⟩ (nu v)).drew) := ((Keep.of_below hB).setCell (p := ⟨b, k * 17 + 2, none⟩) (.inl (.inr rfl)) _).drew
    have hkI : (k : Int) < 32 := by omega
    have hk0 : (0 : Int) ≤ (k : Int) := by omega
    have qf1 := qfb (k * 17 + 2)
    clear h hl hB hL h' hW hu h0 qf ht hs qfb
    go_enter Tryz.func44, Tryz.ntmps44
    go_upto_region 1 with fail
    rw [HW.out]
    go_upto_region 3 with fail
    go_region
    go_wp2
    go_end0
    exact ⟨⟨_, rfl⟩, HR.out, HK.out⟩
end Tr
end Go.Proofs.YtcleeidfiaafcaaGreatDoor
/- The document's trees: Add. -/
namespace Go.Proofs.YtcleeidfiaafcaaGreatDoor
set_option linter.ambiguousOpen false
open Go.RowKit
namespace Tr
open An Rg Ft Lv
set_option linter.unusedSimpArgs false
set_option linter.unusedVariables false

/-- Amid a call: the tree, and a link in the block lb. -/
structure Ts (base : Nat) (w0 w : World) (t g b cap : Nat) (fv : Value) (A : Arn) (last : Int) (lb : Nat) (us ub : Int) : Prop where
  tr : RTr base w t g (.slice (some ⟨b, 0, none⟩) 32 cap) fv A last
  ln : Lnl w lb us ub
  kp : Keep (fun j => j = t ∨ j = b) w0 w
  ne : lb ≠ t ∧ lb ≠ b ∧ w0.heap.size ≤ lb

section
variable {base : Nat} {w0 w w' : World} {t g b cap lb : Nat} {fv : Value} {A A' : Arn} {last us ub : Int}

theorem Ts.below (h : Ts base w0 w t g b cap fv A last lb us ub) (hb : Below w.heap.size w w') : Ts base w0 w' t g b cap fv A last lb us ub :=
  ⟨h.tr.below hb, h.ln.below hb, h.kp.trans (Keep.of_below (F := fun _ => False) hb) (fun _ _ e => e.elim), h.ne⟩

theorem Ts.drew (h : Ts base w0 w t g b cap fv A last lb us ub) : Ts base w0 w.drew t g b cap fv A last lb us ub := ⟨h.tr.drew, h.ln, h.kp.drew, h.ne⟩

/-- Slots are turned. -/
theorem Ts.slots (h : Ts base w0 w t g b cap fv A last lb us ub) (ha : RAn base w' g (.slice (some ⟨b, 0, none⟩) 32 cap) fv A') (hk : Keep (fun j => j = b) w w') : Ts base w0 w' t g b cap fv A' last lb us ub :=
  ⟨h.tr.slots ha hk, h.ln.keep hk h.ne.2.1, h.kp.trans hk (fun _ _ e => .inr e), h.ne⟩

theorem Ts.read (h : Ts base w0 w t g b cap fv A last lb us ub) : w.cell? ⟨t, 0, none⟩ = some (ptr g) ∧ w.cell? ⟨lb, 0, none⟩ = some (nu us) ∧ w.cell? ⟨lb, 1, none⟩ = some (nu ub) := ⟨h.tr.cells.1, h.ln.cells.1, h.ln.cells.2.1⟩
end

theorem keep_cell (w : World) (b o : Nat) (v : Value) : Keep (fun j => j = b) w (w.setCell ⟨b, o, none⟩ v) := (Keep.refl (fun j => j = b) w).setCell (p := ⟨b, o, none⟩) (.inl rfl) v

theorem push_same (S : List Slt) (l i : Int) (h : (push S l i).no ≠ 0) : (push S l i).sl = S := by
  unfold push at h ⊢
  repeat' split at h
  all_goals simp_all

theorem drop_same (S : List Slt) (l i : Int) (h : (drop S l i).no ≠ 0) : (drop S l i).sl = S := by
  unfold drop at h ⊢
  repeat' split at h
  all_goals simp_all

set_option maxRecDepth 100000 in
set_option maxHeartbeats 4000000 in
theorem add_ref (base : Nat) (w : World) (t g b cap : Nat) (fv : Value) (A : Arn) (last i us ub : Int) (h : RTr base w t g (.slice (some ⟨b, 0, none⟩) 32 cap) fv A last) (hl : A.sl.length = 32) (hcc : 32 ≤ cap ∧ cap ≤ 9223372036854775807) :
    Calls Tryz.prog 23 #[ptr t, nu i, lkU us ub] w fun e w' => e = .returned (.tuple #[nun (addT A.sl last i us ub).no, nu (addT A.sl last i us ub).pl]) ∧ RTr base w' t g (.slice (some ⟨b, 0, none⟩) 32 cap) fv ⟨(addT A.sl last i us ub).sl, A.fr, A.wr⟩ (addT A.sl last i us ub).last ∧ Keep (fun j => j = t ∨ j = b) w w' := by
  obtain ⟨R, hR⟩ : ∃ R, addT A.sl last i us ub = R := ⟨_, rfl⟩
  rw [hR]
  unfold addT at hR
  obtain ⟨hc1, hc2⟩ := id hcc
  have hB : Below w.heap.size w (w.alloc (.cells #[nu us, nu ub] 34)) := (Below.refl _ _).alloc (Nat.le_refl _) _
  have hL := lnl_new w us ub
  obtain ⟨lb, hlb⟩ : ∃ lb, w.heap.size = lb := ⟨_, rfl⟩
  obtain ⟨W0, hW0⟩ : ∃ W0, w.alloc (.cells #[nu us, nu ub] 34) = W0 := ⟨_, rfl⟩
  rw [hW0] at hB hL
  have hT0 : Ts base w W0 t g b cap fv A last lb us ub := by
    obtain ⟨b', cap', e, _, _, _, hbl⟩ := h.ar.slot hl 0 (by omega)
    simp only [Value.slice.injEq, Option.some.injEq, Addr.mk.injEq, and_true, true_and] at e
    obtain ⟨rfl, rfl⟩ := e
    have := h.tlt
    exact ⟨h.below hB, by rw [← hlb]; exact hL, Keep.of_below hB, by omega, by omega, by omega⟩
  have HT0 := Hid.mk' hT0
  have HW0 : Hid (w.alloc (.cells #[nu us, nu ub] 34) = W0) := hW0
  have HLB := Hid.mk' hlb
  have cU := Hid.mk' (used_ref base W0 t g b cap fv A last i hT0.tr hl hcc)
  have HEN : Hid (∀ wx, Ts base w wx t g b cap fv A last lb us ub → RTr base wx t g (.slice (some ⟨b, 0, none⟩) 32 cap) fv ⟨A.sl, A.fr, A.wr⟩ last ∧ Keep (fun j => j = t ∨ j = b) w wx) := fun wx hx => ⟨hx.tr, hx.kp⟩
  clear h hB hL hW0 hlb hT0
  by_cases hu : usedE A.sl i ≠ 0
  · rw [if_pos hu] at hR
    subst hR
    dsimp only
    generalize usedE A.sl i = u at *
    have hb : ((u : Int) != 0) = true := by simp; omega
    go_enter Tryz.func23, Tryz.ntmps23
    go_upto_region 1 with fail
    rw [HW0.out, HLB.out]
    go_wp2_with (first | (go_at_call 40; refine cU.out.mono ?_; rintro e w1 ⟨rfl, hw1⟩; subst w1) | fail)
    go_ret2
    exact ⟨rfl, HEN.out _ HT0.out⟩
  · have hu0 : usedE A.sl i = 0 := by omega
    rw [if_neg hu] at hR
    rw [hu0] at cU
    have hti : there i := by
      by_cases q : there i
      · exact q
      · unfold usedE at hu0
        rw [if_pos q] at hu0
        omega
    have x1 := HT0.out.ln.cells.2.1
    have x0 := HT0.out.ln.cells.1
    by_cases h0 : ub = 0
    · subst h0
      rw [if_neg (by simp), if_neg (by simp), if_neg (by simp)] at hR
      have HZ := HT0.out.ln
      have HT1 : Hid (∀ wx, Lnl wx lb 0 0 → W0.grownBy wx (some lb) → Ts base w wx t g b cap fv A last lb 0 0) := fun wx h1 h2 => by
        have hk : Keep (fun j => j = lb) W0 wx := ⟨h2.os, h2.tape, h2.output, h2.size, fun k hk hn => h2.block k hk (fun e => hn (Option.some.inj e))⟩
        refine ⟨HT0.out.tr.keep hk (fun k hkk e => ?_), h1, HT0.out.kp.trans hk (fun k hk e => ?_), HT0.out.ne⟩
        · subst e
          rcases hkk with e | e | e | e
          · exact HT0.out.ne.1 e
          · have := HT0.out.ln
            rw [e] at this
            unfold Lnl at this
            rw [HT0.out.tr.ar.blk] at this
            simp at this
          · exact HT0.out.ne.2.1 (Option.some.inj e).symm
          · obtain ⟨c, hc, _⟩ := own_cellsT HT0.out.tr.ar.fr e
            have := HT0.out.ln
            unfold Lnl at this
            rw [hc] at this
            simp at this
        · have := HT0.out.ne.2.2
          omega
      obtain ⟨rr, hrr⟩ : ∃ rr, ringOf A.sl last 0 0 = rr := ⟨_, rfl⟩
      obtain ⟨P, hP⟩ : ∃ P, push A.sl rr i = P := ⟨_, rfl⟩
      have hr1 : ringOf A.sl last us 0 = rr := by rw [← hrr]; rfl
      have hP2 : push A.sl last i = P := by rw [← hP, ← hrr]; rfl
      rw [hr1, hP, if_pos (show (0 : Int) = 0 from rfl), hP2] at hR
      have HRN : Hid (P.no ≠ 0 → R = ⟨P.no, P.pl, A.sl, last⟩ ∧ P.sl = A.sl) := fun q => by
        rw [if_pos q] at hR
        exact ⟨hR.symm, by rw [← hP]; exact push_same _ _ _ (by rw [hP]; exact q)⟩
      have HRY : Hid (P.no = 0 → R = ⟨0, -1, if (0 : Int) = 0 then setU (setK P.sl i (-1)) i 0 0 else setK (setU (setK P.sl i (-1)) i 0 0) 0 P.ans, if (0 : Int) = 0 then P.ans else last⟩) := fun q => by
        rw [if_neg (fun z => z q)] at hR
        exact hR.symm
      have hbz : ((0 : Int) == 0) = true := rfl
      have HZB := Hid.mk' HT0.out.ln
      clear hR hr1 hP2
      go_enter Tryz.func23, Tryz.ntmps23
      go_upto_region 1 with fail
      rw [HW0.out, HLB.out]
      go_upto_region 12 with (first | (go_at_call 40; refine cU.out.mono ?_; rintro e w1 ⟨rfl, hw1⟩; subst w1) | (refine wpList_store_lnl rfl _ _ rfl lb rfl 0 0 rfl us 0 HZB.out ?_; intro W1 hl1 hg1 hs1; have HT2 := Hid.mk' (HT1.out W1 hl1 hg1); clear hl1 hg1 hs1) | fail)
      clear x0 x1 HT1 HZB cU HW0 HLB hbz hu hu0 HEN
      have HT1 : Hid (Ts base w W1 t g b cap fv A last lb 0 0) := HT2
      clear HT2 HT0
      obtain ⟨z0, z1, z2⟩ := HT1.out.read
      have cR : Hid (∀ wx, Ts base w wx t g b cap fv A last lb 0 0 → Calls Tryz.prog 43 #[ptr t, lkU 0 0] wx fun e w' => e = .returned (nu rr) ∧ (w'.cell? ⟨t, 0, none⟩ = some (ptr g) ∧ w'.cell? ⟨lb, 0, none⟩ = some (nu 0) ∧ w'.cell? ⟨lb, 1, none⟩ = some (nu 0)) ∧ Hid (Ts base w w' t g b cap fv A last lb 0 0)) := fun wx hx => by
        have := ringT_ref base wx t g b cap fv A last 0 0 hx.tr hl hcc (fun q => absurd rfl q)
        rw [hrr] at this
        refine this.mono ?_
        rintro e w' ⟨rfl, hb'⟩
        exact ⟨rfl, (hx.below hb').read, hx.below hb'⟩
      have cP : Hid (∀ wx, Hid (Ts base w wx t g b cap fv A last lb 0 0) → Calls Tryz.prog 42 #[ptr g, nu rr, nu i] wx fun e w' => e = .returned (.tuple #[nu P.ans, nun P.no, nu P.pl]) ∧ (w'.cell? ⟨t, 0, none⟩ = some (ptr g) ∧ w'.cell? ⟨lb, 0, none⟩ = some (nu 0) ∧ w'.cell? ⟨lb, 1, none⟩ = some (nu 0)) ∧ Hid (Ts base w w' t g b cap fv ⟨P.sl, A.fr, A.wr⟩ last lb 0 0)) := fun wx hx => by
        have := push_ref base wx g b cap fv A rr i hx.out.tr.ar hl hcc
        rw [hP] at this
        refine this.mono ?_
        rintro e w' ⟨rfl, q1, q2⟩
        have := hx.out.slots q1 q2
        exact ⟨rfl, this.read, this⟩
      have hlP : P.sl.length = 32 := by rw [← hP, push_len]; exact hl
      obtain ⟨Pa, Pn, Pp, Ps⟩ := P
      dsimp only at cP hlP HRN HRY
      have HTD : Hid (Ts base w W1.drew t g b cap fv A last lb 0 0) := HT1.out.drew
      have HSD : Hid (W1.drew.cell? ⟨t, 0, none⟩ = some (ptr g) ∧ W1.drew.cell? ⟨lb, 0, none⟩ = some (nu 0) ∧ W1.drew.cell? ⟨lb, 1, none⟩ = some (nu 0)) := HTD.out.read
      obtain ⟨ki, rfl⟩ : ∃ ki : Nat, i = (ki : Int) := ⟨i.toNat, by omega⟩
      have hki : ki < 32 := by omega
      have hkI : (ki : Int) < 32 := by omega
      have hk0 : (0 : Int) ≤ (ki : Int) := by omega
      have cS : Hid (∀ wx A2, A2.sl.length = 32 → Ts base w wx t g b cap fv A2 last lb 0 0 → Calls Tryz.prog 44 #[ptr t, lkU 0 0, nu Pa] wx fun e w' => (∃ u, e = .returned u) ∧ RTr base w' t g (.slice (some ⟨b, 0, none⟩) 32 cap) fv ⟨if 0 = 0 then A2.sl else setK A2.sl 0 Pa, A2.fr, A2.wr⟩ (if 0 = 0 then Pa else last) ∧ Keep (fun j => j = t ∨ j = b) w w') := fun wx A2 hl2 hx => by
        refine (setT_ref base wx t g b cap fv A2 last 0 0 Pa hx.tr hl2 hcc (fun q => absurd rfl q)).mono ?_
        rintro e w' ⟨q1, q2, q3⟩
        exact ⟨q1, q2, hx.kp.trans q3 (fun _ _ e => e)⟩
      clear hP hrr
      go_upto_region 12 with fail
      go_region_held3 (fun w' => w'.cell? ⟨t, 0, none⟩ = some (ptr g) ∧ w'.cell? ⟨lb, 0, none⟩ = some (nu 0) ∧ w'.cell? ⟨lb, 1, none⟩ = some (nu 0)) (first | assumption | exact HSD.out | exact hs5 | exact hs6 | fail) (first | (go_at_call 43; with_reducible refine (cR.out _ HTD.out).mono ?_; rintro e w5 ⟨rfl, hs5, hQ5⟩) | (go_at_call 42; with_reducible refine (cP.out _ hQ5).mono ?_; rintro e w6 ⟨rfl, hs6, hQ6⟩) | fail)
      clear cR cP HTD HSD hQ5 hs5 z0 z1 z2
      by_cases hn : Pn = 0
      · subst hn
        have hr := HRY.out rfl
        have HRR := Hid.mk' hr
        obtain ⟨y0, y1, y2⟩ := hs6
        have y3 := hQ6.out.tr.ar.cells.1
        obtain ⟨_, y4, _, _, _, yf⟩ := RAn.read hQ6.out.tr.ar hlP ki hki
        have yf2 := yf (ki * 17 + 2)
        have HT7 : Hid (Ts base w (w6.setCell ⟨b, ki * 17 + 2, none⟩ (nu (-1))) t g b cap fv ⟨setK Ps ki (-1), A.fr, A.wr⟩ last lb 0 0) := hQ6.out.slots (RAn.putK hQ6.out.tr.ar hlP ki hki (-1)) (keep_cell _ _ _ _)
        clear hr yf HRN HRY hQ6
        go_upto_region 16 with fail
        have hlK : (setK Ps ki (-1)).length = 32 := by rw [setK_len]; exact hlP
        clear y0 y1 y2 y3 y4 yf2
        generalize w6.setCell ⟨b, ki * 17 + 2, none⟩ (nu (-1)) = W7 at *
        obtain ⟨y0, y1, y2⟩ := HT7.out.read
        have y3 := HT7.out.tr.ar.cells.1
        obtain ⟨_, _, _, y7, y8, yf⟩ := RAn.read HT7.out.tr.ar hlK ki hki
        have yf7 := yf (ki * 17 + 7)
        have yf8 := yf (ki * 17 + 8)
        have HT8 : Hid (Ts base w (((W7.setCell ⟨b, ki * 17 + 7, none⟩ (nu 0)).setCell ⟨b, ki * 17 + 8, none⟩ (nu 0)).drew) t g b cap fv ⟨setU (setK Ps ki (-1)) ki 0 0, A.fr, A.wr⟩ last lb 0 0) := (HT7.out.slots (RAn.putU HT7.out.tr.ar hlK ki hki 0 0) ((keep_cell _ _ _ _).trans (keep_cell _ _ _ _) (fun _ _ e => e))).drew
        have hlU : (setU (setK Ps ki (-1)) ki 0 0).length = 32 := by rw [setU_len]; exact hlK
        clear yf HT7
        have HT9 : Hid (Ts base w (((W7.setCell ⟨b, ki * 17 + 5 + 2, none⟩ (nu 0)).setCell ⟨b, ki * 17 + 5 + 2 + 1, none⟩ (nu 0)).drew) t g b cap fv ⟨setU (setK Ps ki (-1)) ki 0 0, A.fr, A.wr⟩ last lb 0 0) := HT8
        clear HT8
        go_region
        clear y0 y1 y2 y3 y7 y8 yf7 yf8
        generalize ((W7.setCell ⟨b, ki * 17 + 5 + 2, none⟩ (nu 0)).setCell ⟨b, ki * 17 + 5 + 2 + 1, none⟩ (nu 0)).drew = W9 at *
        have c9 := Hid.mk' (cS.out W9 _ hlU HT9.out)
        obtain ⟨y0, y1, y2⟩ := HT9.out.read
        clear cS HT9
        go_wp2_with fail
        refine c9.out.mono ?_
        rintro e W10 ⟨⟨u10, rfl⟩, hr10, hk10⟩
        have HR10 := Hid.mk' hr10
        have HK10 := Hid.mk' hk10
        clear hr10 hk10 c9
        go_wp2
        go_ret2
        rw [HRR.out]
        exact ⟨rfl, HR10.out, HK10.out⟩
      · have hr := HRN.out hn
        have HRR := Hid.mk' hr
        have hbn : ((Pn : Int) != 0) = true := by simp; omega
        clear hr hn HRN HRY
        go_wp2
        go_ret2
        rw [HRR.out.1]
        refine ⟨rfl, ?_, hQ6.out.kp⟩
        have := hQ6.out.tr
        rw [HRR.out.2] at this
        exact this
    · have hb0 : (ub == 0) = false := by simpa using h0
      have cT := Hid.mk' (there_ref us W0)
      by_cases hus : there us
      · rw [decide_eq_true hus] at cT
        rw [if_neg (by rintro ⟨_, q⟩; exact q hus)] at hR
        by_cases hsi : us = i
        · rw [if_pos ⟨h0, hsi⟩] at hR
          have hb1 : (us == i) = true := by simpa using hsi
          subst hR
          dsimp only
          clear hu hu0 hti h0 hus hsi
          go_enter Tryz.func23, Tryz.ntmps23
          go_upto_region 1 with fail
          rw [HW0.out, HLB.out]
          go_wp2_with (first | (go_at_call 40; refine cU.out.mono ?_; rintro e w1 ⟨rfl, hw1⟩; subst w1) | (go_at_call 37; refine cT.out.mono ?_; rintro e w1 ⟨rfl, hw1⟩; subst w1) | fail)
          go_ret2
          exact ⟨rfl, HEN.out _ HT0.out⟩
        · rw [if_neg (by rintro ⟨_, q⟩; exact hsi q)] at hR
          have hb1 : (us == i) = false := by simpa using hsi
          have cI := Hid.mk' (thereL_ref base W0 t g b cap fv A last us ub HT0.out.tr hl hcc)
          by_cases hiu : isUp A.sl us ub
          · rw [decide_eq_true hiu] at cI
            rw [if_neg (by rintro ⟨_, q⟩; exact q hiu)] at hR
            obtain ⟨rr, hrr⟩ : ∃ rr, ringOf A.sl last us ub = rr := ⟨_, rfl⟩
            obtain ⟨P, hP⟩ : ∃ P, push A.sl rr i = P := ⟨_, rfl⟩
            have hP2 : push A.sl (at' A.sl us).kids i = P := by rw [← hP, ← hrr, ringOf, if_neg h0]
            rw [hrr, hP, if_neg h0, hP2] at hR
            have HRN : Hid (P.no ≠ 0 → R = ⟨P.no, P.pl, A.sl, last⟩ ∧ P.sl = A.sl) := fun q => by
              rw [if_pos q] at hR
              exact ⟨hR.symm, by rw [← hP]; exact push_same _ _ _ (by rw [hP]; exact q)⟩
            have HRY : Hid (P.no = 0 → R = ⟨0, -1, if ub = 0 then setU (setK P.sl i (-1)) i us ub else setK (setU (setK P.sl i (-1)) i us ub) us P.ans, if ub = 0 then P.ans else last⟩) := fun q => by
              rw [if_neg (fun z => z q)] at hR
              rw [if_neg h0, if_neg h0]
              exact hR.symm
            have HUS : Hid (ub ≠ 0 → there us) := fun _ => hus
            have HLN := Hid.mk' HT0.out.ln.range
            clear hR hP2 hus hsi hiu h0
            go_enter Tryz.func23, Tryz.ntmps23
            go_upto_region 1 with fail
            rw [HW0.out, HLB.out]
            go_wp2_with (first | (go_at_call 40; refine cU.out.mono ?_; rintro e w1 ⟨rfl, hw1⟩; subst w1) | (go_at_call 37; refine cT.out.mono ?_; rintro e w1 ⟨rfl, hw1⟩; subst w1) | (refine wpList_load_lnl rfl _ rfl lb 0 rfl us ub HLN.out ?_) | fail)
            refine cI.out.mono ?_
            rintro e W1 ⟨rfl, hbI⟩
            have HT1 : Hid (Ts base w W1 t g b cap fv A last lb us ub) := HT0.out.below hbI
            clear x0 x1 HT0 cU HW0 HLB hu hu0 HEN cT cI hbI HLN
            obtain ⟨z0, z1, z2⟩ := HT1.out.read
            have cR : Hid (∀ wx, Ts base w wx t g b cap fv A last lb us ub → Calls Tryz.prog 43 #[ptr t, lkU us ub] wx fun e w' => e = .returned (nu rr) ∧ (w'.cell? ⟨t, 0, none⟩ = some (ptr g) ∧ w'.cell? ⟨lb, 0, none⟩ = some (nu us) ∧ w'.cell? ⟨lb, 1, none⟩ = some (nu ub)) ∧ Hid (Ts base w w' t g b cap fv A last lb us ub)) := fun wx hx => by
              have := ringT_ref base wx t g b cap fv A last us ub hx.tr hl hcc HUS.out
              rw [hrr] at this
              refine this.mono ?_
              rintro e w' ⟨rfl, hb'⟩
              exact ⟨rfl, (hx.below hb').read, hx.below hb'⟩
            have cP : Hid (∀ wx, Hid (Ts base w wx t g b cap fv A last lb us ub) → Calls Tryz.prog 42 #[ptr g, nu rr, nu i] wx fun e w' => e = .returned (.tuple #[nu P.ans, nun P.no, nu P.pl]) ∧ (w'.cell? ⟨t, 0, none⟩ = some (ptr g) ∧ w'.cell? ⟨lb, 0, none⟩ = some (nu us) ∧ w'.cell? ⟨lb, 1, none⟩ = some (nu ub)) ∧ Hid (Ts base w w' t g b cap fv ⟨P.sl, A.fr, A.wr⟩ last lb us ub)) := fun wx hx => by
              have := push_ref base wx g b cap fv A rr i hx.out.tr.ar hl hcc
              rw [hP] at this
              refine this.mono ?_
              rintro e w' ⟨rfl, q1, q2⟩
              have := hx.out.slots q1 q2
              exact ⟨rfl, this.read, this⟩
            have hlP : P.sl.length = 32 := by rw [← hP, push_len]; exact hl
            obtain ⟨Pa, Pn, Pp, Ps⟩ := P
            dsimp only at cP hlP HRN HRY
            have HTD : Hid (Ts base w W1.drew t g b cap fv A last lb us ub) := HT1.out.drew
            have HSD : Hid (W1.drew.cell? ⟨t, 0, none⟩ = some (ptr g) ∧ W1.drew.cell? ⟨lb, 0, none⟩ = some (nu us) ∧ W1.drew.cell? ⟨lb, 1, none⟩ = some (nu ub)) := HTD.out.read
            obtain ⟨ki, rfl⟩ : ∃ ki : Nat, i = (ki : Int) := ⟨i.toNat, by omega⟩
            have hki : ki < 32 := by omega
            have hkI : (ki : Int) < 32 := by omega
            have hk0 : (0 : Int) ≤ (ki : Int) := by omega
            have cS : Hid (∀ wx A2, A2.sl.length = 32 → Ts base w wx t g b cap fv A2 last lb us ub → Calls Tryz.prog 44 #[ptr t, lkU us ub, nu Pa] wx fun e w' => (∃ u, e = .returned u) ∧ RTr base w' t g (.slice (some ⟨b, 0, none⟩) 32 cap) fv ⟨if ub = 0 then A2.sl else setK A2.sl us Pa, A2.fr, A2.wr⟩ (if ub = 0 then Pa else last) ∧ Keep (fun j => j = t ∨ j = b) w w') := fun wx A2 hl2 hx => by
              refine (setT_ref base wx t g b cap fv A2 last us ub Pa hx.tr hl2 hcc HUS.out).mono ?_
              rintro e w' ⟨q1, q2, q3⟩
              exact ⟨q1, q2, hx.kp.trans q3 (fun _ _ e => e)⟩
            clear hP hrr
            go_upto_region 12 with fail
            go_region_held3 (fun w' => w'.cell? ⟨t, 0, none⟩ = some (ptr g) ∧ w'.cell? ⟨lb, 0, none⟩ = some (nu us) ∧ w'.cell? ⟨lb, 1, none⟩ = some (nu ub)) (first | assumption | exact HSD.out | exact hs5 | exact hs6 | fail) (first | (go_at_call 43; with_reducible refine (cR.out _ HTD.out).mono ?_; rintro e w5 ⟨rfl, hs5, hQ5⟩) | (go_at_call 42; with_reducible refine (cP.out _ hQ5).mono ?_; rintro e w6 ⟨rfl, hs6, hQ6⟩) | fail)
            clear cR cP HTD HSD hQ5 hs5 z0 z1 z2
            by_cases hn : Pn = 0
            · subst hn
              have hr := HRY.out rfl
              have HRR := Hid.mk' hr
              obtain ⟨y0, y1, y2⟩ := hs6
              have y3 := hQ6.out.tr.ar.cells.1
              obtain ⟨_, y4, _, _, _, yf⟩ := RAn.read hQ6.out.tr.ar hlP ki hki
              have yf2 := yf (ki * 17 + 2)
              have HT7 : Hid (Ts base w (w6.setCell ⟨b, ki * 17 + 2, none⟩ (nu (-1))) t g b cap fv ⟨setK Ps ki (-1), A.fr, A.wr⟩ last lb us ub) := hQ6.out.slots (RAn.putK hQ6.out.tr.ar hlP ki hki (-1)) (keep_cell _ _ _ _)
              clear hr yf HRN HRY hQ6
              go_upto_region 16 with fail
              have hlK : (setK Ps ki (-1)).length = 32 := by rw [setK_len]; exact hlP
              clear y0 y1 y2 y3 y4 yf2
              generalize w6.setCell ⟨b, ki * 17 + 2, none⟩ (nu (-1)) = W7 at *
              obtain ⟨y0, y1, y2⟩ := HT7.out.read
              have y3 := HT7.out.tr.ar.cells.1
              obtain ⟨_, _, _, y7, y8, yf⟩ := RAn.read HT7.out.tr.ar hlK ki hki
              have yf7 := yf (ki * 17 + 7)
              have yf8 := yf (ki * 17 + 8)
              have HT8 : Hid (Ts base w (((W7.setCell ⟨b, ki * 17 + 7, none⟩ (nu us)).setCell ⟨b, ki * 17 + 8, none⟩ (nu ub)).drew) t g b cap fv ⟨setU (setK Ps ki (-1)) ki us ub, A.fr, A.wr⟩ last lb us ub) := (HT7.out.slots (RAn.putU HT7.out.tr.ar hlK ki hki us ub) ((keep_cell _ _ _ _).trans (keep_cell _ _ _ _) (fun _ _ e => e))).drew
              have hlU : (setU (setK Ps ki (-1)) ki us ub).length = 32 := by rw [setU_len]; exact hlK
              clear yf HT7
              have HT9 : Hid (Ts base w (((W7.setCell ⟨b, ki * 17 + 5 + 2, none⟩ (nu us)).setCell ⟨b, ki * 17 + 5 + 2 + 1, none⟩ (nu ub)).drew) t g b cap fv ⟨setU (setK Ps ki (-1)) ki us ub, A.fr, A.wr⟩ last lb us ub) := HT8
              clear HT8
              go_region
              clear y0 y1 y2 y3 y7 y8 yf7 yf8
              generalize ((W7.setCell ⟨b, ki * 17 + 5 + 2, none⟩ (nu us)).setCell ⟨b, ki * 17 + 5 + 2 + 1, none⟩ (nu ub)).drew = W9 at *
              have c9 := Hid.mk' (cS.out W9 _ hlU HT9.out)
              obtain ⟨y0, y1, y2⟩ := HT9.out.read
              clear cS HT9
              go_wp2_with fail
              refine c9.out.mono ?_
              rintro e W10 ⟨⟨u10, rfl⟩, hr10, hk10⟩
              have HR10 := Hid.mk' hr10
              have HK10 := Hid.mk' hk10
              clear hr10 hk10 c9
              go_wp2
              go_ret2
              rw [HRR.out]
              exact ⟨rfl, HR10.out, HK10.out⟩
            · have hr := HRN.out hn
              have HRR := Hid.mk' hr
              have hbn : ((Pn : Int) != 0) = true := by simp; omega
              clear hr hn HRN HRY
              go_wp2
              go_ret2
              rw [HRR.out.1]
              refine ⟨rfl, ?_, hQ6.out.kp⟩
              have := hQ6.out.tr
              rw [HRR.out.2] at this
              exact this
          · rw [decide_eq_false hiu] at cI
            rw [if_pos ⟨h0, hiu⟩] at hR
            subst hR
            dsimp only
            have HLN := Hid.mk' HT0.out.ln.range
            clear hu hu0 hti h0 hus hsi hiu
            go_enter Tryz.func23, Tryz.ntmps23
            go_upto_region 1 with fail
            rw [HW0.out, HLB.out]
            go_wp2_with (first | (go_at_call 40; refine cU.out.mono ?_; rintro e w1 ⟨rfl, hw1⟩; subst w1) | (go_at_call 37; refine cT.out.mono ?_; rintro e w1 ⟨rfl, hw1⟩; subst w1) | (refine wpList_load_lnl rfl _ rfl lb 0 rfl us ub HLN.out ?_) | fail)
            refine cI.out.mono ?_
            rintro e W1 ⟨rfl, hbI⟩
            have HT1 : Hid (Ts base w W1 t g b cap fv A last lb us ub) := HT0.out.below hbI
            clear hbI
            go_wp2
            go_ret2
            exact ⟨rfl, HEN.out _ HT1.out⟩
      · rw [decide_eq_false hus] at cT
        rw [if_pos ⟨h0, hus⟩] at hR
        subst hR
        dsimp only
        clear hu hu0 hti h0 hus
        go_enter Tryz.func23, Tryz.ntmps23
        go_upto_region 1 with fail
        rw [HW0.out, HLB.out]
        go_wp2_with (first | (go_at_call 40; refine cU.out.mono ?_; rintro e w1 ⟨rfl, hw1⟩; subst w1) | (go_at_call 37; refine cT.out.mono ?_; rintro e w1 ⟨rfl, hw1⟩; subst w1) | fail)
        go_ret2
        exact ⟨rfl, HEN.out _ HT0.out⟩
end Tr
end Go.Proofs.YtcleeidfiaafcaaGreatDoor
/- The document's trees: Cut. -/
namespace Go.Proofs.YtcleeidfiaafcaaGreatDoor
set_option linter.ambiguousOpen false
open Go.RowKit
namespace Tr
open An Rg Ft Lv
set_option linter.unusedSimpArgs false
set_option linter.unusedVariables false

set_option maxRecDepth 100000 in
set_option maxHeartbeats 4000000 in
theorem cut_ref (base : Nat) (w : World) (t g b cap : Nat) (fv : Value) (A : Arn) (last i : Int) (h : RTr base w t g (.slice (some ⟨b, 0, none⟩) 32 cap) fv A last) (hl : A.sl.length = 32) (hcc : 32 ≤ cap ∧ cap ≤ 9223372036854775807) :
    Calls Tryz.prog 26 #[ptr t, nu i] w fun e w' => e = .returned (.tuple #[nun (cutT A.sl last i).no, nu (cutT A.sl last i).pl]) ∧ RTr base w' t g (.slice (some ⟨b, 0, none⟩) 32 cap) fv ⟨(cutT A.sl last i).sl, A.fr, A.wr⟩ (cutT A.sl last i).last ∧ Keep (fun j => j = t ∨ j = b) w w' := by
  obtain ⟨R, hR⟩ : ∃ R, cutT A.sl last i = R := ⟨_, rfl⟩
  rw [hR]
  unfold cutT cutU at hR
  obtain ⟨hc1, hc2⟩ := id hcc
  have cU := Hid.mk' (used_ref base w t g b cap fv A last i h hl hcc)
  by_cases hu : usedE A.sl i ≠ 0
  · rw [if_pos hu] at hR
    subst hR
    dsimp only
    have HEN : Hid (RTr base w t g (.slice (some ⟨b, 0, none⟩) 32 cap) fv ⟨A.sl, A.fr, A.wr⟩ last) := h
    generalize usedE A.sl i = u at *
    have hb : ((u : Int) != 0) = true := by simp; omega
    clear h
    go_enter Tryz.func26, Tryz.ntmps26
    go_wp2_with (first | (go_at_call 40; refine cU.out.mono ?_; rintro e w1 ⟨rfl, hw1⟩; subst w1) | fail)
    go_ret2
    exact ⟨rfl, HEN.out, Keep.refl _ _⟩
  · have hu0 : usedE A.sl i = 0 := by omega
    rw [if_neg hu] at hR
    rw [hu0] at cU
    have hti : there i := by
      by_cases q : there i
      · exact q
      · unfold usedE at hu0
        rw [if_pos q] at hu0
        omega
    obtain ⟨ki, rfl⟩ : ∃ ki : Nat, i = (ki : Int) := ⟨i.toNat, by omega⟩
    have hki : ki < 32 := by omega
    have hkI : (ki : Int) < 32 := by omega
    have hk0 : (0 : Int) ≤ (ki : Int) := by omega
    obtain ⟨_, _, _, s7, s8, _⟩ := RAn.read h.ar hl ki hki
    obtain ⟨us, hus⟩ : ∃ us, (at' A.sl ki).s.us = us := ⟨_, rfl⟩
    obtain ⟨ub, hub⟩ : ∃ ub, (at' A.sl ki).s.ub = ub := ⟨_, rfl⟩
    rw [hus] at s7
    rw [hub] at s8
    rw [hus, hub] at hR
    have HRG : Hid (w.rangeAt b (ki * 17 + 5 + 2) [nu us, nu ub]) := fun j v hv => by
      rcases j with _ | (_ | j)
      · obtain rfl : nu us = v := by simpa using hv
        exact s7
      · obtain rfl : nu ub = v := by simpa using hv
        exact s8
      · simp at hv
    obtain ⟨q0, _, _⟩ := h.cells
    have q1 := h.ar.cells.1
    obtain ⟨lb, hlb⟩ : ∃ lb, w.heap.size = lb := ⟨_, rfl⟩
    have HLB := Hid.mk' hlb
    have HZB : Hid (Lnl (w.alloc (.cells #[nu 0, nu 0] 34)) lb 0 0) := by rw [← hlb]; exact lnl_new _ _ _
    have hBZ : Below w.heap.size w (w.alloc (.cells #[nu 0, nu 0] 34)) := (Below.refl _ _).alloc (Nat.le_refl _) _
    have HT : Hid (∀ wx, Lnl wx lb us ub → (w.alloc (.cells #[nu 0, nu 0] 34)).grownBy wx (some lb) → Ts base w wx t g b cap fv A last lb us ub) := fun wx h1 h2 => by
      obtain ⟨b', cap', e, _, _, _, hbl⟩ := h.ar.slot hl 0 (by omega)
      simp only [Value.slice.injEq, Option.some.injEq, Addr.mk.injEq, and_true, true_and] at e
      obtain ⟨rfl, rfl⟩ := e
      have hB : Below w.heap.size w wx := hBZ.grown h2 hBZ.size (fun r e => by cases e; omega)
      have := h.tlt
      exact ⟨h.below hB, h1, Keep.of_below hB, by omega, by omega, by omega⟩
    clear hu hu0 hti s7 s8 hus hub hlb h hBZ
    by_cases h0 : ub = 0
    · rw [if_neg (fun q => q.1 h0)] at hR
      have hb0 : (ub != 0) = false := by simp [h0]
      have HUS : Hid (ub ≠ 0 → there us) := fun q => absurd h0 q
      clear h0
      obtain ⟨rr, hrr⟩ : ∃ rr, ringOf A.sl last us ub = rr := ⟨_, rfl⟩
      obtain ⟨P, hP⟩ : ∃ P, drop A.sl rr ki = P := ⟨_, rfl⟩
      rw [hrr, hP] at hR
      have HRN : Hid (P.no ≠ 0 → R = ⟨P.no, P.pl, A.sl, last⟩ ∧ P.sl = A.sl) := fun q => by
        rw [if_pos q] at hR
        exact ⟨hR.symm, by rw [← hP]; exact drop_same _ _ _ (by rw [hP]; exact q)⟩
      have HRY : Hid (P.no = 0 → R = ⟨0, -1, if ub = 0 then P.sl else setK P.sl us P.ans, if ub = 0 then P.ans else last⟩) := fun q => by
        rw [if_neg (fun z => z q)] at hR
        rw [← hR, ← hP, ← hrr]
        unfold ringOf
        by_cases h0 : ub = 0
        · simp [h0]
        · simp [h0]
      have cR : Hid (∀ wx, Ts base w wx t g b cap fv A last lb us ub → Calls Tryz.prog 43 #[ptr t, lkU us ub] wx fun e w' => e = .returned (nu rr) ∧ (w'.cell? ⟨t, 0, none⟩ = some (ptr g) ∧ w'.cell? ⟨lb, 0, none⟩ = some (nu us) ∧ w'.cell? ⟨lb, 1, none⟩ = some (nu ub)) ∧ Hid (Ts base w w' t g b cap fv A last lb us ub)) := fun wx hx => by
        have := ringT_ref base wx t g b cap fv A last us ub hx.tr hl hcc HUS.out
        rw [hrr] at this
        refine this.mono ?_
        rintro e w' ⟨rfl, hb'⟩
        exact ⟨rfl, (hx.below hb').read, hx.below hb'⟩
      have cP : Hid (∀ wx, Hid (Ts base w wx t g b cap fv A last lb us ub) → Calls Tryz.prog 53 #[ptr g, nu rr, nu ki] wx fun e w' => e = .returned (.tuple #[nu P.ans, nun P.no, nu P.pl]) ∧ (w'.cell? ⟨t, 0, none⟩ = some (ptr g) ∧ w'.cell? ⟨lb, 0, none⟩ = some (nu us) ∧ w'.cell? ⟨lb, 1, none⟩ = some (nu ub)) ∧ Hid (Ts base w w' t g b cap fv ⟨P.sl, A.fr, A.wr⟩ last lb us ub)) := fun wx hx => by
        have := drop_ref base wx g b cap fv A rr ki hx.out.tr.ar hl hcc
        rw [hP] at this
        refine this.mono ?_
        rintro e w' ⟨rfl, q1, q2⟩
        have := hx.out.slots q1 q2
        exact ⟨rfl, this.read, this⟩
      have hlP : P.sl.length = 32 := by rw [← hP, drop_len]; exact hl
      obtain ⟨Pa, Pn, Pp, Ps⟩ := P
      dsimp only at cP hlP HRN HRY
      have cS : Hid (∀ wx A2, A2.sl.length = 32 → Ts base w wx t g b cap fv A2 last lb us ub → Calls Tryz.prog 44 #[ptr t, lkU us ub, nu Pa] wx fun e w' => (∃ u, e = .returned u) ∧ RTr base w' t g (.slice (some ⟨b, 0, none⟩) 32 cap) fv ⟨if ub = 0 then A2.sl else setK A2.sl us Pa, A2.fr, A2.wr⟩ (if ub = 0 then Pa else last) ∧ Keep (fun j => j = t ∨ j = b) w w') := fun wx A2 hl2 hx => by
        refine (setT_ref base wx t g b cap fv A2 last us ub Pa hx.tr hl2 hcc HUS.out).mono ?_
        rintro e w' ⟨q1, q2, q3⟩
        exact ⟨q1, q2, hx.kp.trans q3 (fun _ _ e => e)⟩
      clear hP hrr hR
      go_enter Tryz.func26, Tryz.ntmps26
      go_wp2_with (first | (go_at_call 40; refine cU.out.mono ?_; rintro e w1 ⟨rfl, hw1⟩; subst w1) | (refine wpList_load_lnl rfl _ rfl b (ki * 17 + 5 + 2) rfl us ub HRG.out ?_) | (rw [HLB.out]; refine wpList_store_lnl rfl _ _ rfl lb rfl us ub rfl 0 0 HZB.out ?_; intro W0 hl1 hg1 hs1; have HT0 := Hid.mk' (HT.out W0 hl1 hg1); have x0 := hl1.cells.1; have x1 := hl1.cells.2.1; have HLN := Hid.mk' hl1.range; clear hl1 hg1 hs1) | (refine wpList_load_lnl rfl _ rfl lb 0 rfl us ub HLN.out ?_) | fail)
      have HT1 := HT0
      clear x0 x1 HT0 HT HZB HRG HLB HLN
      have HT1D := Hid.mk' HT1.out.drew
      have HSD := Hid.mk' HT1D.out.read
      obtain ⟨z0, z1, z2⟩ := HT1.out.read
      go_upto_region 7 with fail
      go_region_held3 (fun w' => w'.cell? ⟨t, 0, none⟩ = some (ptr g) ∧ w'.cell? ⟨lb, 0, none⟩ = some (nu us) ∧ w'.cell? ⟨lb, 1, none⟩ = some (nu ub)) (first | assumption | exact HSD.out | exact hs5 | exact hs6 | fail) (first | (go_at_call 43; with_reducible refine (cR.out _ HT1D.out).mono ?_; rintro e w5 ⟨rfl, hs5, hQ5⟩) | (go_at_call 53; with_reducible refine (cP.out _ hQ5).mono ?_; rintro e w6 ⟨rfl, hs6, hQ6⟩) | fail)
      clear HT1D HSD hQ5 hs5 z0 z1 z2
      by_cases hn : Pn = 0
      · subst hn
        have HRR := Hid.mk' (HRY.out rfl)
        obtain ⟨y0, y1, y2⟩ := hs6
        have HLN6 := Hid.mk' hQ6.out.ln.range
        have c9 := Hid.mk' (cS.out w6 ⟨Ps, A.fr, A.wr⟩ hlP hQ6.out)
        clear HRN HRY
        go_wp2_with (first | (refine wpList_load_lnl rfl _ rfl lb 0 rfl us ub HLN6.out ?_) | fail)
        refine c9.out.mono ?_
        rintro e W10 ⟨⟨u10, rfl⟩, hr10, hk10⟩
        have HR10 := Hid.mk' hr10
        have HK10 := Hid.mk' hk10
        clear hr10 hk10 c9
        go_wp2
        go_ret2
        rw [HRR.out]
        exact ⟨rfl, HR10.out, HK10.out⟩
      · have HRR := Hid.mk' (HRN.out hn)
        have hbn : ((Pn : Int) != 0) = true := by simp; omega
        clear hn HRN HRY
        go_wp2
        go_ret2
        rw [HRR.out.1]
        refine ⟨rfl, ?_, hQ6.out.kp⟩
        have := hQ6.out.tr
        rw [HRR.out.2] at this
        exact this
    · have hb0 : (ub != 0) = true := by simpa using h0
      have cI : Hid (∀ wx, Ts base w wx t g b cap fv A last lb us ub → Calls Tryz.prog 41 #[ptr t, lkU us ub] wx fun e w' => e = .returned (.bool (decide (isUp A.sl us ub))) ∧ Hid (Ts base w w' t g b cap fv A last lb us ub)) := fun wx hx => by
        refine (thereL_ref base wx t g b cap fv A last us ub hx.tr hl hcc).mono ?_
        rintro e w' ⟨rfl, hb'⟩
        exact ⟨rfl, hx.below hb'⟩
      by_cases hiu : isUp A.sl us ub
      · simp only [decide_eq_true hiu] at cI
        rw [if_neg (fun q => q.2 hiu)] at hR
        have HUS : Hid (ub ≠ 0 → there us) := fun _ => hiu.1
        clear h0 hiu
        obtain ⟨rr, hrr⟩ : ∃ rr, ringOf A.sl last us ub = rr := ⟨_, rfl⟩
        obtain ⟨P, hP⟩ : ∃ P, drop A.sl rr ki = P := ⟨_, rfl⟩
        rw [hrr, hP] at hR
        have HRN : Hid (P.no ≠ 0 → R = ⟨P.no, P.pl, A.sl, last⟩ ∧ P.sl = A.sl) := fun q => by
          rw [if_pos q] at hR
          exact ⟨hR.symm, by rw [← hP]; exact drop_same _ _ _ (by rw [hP]; exact q)⟩
        have HRY : Hid (P.no = 0 → R = ⟨0, -1, if ub = 0 then P.sl else setK P.sl us P.ans, if ub = 0 then P.ans else last⟩) := fun q => by
          rw [if_neg (fun z => z q)] at hR
          rw [← hR, ← hP, ← hrr]
          unfold ringOf
          by_cases h0 : ub = 0
          · simp [h0]
          · simp [h0]
        have cR : Hid (∀ wx, Ts base w wx t g b cap fv A last lb us ub → Calls Tryz.prog 43 #[ptr t, lkU us ub] wx fun e w' => e = .returned (nu rr) ∧ (w'.cell? ⟨t, 0, none⟩ = some (ptr g) ∧ w'.cell? ⟨lb, 0, none⟩ = some (nu us) ∧ w'.cell? ⟨lb, 1, none⟩ = some (nu ub)) ∧ Hid (Ts base w w' t g b cap fv A last lb us ub)) := fun wx hx => by
          have := ringT_ref base wx t g b cap fv A last us ub hx.tr hl hcc HUS.out
          rw [hrr] at this
          refine this.mono ?_
          rintro e w' ⟨rfl, hb'⟩
          exact ⟨rfl, (hx.below hb').read, hx.below hb'⟩
        have cP : Hid (∀ wx, Hid (Ts base w wx t g b cap fv A last lb us ub) → Calls Tryz.prog 53 #[ptr g, nu rr, nu ki] wx fun e w' => e = .returned (.tuple #[nu P.ans, nun P.no, nu P.pl]) ∧ (w'.cell? ⟨t, 0, none⟩ = some (ptr g) ∧ w'.cell? ⟨lb, 0, none⟩ = some (nu us) ∧ w'.cell? ⟨lb, 1, none⟩ = some (nu ub)) ∧ Hid (Ts base w w' t g b cap fv ⟨P.sl, A.fr, A.wr⟩ last lb us ub)) := fun wx hx => by
          have := drop_ref base wx g b cap fv A rr ki hx.out.tr.ar hl hcc
          rw [hP] at this
          refine this.mono ?_
          rintro e w' ⟨rfl, q1, q2⟩
          have := hx.out.slots q1 q2
          exact ⟨rfl, this.read, this⟩
        have hlP : P.sl.length = 32 := by rw [← hP, drop_len]; exact hl
        obtain ⟨Pa, Pn, Pp, Ps⟩ := P
        dsimp only at cP hlP HRN HRY
        have cS : Hid (∀ wx A2, A2.sl.length = 32 → Ts base w wx t g b cap fv A2 last lb us ub → Calls Tryz.prog 44 #[ptr t, lkU us ub, nu Pa] wx fun e w' => (∃ u, e = .returned u) ∧ RTr base w' t g (.slice (some ⟨b, 0, none⟩) 32 cap) fv ⟨if ub = 0 then A2.sl else setK A2.sl us Pa, A2.fr, A2.wr⟩ (if ub = 0 then Pa else last) ∧ Keep (fun j => j = t ∨ j = b) w w') := fun wx A2 hl2 hx => by
          refine (setT_ref base wx t g b cap fv A2 last us ub Pa hx.tr hl2 hcc HUS.out).mono ?_
          rintro e w' ⟨q1, q2, q3⟩
          exact ⟨q1, q2, hx.kp.trans q3 (fun _ _ e => e)⟩
        clear hP hrr hR
        go_enter Tryz.func26, Tryz.ntmps26
        go_wp2_with (first | (go_at_call 40; refine cU.out.mono ?_; rintro e w1 ⟨rfl, hw1⟩; subst w1) | (refine wpList_load_lnl rfl _ rfl b (ki * 17 + 5 + 2) rfl us ub HRG.out ?_) | (rw [HLB.out]; refine wpList_store_lnl rfl _ _ rfl lb rfl us ub rfl 0 0 HZB.out ?_; intro W0 hl1 hg1 hs1; have HT0 := Hid.mk' (HT.out W0 hl1 hg1); have x0 := hl1.cells.1; have x1 := hl1.cells.2.1; have HLN := Hid.mk' hl1.range; clear hl1 hg1 hs1) | (refine wpList_load_lnl rfl _ rfl lb 0 rfl us ub HLN.out ?_) | fail)
        refine (cI.out _ HT0.out).mono ?_
        rintro e W1 ⟨rfl, HT1⟩
        clear x0 x1 HT0 HT HZB HRG HLB HLN cI
        have HT1D := Hid.mk' HT1.out.drew
        have HSD := Hid.mk' HT1D.out.read
        obtain ⟨z0, z1, z2⟩ := HT1.out.read
        go_upto_region 7 with fail
        go_region_held3 (fun w' => w'.cell? ⟨t, 0, none⟩ = some (ptr g) ∧ w'.cell? ⟨lb, 0, none⟩ = some (nu us) ∧ w'.cell? ⟨lb, 1, none⟩ = some (nu ub)) (first | assumption | exact HSD.out | exact hs5 | exact hs6 | fail) (first | (go_at_call 43; with_reducible refine (cR.out _ HT1D.out).mono ?_; rintro e w5 ⟨rfl, hs5, hQ5⟩) | (go_at_call 53; with_reducible refine (cP.out _ hQ5).mono ?_; rintro e w6 ⟨rfl, hs6, hQ6⟩) | fail)
        clear HT1D HSD hQ5 hs5 z0 z1 z2
        by_cases hn : Pn = 0
        · subst hn
          have HRR := Hid.mk' (HRY.out rfl)
          obtain ⟨y0, y1, y2⟩ := hs6
          have HLN6 := Hid.mk' hQ6.out.ln.range
          have c9 := Hid.mk' (cS.out w6 ⟨Ps, A.fr, A.wr⟩ hlP hQ6.out)
          clear HRN HRY
          go_wp2_with (first | (refine wpList_load_lnl rfl _ rfl lb 0 rfl us ub HLN6.out ?_) | fail)
          refine c9.out.mono ?_
          rintro e W10 ⟨⟨u10, rfl⟩, hr10, hk10⟩
          have HR10 := Hid.mk' hr10
          have HK10 := Hid.mk' hk10
          clear hr10 hk10 c9
          go_wp2
          go_ret2
          rw [HRR.out]
          exact ⟨rfl, HR10.out, HK10.out⟩
        · have HRR := Hid.mk' (HRN.out hn)
          have hbn : ((Pn : Int) != 0) = true := by simp; omega
          clear hn HRN HRY
          go_wp2
          go_ret2
          rw [HRR.out.1]
          refine ⟨rfl, ?_, hQ6.out.kp⟩
          have := hQ6.out.tr
          rw [HRR.out.2] at this
          exact this
      · simp only [decide_eq_false hiu] at cI
        rw [if_pos ⟨h0, hiu⟩] at hR
        subst hR
        dsimp only
        clear h0 hiu
        go_enter Tryz.func26, Tryz.ntmps26
        go_wp2_with (first | (go_at_call 40; refine cU.out.mono ?_; rintro e w1 ⟨rfl, hw1⟩; subst w1) | (refine wpList_load_lnl rfl _ rfl b (ki * 17 + 5 + 2) rfl us ub HRG.out ?_) | (rw [HLB.out]; refine wpList_store_lnl rfl _ _ rfl lb rfl us ub rfl 0 0 HZB.out ?_; intro W0 hl1 hg1 hs1; have HT0 := Hid.mk' (HT.out W0 hl1 hg1); have x0 := hl1.cells.1; have x1 := hl1.cells.2.1; have HLN := Hid.mk' hl1.range; clear hl1 hg1 hs1) | (refine wpList_load_lnl rfl _ rfl lb 0 rfl us ub HLN.out ?_) | fail)
        refine (cI.out _ HT0.out).mono ?_
        rintro e W1 ⟨rfl, HT1⟩
        clear x0 x1 HT0 HT HZB HRG HLB HLN cI
        go_wp2
        go_ret2
        exact ⟨rfl, HT1.out.tr, HT1.out.kp⟩
end Tr
end Go.Proofs.YtcleeidfiaafcaaGreatDoor
