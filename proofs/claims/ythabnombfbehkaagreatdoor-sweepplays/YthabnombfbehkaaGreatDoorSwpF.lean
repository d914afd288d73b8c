import Derived.Test.YthabnombfbehkaaGreatDoorSwpG
/- One act: a slot is put. -/
namespace Go.Proofs.YthabnombfbehkaaGreatDoor
set_option linter.ambiguousOpen false
open Go.RowKit
namespace Sw
open An Rg Ft Lv
set_option linter.unusedSimpArgs false
set_option linter.unusedVariables false

theorem put_same (A B : Arn) (i : Int) (x : Slt) (h1 : A.sl = B.sl) (h2 : A.fr = B.fr) : (A.put i x).1 = (B.put i x).1 ∧ (A.put i x).2.sl = (B.put i x).2.sl ∧ (A.put i x).2.fr = (B.put i x).2.fr := by
  unfold Arn.put
  split
  · exact ⟨rfl, by rw [h1], h2⟩
  · exact ⟨rfl, h1, h2⟩

set_option maxRecDepth 100000 in
set_option maxHeartbeats 8000000 in
theorem does_put {Rep : World → Nat → (Nat → Prop) → Arn → Prop} {R : RepTy} (C : SweepC Rep R) (base : Nat) (w0 w : World) (p q t g : Nat) (F G : Nat → Prop) (A1 A2 : Arn) (l k n : Int) (s : Slt)
    (hP : Tp R base w0 w p q t g F G A1 l A2 l) (hsl : A1.sl = A2.sl) (hfr : A1.fr = A2.fr) (hw1 : A1.wr ≤ 999999000) (hw2 : A2.wr ≤ 999999000) (hE : Er.Handle w0) (hk : I64 k) (hn : I64 n) (hok : okL l) (hm : k % 6 = 4) :
    Calls Tryz.prog 13 #[ptr p, ptr q, ptr t, actGV k n s] w fun e w' => e = .returned (.bool true) ∧ Tn R base w0 w w' p q t g F G (A1.wr + 8) (A2.wr + 1) := by
  have hB0 : Below w.heap.size w (w.alloc (.cells (actG k n s).toArray 52)) := (Below.refl _ _).alloc (Nat.le_refl _) _
  have hA0 : LoneG (w.alloc (.cells (actG k n s).toArray 52)) w.heap.size k n s := heap_alloc_new _ _
  obtain ⟨W0, hW0⟩ : ∃ W0, w.alloc (.cells (actG k n s).toArray 52) = W0 := ⟨_, rfl⟩
  rw [hW0] at hB0 hA0
  have HW0 := Hid.mk' hW0
  obtain ⟨xb, hxb⟩ : ∃ xb, w.heap.size = xb := ⟨_, rfl⟩
  have hXF : ¬ F xb ∧ ¬ G xb := ⟨fun e => by have := (C.keep q l).lt hP.rep _ e; omega, fun e => by have := (hP.ref.lt _ e).2; omega⟩
  rw [hxb] at hA0
  have HXB := Hid.mk' hxb
  have hD0 : Td R base w0 W0 W0 p q t g F G F G A1 l A2 l := Td.start (hP.below C hB0)
  have HACT : Hid (∀ w' F' G' B1 m1 B2 m2, Td R base w0 W0 w' p q t g F G F' G' B1 m1 B2 m2 → LoneG w' xb k n s) := fun w' F' G' B1 m1 B2 m2 h => h.blk hA0 hXF
  have HOUT : Hid (∀ w' n1 n2, Tn R base w0 W0 w' p q t g F G n1 n2 → Tn R base w0 w w' p q t g F G n1 n2) := fun w' n1 n2 ⟨F', G', B1, B2, m, h1, h2⟩ => ⟨F', G', B1, B2, m, h1.from hB0, h2⟩
  have HHAN : Hid (∀ w', Below w0.heap.size w0 w' → Er.Handle w') := fun w' hb => hE.below hb
  have HC := Hid.mk' C
  have HD0 := Hid.mk' hD0
  have x0 := hA0.cells.1
  have x1 := hA0.cells.2
  have cK : Hid (∀ wx, Calls Tryz.prog 9 #[nu k, nu 6] wx fun e w' => e = .returned (nu (k % 6)) ∧ w' = wx) := fun wx => pickG k 6 wx (by decide) (by decide) hk
  have cW0 := Hid.mk' (C.writes q l W0 p F A1 hD0.pr.rep (by omega))
  obtain ⟨z, hz2⟩ : ∃ z, (A2.put n s).1 = z := ⟨_, rfl⟩
  obtain ⟨e1, e2, e3⟩ := put_same A1 A2 n s hsl hfr
  have hz1 : (A1.put n s).1 = z := e1.trans hz2
  have hzl : z ≤ 24 := by rw [← hz2]; exact put_le A2 n s
  have hix : -9223372036854775808 ≤ n ∧ n ≤ 9223372036854775807 := hn
  have HDB := HD0
  have HSS : Hid (∀ w' F' G' B1 m1 B2 m2, Td R base w0 W0 w' p q t g F G F' G' B1 m1 B2 m2 → LoneG w' xb k n s ∧ w'.cell? ⟨t, 0, none⟩ = some (ptr g)) := fun w' F' G' B1 m1 B2 m2 h => ⟨HACT.out _ _ _ _ _ _ _ h, by obtain ⟨sv, fv, h1, _⟩ := h.pr.ref; exact h1.cells.1⟩
  have C1 : Hid (∀ wx, Below W0.heap.size W0 wx → Calls Tryz.prog 29 #[ptr p, nu n, s.v] wx fun e w' => e = .returned (errE z) ∧ ((LoneG w' xb k n s ∧ w'.cell? ⟨t, 0, none⟩ = some (ptr g))) ∧ Hid (∃ F', Td R base w0 W0 w' p q t g F G F' G (A1.put n s).2 l A2 l)) := fun wx hb => by
    have hD := HDB.out.below C hb
    have := C.put q l wx p F A1 n s hD.pr.rep hD.pr.good1 (by omega) hix
    rw [hz1] at this
    refine this.mono ?_
    rintro e w' ⟨rfl, hl⟩
    obtain ⟨F', h'⟩ := hD.turn1 hl (hD.pr.good1.put n s)
    exact ⟨rfl, HSS.out _ _ _ _ _ _ _ h', F', h'⟩
  have C2 : Hid (∀ wx, Hid (∃ F', Td R base w0 W0 wx p q t g F G F' G (A1.put n s).2 l A2 l) → Calls Tryz.prog 30 #[ptr g, nu n, s.v] wx fun e w' => e = .returned (nun z) ∧ ((LoneG w' xb k n s ∧ w'.cell? ⟨t, 0, none⟩ = some (ptr g))) ∧ Hid (∃ F' G', Td R base w0 W0 w' p q t g F G F' G' (A1.put n s).2 l (A2.put n s).2 l)) := fun wx hx => by
    obtain ⟨F', hD⟩ := hx.out
    have := putG base wx t g G A2 l n s hD.pr.ref hD.pr.good2 (by omega)
    rw [hz2] at this
    refine this.mono ?_
    rintro e w' ⟨rfl, hl⟩
    obtain ⟨G', h'⟩ := hD.turn2 C hl (hD.pr.good2.put n s)
    exact ⟨rfl, HSS.out _ _ _ _ _ _ _ h', F', G', h'⟩
  have C3 : Hid (∀ wx, Hid (∃ F' G', Td R base w0 W0 wx p q t g F G F' G' (A1.put n s).2 l (A2.put n s).2 l) → Calls Tryz.prog 12 #[errE z, nun z] wx fun e w' => e = .returned (.bool true) ∧ ((LoneG w' xb k n s ∧ w'.cell? ⟨t, 0, none⟩ = some (ptr g))) ∧ Hid (∃ F' G', Td R base w0 W0 w' p q t g F G F' G' (A1.put n s).2 l (A2.put n s).2 l)) := fun wx hx => by
    obtain ⟨F', G', hD⟩ := hx.out
    refine (plainA z hzl wx (HHAN.out wx hD.pr.bel)).mono ?_
    rintro e w' ⟨rfl, hb⟩
    have h' := hD.below C hb
    exact ⟨rfl, HSS.out _ _ _ _ _ _ _ h', F', G', h'⟩
  have HEND : Hid (∀ wx, Hid (∃ F' G', Td R base w0 W0 wx p q t g F G F' G' (A1.put n s).2 l (A2.put n s).2 l) → Tn R base w0 w wx p q t g F G (A1.wr + 8) (A2.wr + 1)) := fun wx hx => by
    obtain ⟨F', G', hD⟩ := hx.out
    exact HOUT.out _ _ _ ⟨F', G', _, _, _, hD, e2, e3, by have := put_wr A1 n s; omega, put_wr A2 n s, hok⟩
  clear hP hE hk hn hok hW0 hB0 hD0 hXF hA0 hsl hfr hw1 hw2 hxb C HOUT hz1 hz2 e1 e2 e3 hix HDB HHAN
  generalize (A1.put n s).2 = B1 at *
  generalize (A2.put n s).2 = B2 at *
  generalize k % 6 = m at *
  subst hm
  go_enter Tryz.func13, Tryz.ntmps13
  go_upto_region 1 with fail
  rw [HW0.out, HXB.out]
  go_wp2_with fail
  refine cW0.out.mono ?_
  rintro e w1 ⟨rfl, hb1⟩
  have HB1 := Hid.mk' hb1
  have hss := HSS.out _ _ _ _ _ _ _ (HD0.out.below HC.out hb1)
  have y0 := hss.1.cells.1
  have y1 := hss.1.cells.2
  have y2 := hss.2
  have HSD := Hid.mk' (HSS.out _ _ _ _ _ _ _ ((HD0.out.below HC.out hb1).below HC.out (Below.refl w1.heap.size w1).drew))
  have HBD : Hid (Below W0.heap.size W0 w1.drew) := hb1.drew
  clear hb1 hss x0 x1
  go_upto_region 15 with (first | (go_at_call 9; refine (cK.out _).mono ?_; rintro e w2 ⟨rfl, hw2⟩; subst w2) | fail)
  refine wp_region_held_drew (S := fun w' => LoneG w' xb k n s ∧ w'.cell? ⟨t, 0, none⟩ = some (ptr g)) (by kernel_rfl) HSD.out (fun hHeld => ?_)
  refine wpAnyH_take (i := 0) (v := ?_) rfl (by kernel_rfl) (by kernel_rfl) (by kernel_rfl) (fun _ _ _ h => h) (Or.inl ⟨by rfl, ?_⟩) hHeld ?_
  rotate_left
  · (intro w' hS'; have hcx := hS'.1.cells.2; have hct := hS'.2; go_simp <;> with_reducible rfl)
  simp only [Act.put, List.getElem_toArray, List.getElem_cons_succ, List.getElem_cons_zero, List.setIfInBounds_toArray, List.set]
  refine wpAnyH_take (i := 1) (v := ?_) rfl (by kernel_rfl) (by kernel_rfl) (by kernel_rfl) (fun _ _ _ h => h) (Or.inl ⟨by rfl, ?_⟩) hHeld ?_
  rotate_left
  · (intro w' hS'; have hcx := hS'.1.cells.2; have hct := hS'.2; go_simp <;> with_reducible rfl)
  simp only [Act.put, List.getElem_toArray, List.getElem_cons_succ, List.getElem_cons_zero, List.setIfInBounds_toArray, List.set]
  refine wpAnyH_take (i := 2) (v := ?_) rfl (by kernel_rfl) (by kernel_rfl) (by kernel_rfl) (fun _ _ _ h => h) (Or.inl ⟨by rfl, ?_⟩) hHeld ?_
  rotate_left
  · (intro w' hS'; have hcx := hS'.1.cells.2; have hct := hS'.2; go_simp <;> with_reducible rfl)
  simp only [Act.put, List.getElem_toArray, List.getElem_cons_succ, List.getElem_cons_zero, List.setIfInBounds_toArray, List.set]
  refine wpAnyH_take (i := 3) (v := ?_) rfl (by kernel_rfl) (by kernel_rfl) (by kernel_rfl) (fun _ _ _ h => h) (Or.inl ⟨by rfl, ?_⟩) hHeld ?_
  rotate_left
  · (intro w' hS'; have hcx := hS'.1.cells.2; have hct := hS'.2; go_simp <;> with_reducible rfl)
  simp only [Act.put, List.getElem_toArray, List.getElem_cons_succ, List.getElem_cons_zero, List.setIfInBounds_toArray, List.set]
  refine wpAnyH_take (i := 4) (v := _) rfl (by kernel_rfl) (by kernel_rfl) (by kernel_rfl) (fun _ _ _ h => h) (yieldsIf_load_mid (by rfl) 50 _ rfl xb 2 rfl s.cells _ (fun w' h => h.1.slot) Tryz.underlying50 rfl size_slt) hHeld ?_
  simp only [Act.put, List.getElem_toArray, List.getElem_cons_succ, List.getElem_cons_zero, List.setIfInBounds_toArray, List.set]
  refine wpAnyH_take (i := 6) (v := ?_) rfl (by kernel_rfl) (by kernel_rfl) (by kernel_rfl) (fun _ _ _ h => h) (Or.inl ⟨by rfl, ?_⟩) hHeld ?_
  rotate_left
  · (intro w' hS'; have hcx := hS'.1.cells.2; have hct := hS'.2; go_simp <;> with_reducible rfl)
  simp only [Act.put, List.getElem_toArray, List.getElem_cons_succ, List.getElem_cons_zero, List.setIfInBounds_toArray, List.set]
  refine wpAnyH_take (i := 7) (v := ?_) rfl (by kernel_rfl) (by kernel_rfl) (by kernel_rfl) (fun _ _ _ h => h) (Or.inl ⟨by rfl, ?_⟩) hHeld ?_
  rotate_left
  · (intro w' hS'; have hcx := hS'.1.cells.2; have hct := hS'.2; go_simp <;> with_reducible rfl)
  simp only [Act.put, List.getElem_toArray, List.getElem_cons_succ, List.getElem_cons_zero, List.setIfInBounds_toArray, List.set]
  refine wpAnyH_take (i := 8) (v := ?_) rfl (by kernel_rfl) (by kernel_rfl) (by kernel_rfl) (fun _ _ _ h => h) (Or.inl ⟨by rfl, ?_⟩) hHeld ?_
  rotate_left
  · (intro w' hS'; have hcx := hS'.1.cells.2; have hct := hS'.2; go_simp <;> with_reducible rfl)
  simp only [Act.put, List.getElem_toArray, List.getElem_cons_succ, List.getElem_cons_zero, List.setIfInBounds_toArray, List.set]
  refine wpAnyH_take (i := 9) (v := ?_) rfl (by kernel_rfl) (by kernel_rfl) (by kernel_rfl) (fun _ _ _ h => h) (Or.inl ⟨by rfl, ?_⟩) hHeld ?_
  rotate_left
  · (intro w' hS'; have hcx := hS'.1.cells.2; have hct := hS'.2; go_simp <;> with_reducible rfl)
  simp only [Act.put, List.getElem_toArray, List.getElem_cons_succ, List.getElem_cons_zero, List.setIfInBounds_toArray, List.set]
  refine wpAnyH_take (i := 10) (v := ?_) rfl (by kernel_rfl) (by kernel_rfl) (by kernel_rfl) (fun _ _ _ h => h) (Or.inl ⟨by rfl, ?_⟩) hHeld ?_
  rotate_left
  · (intro w' hS'; have hcx := hS'.1.cells.2; have hct := hS'.2; go_simp <;> with_reducible rfl)
  simp only [Act.put, List.getElem_toArray, List.getElem_cons_succ, List.getElem_cons_zero, List.setIfInBounds_toArray, List.set]
  refine wpAnyH_take (i := 11) (v := ?_) rfl (by kernel_rfl) (by kernel_rfl) (by kernel_rfl) (fun _ _ _ h => h) (Or.inl ⟨by rfl, ?_⟩) hHeld ?_
  rotate_left
  · (intro w' hS'; have hcx := hS'.1.cells.2; have hct := hS'.2; go_simp <;> with_reducible rfl)
  simp only [Act.put, List.getElem_toArray, List.getElem_cons_succ, List.getElem_cons_zero, List.setIfInBounds_toArray, List.set]
  refine wpAnyH_take (i := 12) (v := ?_) rfl (by kernel_rfl) (by kernel_rfl) (by kernel_rfl) (fun _ _ _ h => h) (Or.inl ⟨by rfl, ?_⟩) hHeld ?_
  rotate_left
  · (intro w' hS'; have hcx := hS'.1.cells.2; have hct := hS'.2; go_simp <;> with_reducible rfl)
  simp only [Act.put, List.getElem_toArray, List.getElem_cons_succ, List.getElem_cons_zero, List.setIfInBounds_toArray, List.set]
  refine wpAnyH_take (i := 13) (v := _) rfl (by kernel_rfl) (by kernel_rfl) (by kernel_rfl) (fun _ _ _ h => h) (yieldsIf_load_mid (by rfl) 50 _ rfl xb 2 rfl s.cells _ (fun w' h => h.1.slot) Tryz.underlying50 rfl size_slt) hHeld ?_
  simp only [Act.put, List.getElem_toArray, List.getElem_cons_succ, List.getElem_cons_zero, List.setIfInBounds_toArray, List.set]
  refine wpAnyH_ready (rs := [5]) (by kernel_rfl) (by simp) ?_
  refine AllReadyH.cons rfl (fun K hK => ?_) AllReadyH.nil
  go_simp
  refine (C1.out _ HBD.out).mono ?_
  rintro e w3 ⟨rfl, hSw3, hQw3⟩
  go_wp2_with fail
  refine hK.out _ _ hSw3 (fun hHeld => ?_)
  clear hK K
  refine wpAnyH_ready (rs := [14]) (by kernel_rfl) (by simp) ?_
  refine AllReadyH.cons rfl (fun K hK => ?_) AllReadyH.nil
  go_simp
  refine (C2.out _ hQw3).mono ?_
  rintro e w4 ⟨rfl, hSw4, hQw4⟩
  go_wp2_with fail
  refine hK.out _ _ hSw4 (fun hHeld => ?_)
  clear hK K
  refine wpAnyH_ready (rs := [15]) (by kernel_rfl) (by simp) ?_
  refine AllReadyH.cons rfl (fun K hK => ?_) AllReadyH.nil
  go_simp
  refine (C3.out _ hQw4).mono ?_
  rintro e w5 ⟨rfl, hSw5, hQw5⟩
  go_wp2_with fail
  refine hK.out _ _ hSw5 (fun hHeld => ?_)
  clear hK K
  refine wpAnyH_take (i := 16) (v := ?_) rfl (by kernel_rfl) (by kernel_rfl) (by kernel_rfl) (fun _ _ _ h => h) (Or.inl ⟨by rfl, ?_⟩) hHeld ?_
  rotate_left
  · (intro w' hS'; have hcx := hS'.1.cells.2; have hct := hS'.2; go_simp <;> with_reducible rfl)
  simp only [Act.put, List.getElem_toArray, List.getElem_cons_succ, List.getElem_cons_zero, List.setIfInBounds_toArray, List.set]
  refine wpAnyH_done (by kernel_rfl) ?_ _
  clear hHeld
  go_wp2
  go_ret
  exact ⟨rfl, HEND.out _ hQw5⟩

set_option maxRecDepth 100000 in
set_option maxHeartbeats 8000000 in
theorem does_all {Rep : World → Nat → (Nat → Prop) → Arn → Prop} {R : RepTy} (C : SweepC Rep R) (base : Nat) (w0 w : World) (p q t g : Nat) (F G : Nat → Prop) (A1 A2 : Arn) (l k n : Int) (s : Slt)
    (hP : Tp R base w0 w p q t g F G A1 l A2 l) (hsl : A1.sl = A2.sl) (hfr : A1.fr = A2.fr) (hw1 : A1.wr ≤ 999999000) (hw2 : A2.wr ≤ 999999000) (hE : Er.Handle w0) (hk : I64 k) (hn : I64 n) (hok : okL l) (hm : k % 6 = 5) :
    Calls Tryz.prog 13 #[ptr p, ptr q, ptr t, actGV k n s] w fun e w' => e = .returned (.bool true) ∧ Tn R base w0 w w' p q t g F G (A1.wr + 8) (A2.wr + 1) := by
  have hB0 : Below w.heap.size w (w.alloc (.cells (actG k n s).toArray 52)) := (Below.refl _ _).alloc (Nat.le_refl _) _
  have hA0 : LoneG (w.alloc (.cells (actG k n s).toArray 52)) w.heap.size k n s := heap_alloc_new _ _
  obtain ⟨W0, hW0⟩ : ∃ W0, w.alloc (.cells (actG k n s).toArray 52) = W0 := ⟨_, rfl⟩
  rw [hW0] at hB0 hA0
  have HW0 := Hid.mk' hW0
  obtain ⟨xb, hxb⟩ : ∃ xb, w.heap.size = xb := ⟨_, rfl⟩
  have hXF : ¬ F xb ∧ ¬ G xb := ⟨fun e => by have := (C.keep q l).lt hP.rep _ e; omega, fun e => by have := (hP.ref.lt _ e).2; omega⟩
  rw [hxb] at hA0
  have HXB := Hid.mk' hxb
  have hD0 : Td R base w0 W0 W0 p q t g F G F G A1 l A2 l := Td.start (hP.below C hB0)
  have HACT : Hid (∀ w' F' G' B1 m1 B2 m2, Td R base w0 W0 w' p q t g F G F' G' B1 m1 B2 m2 → LoneG w' xb k n s) := fun w' F' G' B1 m1 B2 m2 h => h.blk hA0 hXF
  have HOUT : Hid (∀ w' n1 n2, Tn R base w0 W0 w' p q t g F G n1 n2 → Tn R base w0 w w' p q t g F G n1 n2) := fun w' n1 n2 ⟨F', G', B1, B2, m, h1, h2⟩ => ⟨F', G', B1, B2, m, h1.from hB0, h2⟩
  have HHAN : Hid (∀ w', Below w0.heap.size w0 w' → Er.Handle w') := fun w' hb => hE.below hb
  have HC := Hid.mk' C
  have HD0 := Hid.mk' hD0
  have x0 := hA0.cells.1
  have x1 := hA0.cells.2
  have cK : Hid (∀ wx, Calls Tryz.prog 9 #[nu k, nu 6] wx fun e w' => e = .returned (nu (k % 6)) ∧ w' = wx) := fun wx => pickG k 6 wx (by decide) (by decide) hk
  have cW0 := Hid.mk' (C.writes q l W0 p F A1 hD0.pr.rep (by omega))
  obtain ⟨L, hL⟩ : ∃ L, allG A2.sl l = L := ⟨_, rfl⟩
  have C1 : Hid (∀ wx, Hid (Td R base w0 W0 wx p q t g F G F G A1 l A2 l) → Calls Tryz.prog 17 #[ptr q] wx fun e w' => ∃ a c, e = .returned (.slice a L.length c) ∧ Hid (Td R base w0 W0 w' p q t g F G F G A1 l A2 l ∧ RdN w' (.slice a L.length c) L)) := fun wx hD => by
    have := all_any C.keep C.all wx p q F A1 l hD.out.pr.rep hD.out.pr.good1 hok
    rw [hsl, hL] at this
    refine this.mono ?_
    rintro e w' ⟨v, rfl, ho, hb⟩
    obtain ⟨a, c, rfl, _⟩ := Nm.own_shape ho
    exact ⟨a, c, rfl, hD.out.below C hb, own_rdN ho⟩
  have C2 : Hid (∀ wx a c, Hid (Td R base w0 W0 wx p q t g F G F G A1 l A2 l ∧ RdN wx (.slice a L.length c) L) → Calls Tryz.prog 18 #[ptr t] wx fun e w' => ∃ a' c', e = .returned (.slice a' L.length c') ∧ Hid (Td R base w0 W0 w' p q t g F G F G A1 l A2 l ∧ RdN w' (.slice a L.length c) L ∧ RdN w' (.slice a' L.length c') L)) := fun wx a c hD => by
    have := allG_r base wx t g G A2 l hD.out.1.pr.ref hD.out.1.pr.good2.len
    rw [hL] at this
    refine this.mono ?_
    rintro e w' ⟨v, rfl, ho, hb⟩
    obtain ⟨a', c', rfl, _⟩ := Nm.own_shape ho
    exact ⟨a', c', rfl, hD.out.1.below C hb, hD.out.2.below hb, own_rdN ho⟩
  have C3 : Hid (∀ wx a c a' c', Hid (Td R base w0 W0 wx p q t g F G F G A1 l A2 l ∧ RdN wx (.slice a L.length c) L ∧ RdN wx (.slice a' L.length c') L) → Calls Tryz.prog 16 #[.slice a L.length c, .slice a' L.length c'] wx fun e w' => e = .returned (.bool true) ∧ Hid (Td R base w0 W0 w' p q t g F G F G A1 l A2 l)) := fun wx a c a' c' hD => by
    refine (sameN _ _ L wx hD.out.2.1 hD.out.2.2).mono ?_
    rintro e w' ⟨rfl, hb⟩
    exact ⟨rfl, hD.out.1.below C hb⟩
  have C4 : Hid (∀ wx, Hid (Td R base w0 W0 wx p q t g F G F G A1 l A2 l) → Calls Tryz.prog 8 #[ptr p] wx fun e w' => e = .returned (nun A1.wr) ∧ Hid (Td R base w0 W0 w' p q t g F G F G A1 l A2 l)) := fun wx hD => by
    refine (C.writes q l wx p F A1 hD.out.pr.rep (by omega)).mono ?_
    rintro e w' ⟨rfl, hb⟩
    exact ⟨rfl, hD.out.below C hb⟩
  have HEND : Hid (∀ wx, Hid (Td R base w0 W0 wx p q t g F G F G A1 l A2 l) → Tn R base w0 w wx p q t g F G (A1.wr + 8) (A2.wr + 1)) := fun wx hD => HOUT.out _ _ _ ⟨F, G, _, _, _, hD.out, hsl, hfr, by omega, by omega, hok⟩
  obtain ⟨nl, hnl⟩ : ∃ nl, L.length = nl := ⟨_, rfl⟩
  rw [hnl] at C1 C2 C3
  obtain ⟨v1, hv1⟩ : ∃ v1, A1.wr = v1 := ⟨_, rfl⟩
  rw [hv1] at cW0 C4 HEND ⊢
  have hww : ((v1 : Int) == (v1 : Int)) = true := beq_self_eq_true _
  clear hP hE hk hn hok hW0 hB0 hD0 hXF hA0 hsl hfr hw1 hw2 hxb C HOUT HHAN hL hnl hv1
  generalize k % 6 = m at *
  subst hm
  go_enter Tryz.func13, Tryz.ntmps13
  go_upto_region 1 with fail
  rw [HW0.out, HXB.out]
  go_wp2_with fail
  refine cW0.out.mono ?_
  rintro e w1 ⟨rfl, hb1⟩
  have HT1 := Hid.mk' (HD0.out.below HC.out hb1)
  have ha1 := HACT.out _ _ _ _ _ _ _ HT1.out
  have y0 := ha1.cells.1
  clear hb1 ha1 x0 x1
  go_wp2_with (first | (go_at_call 9; refine (cK.out _).mono ?_; rintro e w2 ⟨rfl, hw2⟩; subst w2) | fail)
  refine (C1.out _ HT1).mono ?_
  rintro e w3 ⟨a3, c3, rfl, HT3⟩
  clear y0
  go_wp2_with fail
  refine (C2.out _ _ _ HT3).mono ?_
  rintro e w4 ⟨a4, c4, rfl, HT4⟩
  go_wp2_with fail
  refine (C3.out _ _ _ _ _ HT4).mono ?_
  rintro e w5 ⟨rfl, HT5⟩
  go_wp2_with fail
  refine (C1.out _ HT5).mono ?_
  rintro e w6 ⟨a6, c6, rfl, HT6⟩
  go_wp2_with fail
  refine (C2.out _ _ _ HT6).mono ?_
  rintro e w7 ⟨a7, c7, rfl, HT7⟩
  go_wp2_with fail
  refine (C3.out _ _ _ _ _ HT7).mono ?_
  rintro e w8 ⟨rfl, HT8⟩
  go_wp2_with fail
  refine (C4.out _ HT8).mono ?_
  rintro e w9 ⟨rfl, HT9⟩
  go_wp2
  go_ret
  exact ⟨rfl, HEND.out _ HT9⟩


end Sw
end Go.Proofs.YthabnombfbehkaaGreatDoor
