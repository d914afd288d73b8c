import Derived.Test.YtcleeidfiaafcaaGreatDoorTreD
/- One act: a slot is put. -/
namespace Go.Proofs.YtcleeidfiaafcaaGreatDoor
set_option linter.ambiguousOpen false
open Go.RowKit
namespace Tr
open An Rg Ft Lv
set_option linter.unusedSimpArgs false
set_option linter.unusedVariables false

theorem put_same (A B : Arn) (i : Int) (x : Slt) (h1 : A.sl = B.sl) (h2 : A.fr = B.fr) : (A.put i x).1 = (B.put i x).1 ∧ (A.put i x).2.sl = (B.put i x).2.sl ∧ (A.put i x).2.fr = (B.put i x).2.fr := by
  unfold Arn.put
  split
  · exact ⟨rfl, by rw [h1], h2⟩
  · exact ⟨rfl, h1, h2⟩

theorem lone_used {w : World} {b : Nat} {x : Slt} (h : Lone w b x) (v : Bool) : Lone (w.setCell ⟨b, 0, none⟩ (.bool v)) b { x with used := v } := by
  unfold Lone at h ⊢
  rw [heap_setCell_same _ b 0 _ _ _ h]
  rfl

/-- A slot with a birth number. -/
def bornS (x : Slt) (n : Int) : Slt := ⟨x.used, x.dead, x.kids, x.prev, x.next, { x.s with birth := n }, x.tx⟩

theorem lone_born {w : World} {b : Nat} {x : Slt} (h : Lone w b x) (v : Int) : Lone (w.setCell ⟨b, 6, none⟩ (nu v)) b (bornS x v) := by
  unfold Lone at h ⊢
  rw [heap_setCell_same _ b 6 _ _ _ h]
  rfl

theorem lone_free {w : World} {b : Nat} {x : Slt} (h : Lone w b x) (o : Nat) : w.frozen? ⟨b, o, none⟩ = false := by
  unfold Lone at h
  simp [World.frozen?, h]

set_option maxRecDepth 100000 in
set_option maxHeartbeats 8000000 in
theorem does_put {Rep : World → Nat → (Nat → Prop) → Arn → Prop} {R : RepTy} (C : TreeCW Rep R) (base : Nat) (w0 w : World) (p q t g : Nat) (F G : Nat → Prop) (A1 A2 : Arn) (l k n us ub : Int) (s : Slt)
    (hP : Tp R base w0 w p q t g F G A1 l A2 l) (hsl : A1.sl = A2.sl) (hfr : A1.fr = A2.fr) (hw1 : A1.wr ≤ 999999000) (hw2 : A2.wr ≤ 999999000) (hE : Er.Handle w0) (hk : I64 k) (hn : I64 n) (hus : I64 us) (hub : I64 ub) (hm : k % 6 = 3) :
    Calls Tryz.prog 10 #[ptr p, ptr q, ptr t, actTV k n us ub s] w fun e w' => e = .returned (.bool true) ∧ Tn R base w0 w w' p q t g F G (A1.wr + 8) (A2.wr + 1) := by
  have hB0 : Below w.heap.size w (w.alloc (.cells (actT k n us ub s).toArray 42)) := (Below.refl _ _).alloc (Nat.le_refl _) _
  have hA0 : LoneT (w.alloc (.cells (actT k n us ub s).toArray 42)) w.heap.size k n us ub s := heap_alloc_new _ _
  obtain ⟨W0, hW0⟩ : ∃ W0, w.alloc (.cells (actT k n us ub s).toArray 42) = W0 := ⟨_, rfl⟩
  rw [hW0] at hB0 hA0
  have HW0 := Hid.mk' hW0
  obtain ⟨xb, hxb⟩ : ∃ xb, w.heap.size = xb := ⟨_, rfl⟩
  have hXF : ¬ F xb ∧ ¬ G xb := ⟨fun e => by have := (C.keep q l).lt hP.rep _ e; omega, fun e => by have := (hP.ref.lt _ e).2; omega⟩
  rw [hxb] at hA0
  have HXB := Hid.mk' hxb
  have hD0 : Td R base w0 W0 W0 p q t g F G F G A1 l A2 l := Td.start (hP.below C hB0)
  have HACT : Hid (∀ w' F' G' B1 m1 B2 m2, Td R base w0 W0 w' p q t g F G F' G' B1 m1 B2 m2 → LoneT w' xb k n us ub s) := fun w' F' G' B1 m1 B2 m2 h => h.blk hA0 hXF
  have HOUT : Hid (∀ w' n1 n2, Tn R base w0 W0 w' p q t g F G n1 n2 → Tn R base w0 w w' p q t g F G n1 n2) := fun w' n1 n2 ⟨F', G', B1, B2, m, h1, h2⟩ => ⟨F', G', B1, B2, m, h1.from hB0, h2⟩
  have HHAN : Hid (∀ w', Below w0.heap.size w0 w' → Er.Handle w') := fun w' hb => hE.below hb
  have HC := Hid.mk' C
  have HD0 := Hid.mk' hD0
  have x0 := hA0.cells.1
  have x1 := hA0.cells.2.1
  have HLK := Hid.mk' hA0.link
  have cK : Hid (∀ wx, Calls Tryz.prog 22 #[nu k, nu 6] wx fun e w' => e = .returned (nu (k % 6)) ∧ w' = wx) := fun wx => pickT k 6 wx (by decide) (by decide) hk
  have cW0 := Hid.mk' (C.writes q l W0 p F A1 hD0.pr.rep (by omega))
  obtain ⟨z, hz2⟩ : ∃ z, (A2.put n s).1 = z := ⟨_, rfl⟩
  obtain ⟨e1, e2, e3⟩ := put_same A1 A2 n s hsl hfr
  have hz1 : (A1.put n s).1 = z := e1.trans hz2
  have hzl : z ≤ 24 := by rw [← hz2]; exact put_le A2 n s
  have hix : -9223372036854775808 ≤ n ∧ n ≤ 9223372036854775807 := hn
  have HDB := HD0
  have HSS : Hid (∀ w' F' G' B1 m1 B2 m2, Td R base w0 W0 w' p q t g F G F' G' B1 m1 B2 m2 → LoneT w' xb k n us ub s ∧ w'.cell? ⟨t, 0, none⟩ = some (ptr g)) := fun w' F' G' B1 m1 B2 m2 h => ⟨HACT.out _ _ _ _ _ _ _ h, by obtain ⟨sv, fv, h1, _⟩ := h.pr.ref; exact h1.cells.1⟩
  have C1 : Hid (∀ wx, Below W0.heap.size W0 wx → Calls Tryz.prog 29 #[ptr p, nu n, s.v] wx fun e w' => e = .returned (errE z) ∧ ((LoneT w' xb k n us ub s ∧ w'.cell? ⟨t, 0, none⟩ = some (ptr g))) ∧ Hid (∃ F', Td R base w0 W0 w' p q t g F G F' G (A1.put n s).2 l A2 l)) := fun wx hb => by
    have hD := HDB.out.below C hb
    have := C.put q l wx p F A1 n s hD.pr.rep hD.pr.good1 (by omega) hix
    rw [hz1] at this
    refine this.mono ?_
    rintro e w' ⟨rfl, hl⟩
    obtain ⟨F', h'⟩ := hD.turn1 hl (hD.pr.good1.put n s)
    exact ⟨rfl, HSS.out _ _ _ _ _ _ _ h', F', h'⟩
  have C2 : Hid (∀ wx, Hid (∃ F', Td R base w0 W0 wx p q t g F G F' G (A1.put n s).2 l A2 l) → Calls Tryz.prog 30 #[ptr g, nu n, s.v] wx fun e w' => e = .returned (nun z) ∧ ((LoneT w' xb k n us ub s ∧ w'.cell? ⟨t, 0, none⟩ = some (ptr g))) ∧ Hid (∃ F' G', Td R base w0 W0 w' p q t g F G F' G' (A1.put n s).2 l (A2.put n s).2 l)) := fun wx hx => by
    obtain ⟨F', hD⟩ := hx.out
    have := putD base wx t g G A2 l n s hD.pr.ref hD.pr.good2 (by omega)
    rw [hz2] at this
    refine this.mono ?_
    rintro e w' ⟨rfl, hl⟩
    obtain ⟨G', h'⟩ := hD.turn2 C hl (hD.pr.good2.put n s)
    exact ⟨rfl, HSS.out _ _ _ _ _ _ _ h', F', G', h'⟩
  have C3 : Hid (∀ wx, Hid (∃ F' G', Td R base w0 W0 wx p q t g F G F' G' (A1.put n s).2 l (A2.put n s).2 l) → Calls Tryz.prog 28 #[errE z, nun z] wx fun e w' => e = .returned (.bool true) ∧ ((LoneT w' xb k n us ub s ∧ w'.cell? ⟨t, 0, none⟩ = some (ptr g))) ∧ Hid (∃ F' G', Td R base w0 W0 w' p q t g F G F' G' (A1.put n s).2 l (A2.put n s).2 l)) := fun wx hx => by
    obtain ⟨F', G', hD⟩ := hx.out
    refine (plainA z hzl wx (HHAN.out wx hD.pr.bel)).mono ?_
    rintro e w' ⟨rfl, hb⟩
    have h' := hD.below C hb
    exact ⟨rfl, HSS.out _ _ _ _ _ _ _ h', F', G', h'⟩
  have HEND : Hid (∀ wx, Hid (∃ F' G', Td R base w0 W0 wx p q t g F G F' G' (A1.put n s).2 l (A2.put n s).2 l) → Tn R base w0 w wx p q t g F G (A1.wr + 8) (A2.wr + 1)) := fun wx hx => by
    obtain ⟨F', G', hD⟩ := hx.out
    exact HOUT.out _ _ _ ⟨F', G', _, _, _, hD, e2, e3, by have := put_wr A1 n s; omega, put_wr A2 n s⟩
  clear hP hE hk hn hus hub hW0 hB0 hD0 hXF hA0 hsl hfr hw1 hw2 hxb C HOUT hz1 hz2 e1 e2 e3 hix HDB HHAN
  generalize (A1.put n s).2 = B1 at *
  generalize (A2.put n s).2 = B2 at *
  generalize k % 6 = m at *
  subst hm
  go_enter Tryz.func10, Tryz.ntmps10
  go_upto_region 1 with fail
  rw [HW0.out, HXB.out]
  go_wp2_with fail
  refine cW0.out.mono ?_
  rintro e w1 ⟨rfl, hb1⟩
  have HB1 := Hid.mk' hb1
  have hss := HSS.out _ _ _ _ _ _ _ (HD0.out.below HC.out hb1)
  have y0 := hss.1.cells.1
  have y1 := hss.1.cells.2.1
  have y2 := hss.2
  have HSD := Hid.mk' (HSS.out _ _ _ _ _ _ _ ((HD0.out.below HC.out hb1).below HC.out (Below.refl w1.heap.size w1).drew))
  have HBD : Hid (Below W0.heap.size W0 w1.drew) := hb1.drew
  clear hb1 hss x0 x1 HLK
  go_upto_region 15 with (first | (go_at_call 22; refine (cK.out _).mono ?_; rintro e w2 ⟨rfl, hw2⟩; subst w2) | fail)
  refine wp_region_held_drew (S := fun w' => LoneT w' xb k n us ub s ∧ w'.cell? ⟨t, 0, none⟩ = some (ptr g)) (by kernel_rfl) HSD.out (fun hHeld => ?_)
  refine wpAnyH_take (i := 0) (v := ?_) rfl (by kernel_rfl) (by kernel_rfl) (by kernel_rfl) (fun _ _ _ h => h) (Or.inl ⟨by rfl, ?_⟩) hHeld ?_
  rotate_left
  · (intro w' hS'; have hcx := hS'.1.cells.2.1; have hct := hS'.2; go_simp <;> with_reducible rfl)
  simp only [Act.put, List.getElem_toArray, List.getElem_cons_succ, List.getElem_cons_zero, List.setIfInBounds_toArray, List.set]
  refine wpAnyH_take (i := 1) (v := ?_) rfl (by kernel_rfl) (by kernel_rfl) (by kernel_rfl) (fun _ _ _ h => h) (Or.inl ⟨by rfl, ?_⟩) hHeld ?_
  rotate_left
  · (intro w' hS'; have hcx := hS'.1.cells.2.1; have hct := hS'.2; go_simp <;> with_reducible rfl)
  simp only [Act.put, List.getElem_toArray, List.getElem_cons_succ, List.getElem_cons_zero, List.setIfInBounds_toArray, List.set]
  refine wpAnyH_take (i := 2) (v := ?_) rfl (by kernel_rfl) (by kernel_rfl) (by kernel_rfl) (fun _ _ _ h => h) (Or.inl ⟨by rfl, ?_⟩) hHeld ?_
  rotate_left
  · (intro w' hS'; have hcx := hS'.1.cells.2.1; have hct := hS'.2; go_simp <;> with_reducible rfl)
  simp only [Act.put, List.getElem_toArray, List.getElem_cons_succ, List.getElem_cons_zero, List.setIfInBounds_toArray, List.set]
  refine wpAnyH_take (i := 3) (v := ?_) rfl (by kernel_rfl) (by kernel_rfl) (by kernel_rfl) (fun _ _ _ h => h) (Or.inl ⟨by rfl, ?_⟩) hHeld ?_
  rotate_left
  · (intro w' hS'; have hcx := hS'.1.cells.2.1; have hct := hS'.2; go_simp <;> with_reducible rfl)
  simp only [Act.put, List.getElem_toArray, List.getElem_cons_succ, List.getElem_cons_zero, List.setIfInBounds_toArray, List.set]
  refine wpAnyH_take (i := 4) (v := _) rfl (by kernel_rfl) (by kernel_rfl) (by kernel_rfl) (fun _ _ _ h => h) (yieldsIf_load_mid (by rfl) 40 _ rfl xb 4 rfl s.cells _ (fun w' h => h.1.slot) Tryz.underlying40 rfl size_slt) hHeld ?_
  simp only [Act.put, List.getElem_toArray, List.getElem_cons_succ, List.getElem_cons_zero, List.setIfInBounds_toArray, List.set]
  refine wpAnyH_take (i := 6) (v := ?_) rfl (by kernel_rfl) (by kernel_rfl) (by kernel_rfl) (fun _ _ _ h => h) (Or.inl ⟨by rfl, ?_⟩) hHeld ?_
  rotate_left
  · (intro w' hS'; have hcx := hS'.1.cells.2.1; have hct := hS'.2; go_simp <;> with_reducible rfl)
  simp only [Act.put, List.getElem_toArray, List.getElem_cons_succ, List.getElem_cons_zero, List.setIfInBounds_toArray, List.set]
  refine wpAnyH_take (i := 7) (v := ?_) rfl (by kernel_rfl) (by kernel_rfl) (by kernel_rfl) (fun _ _ _ h => h) (Or.inl ⟨by rfl, ?_⟩) hHeld ?_
  rotate_left
  · (intro w' hS'; have hcx := hS'.1.cells.2.1; have hct := hS'.2; go_simp <;> with_reducible rfl)
  simp only [Act.put, List.getElem_toArray, List.getElem_cons_succ, List.getElem_cons_zero, List.setIfInBounds_toArray, List.set]
  refine wpAnyH_take (i := 8) (v := ?_) rfl (by kernel_rfl) (by kernel_rfl) (by kernel_rfl) (fun _ _ _ h => h) (Or.inl ⟨by rfl, ?_⟩) hHeld ?_
  rotate_left
  · (intro w' hS'; have hcx := hS'.1.cells.2.1; have hct := hS'.2; go_simp <;> with_reducible rfl)
  simp only [Act.put, List.getElem_toArray, List.getElem_cons_succ, List.getElem_cons_zero, List.setIfInBounds_toArray, List.set]
  refine wpAnyH_take (i := 9) (v := ?_) rfl (by kernel_rfl) (by kernel_rfl) (by kernel_rfl) (fun _ _ _ h => h) (Or.inl ⟨by rfl, ?_⟩) hHeld ?_
  rotate_left
  · (intro w' hS'; have hcx := hS'.1.cells.2.1; have hct := hS'.2; go_simp <;> with_reducible rfl)
  simp only [Act.put, List.getElem_toArray, List.getElem_cons_succ, List.getElem_cons_zero, List.setIfInBounds_toArray, List.set]
  refine wpAnyH_take (i := 10) (v := ?_) rfl (by kernel_rfl) (by kernel_rfl) (by kernel_rfl) (fun _ _ _ h => h) (Or.inl ⟨by rfl, ?_⟩) hHeld ?_
  rotate_left
  · (intro w' hS'; have hcx := hS'.1.cells.2.1; have hct := hS'.2; go_simp <;> with_reducible rfl)
  simp only [Act.put, List.getElem_toArray, List.getElem_cons_succ, List.getElem_cons_zero, List.setIfInBounds_toArray, List.set]
  refine wpAnyH_take (i := 11) (v := ?_) rfl (by kernel_rfl) (by kernel_rfl) (by kernel_rfl) (fun _ _ _ h => h) (Or.inl ⟨by rfl, ?_⟩) hHeld ?_
  rotate_left
  · (intro w' hS'; have hcx := hS'.1.cells.2.1; have hct := hS'.2; go_simp <;> with_reducible rfl)
  simp only [Act.put, List.getElem_toArray, List.getElem_cons_succ, List.getElem_cons_zero, List.setIfInBounds_toArray, List.set]
  refine wpAnyH_take (i := 12) (v := ?_) rfl (by kernel_rfl) (by kernel_rfl) (by kernel_rfl) (fun _ _ _ h => h) (Or.inl ⟨by rfl, ?_⟩) hHeld ?_
  rotate_left
  · (intro w' hS'; have hcx := hS'.1.cells.2.1; have hct := hS'.2; go_simp <;> with_reducible rfl)
  simp only [Act.put, List.getElem_toArray, List.getElem_cons_succ, List.getElem_cons_zero, List.setIfInBounds_toArray, List.set]
  refine wpAnyH_take (i := 13) (v := _) rfl (by kernel_rfl) (by kernel_rfl) (by kernel_rfl) (fun _ _ _ h => h) (yieldsIf_load_mid (by rfl) 40 _ rfl xb 4 rfl s.cells _ (fun w' h => h.1.slot) Tryz.underlying40 rfl size_slt) hHeld ?_
  simp only [Act.put, List.getElem_toArray, List.getElem_cons_succ, List.getElem_cons_zero, List.setIfInBounds_toArray, List.set]
  refine wpAnyH_ready (rs := [5]) (by kernel_rfl) (by simp) ?_
  refine AllReadyH.cons rfl (fun K hK => ?_) AllReadyH.nil
  go_simp
  refine (C1.out _ HBD.out).mono ?_
  rintro e w3 ⟨rfl, hSw3, hQw3⟩
  go_wp2_with fail
  refine hK.out _ _ hSw3 (fun hHeld => ?_)
  clear hK K
  refine wpAnyH_ready (rs := [14]) (by kernel_rfl) (by simp) ?_
  refine AllReadyH.cons rfl (fun K hK => ?_) AllReadyH.nil
  go_simp
  refine (C2.out _ hQw3).mono ?_
  rintro e w4 ⟨rfl, hSw4, hQw4⟩
  go_wp2_with fail
  refine hK.out _ _ hSw4 (fun hHeld => ?_)
  clear hK K
  refine wpAnyH_ready (rs := [15]) (by kernel_rfl) (by simp) ?_
  refine AllReadyH.cons rfl (fun K hK => ?_) AllReadyH.nil
  go_simp
  refine (C3.out _ hQw4).mono ?_
  rintro e w5 ⟨rfl, hSw5, hQw5⟩
  go_wp2_with fail
  refine hK.out _ _ hSw5 (fun hHeld => ?_)
  clear hK K
  refine wpAnyH_take (i := 16) (v := ?_) rfl (by kernel_rfl) (by kernel_rfl) (by kernel_rfl) (fun _ _ _ h => h) (Or.inl ⟨by rfl, ?_⟩) hHeld ?_
  rotate_left
  · (intro w' hS'; have hcx := hS'.1.cells.2.1; have hct := hS'.2; go_simp <;> with_reducible rfl)
  simp only [Act.put, List.getElem_toArray, List.getElem_cons_succ, List.getElem_cons_zero, List.setIfInBounds_toArray, List.set]
  refine wpAnyH_done (by kernel_rfl) ?_ _
  clear hHeld
  go_wp2
  go_ret
  exact ⟨rfl, HEND.out _ hQw5⟩

set_option maxRecDepth 100000 in
set_option maxHeartbeats 8000000 in
theorem does_bare {Rep : World → Nat → (Nat → Prop) → Arn → Prop} {R : RepTy} (C : TreeCW Rep R) (base : Nat) (w0 w : World) (p q t g : Nat) (F G : Nat → Prop) (A1 A2 : Arn) (l k n us ub : Int) (s : Slt)
    (hP : Tp R base w0 w p q t g F G A1 l A2 l) (hsl : A1.sl = A2.sl) (hfr : A1.fr = A2.fr) (hw1 : A1.wr ≤ 999999000) (hw2 : A2.wr ≤ 999999000) (hE : Er.Handle w0) (hk : I64 k) (hn : I64 n) (hus : I64 us) (hub : I64 ub) (hm : k % 6 = 5) :
    Calls Tryz.prog 10 #[ptr p, ptr q, ptr t, actTV k n us ub s] w fun e w' => e = .returned (.bool true) ∧ Tn R base w0 w w' p q t g F G (A1.wr + 8) (A2.wr + 1) := by
  have hB0 : Below w.heap.size w (w.alloc (.cells (actT k n us ub s).toArray 42)) := (Below.refl _ _).alloc (Nat.le_refl _) _
  have hA0 : LoneT (w.alloc (.cells (actT k n us ub s).toArray 42)) w.heap.size k n us ub s := heap_alloc_new _ _
  obtain ⟨W0, hW0⟩ : ∃ W0, w.alloc (.cells (actT k n us ub s).toArray 42) = W0 := ⟨_, rfl⟩
  rw [hW0] at hB0 hA0
  have HW0 := Hid.mk' hW0
  obtain ⟨xb, hxb⟩ : ∃ xb, w.heap.size = xb := ⟨_, rfl⟩
  have hXF : ¬ F xb ∧ ¬ G xb := ⟨fun e => by have := (C.keep q l).lt hP.rep _ e; omega, fun e => by have := (hP.ref.lt _ e).2; omega⟩
  rw [hxb] at hA0
  have HXB := Hid.mk' hxb
  have hD0 : Td R base w0 W0 W0 p q t g F G F G A1 l A2 l := Td.start (hP.below C hB0)
  have HACT : Hid (∀ w' F' G' B1 m1 B2 m2, Td R base w0 W0 w' p q t g F G F' G' B1 m1 B2 m2 → LoneT w' xb k n us ub s) := fun w' F' G' B1 m1 B2 m2 h => h.blk hA0 hXF
  have HOUT : Hid (∀ w' n1 n2, Tn R base w0 W0 w' p q t g F G n1 n2 → Tn R base w0 w w' p q t g F G n1 n2) := fun w' n1 n2 ⟨F', G', B1, B2, m, h1, h2⟩ => ⟨F', G', B1, B2, m, h1.from hB0, h2⟩
  have HHAN : Hid (∀ w', Below w0.heap.size w0 w' → Er.Handle w') := fun w' hb => hE.below hb
  have HC := Hid.mk' C
  have HD0 := Hid.mk' hD0
  have x0 := hA0.cells.1
  have x1 := hA0.cells.2.1
  have HLK := Hid.mk' hA0.link
  have cK : Hid (∀ wx, Calls Tryz.prog 22 #[nu k, nu 6] wx fun e w' => e = .returned (nu (k % 6)) ∧ w' = wx) := fun wx => pickT k 6 wx (by decide) (by decide) hk
  have cW0 := Hid.mk' (C.writes q l W0 p F A1 hD0.pr.rep (by omega))
  obtain ⟨ix, hixe⟩ : ∃ ix, n % 32 = ix := ⟨_, rfl⟩
  have cN : Hid (∀ wx, Calls Tryz.prog 22 #[nu n, nu 32] wx fun e w' => e = .returned (nu ix) ∧ w' = wx) := fun wx => by rw [← hixe]; exact pickT n 32 wx (by decide) (by decide) hn
  have hix : -9223372036854775808 ≤ ix ∧ ix ≤ 9223372036854775807 := by omega
  obtain ⟨y, hy⟩ : ∃ y, bornS { bare with used := true } ub = y := ⟨_, rfl⟩
  obtain ⟨z, hz2⟩ : ∃ z, (A2.put ix y).1 = z := ⟨_, rfl⟩
  obtain ⟨e1, e2, e3⟩ := put_same A1 A2 ix y hsl hfr
  have hz1 : (A1.put ix y).1 = z := e1.trans hz2
  have hzl : z ≤ 24 := by rw [← hz2]; exact put_le A2 ix y
  have cB : Hid (∀ wx, _) := fun wx => bare_ref wx
  have HALL : Hid (∀ WB sb, Below W0.heap.size W0 WB → Lone WB sb y → W0.heap.size ≤ sb → ∃ P3 : World → Prop, (∀ wx, Below WB.heap.size WB wx → Calls Tryz.prog 29 #[ptr p, nu ix, y.v] wx fun e w' => e = .returned (errE z) ∧ (Lone w' sb y ∧ w'.cell? ⟨t, 0, none⟩ = some (ptr g)) ∧ Hid (∃ F', Td R base w0 WB w' p q t g F G F' G (A1.put ix y).2 l A2 l)) ∧ (∀ wx, Hid (∃ F', Td R base w0 WB wx p q t g F G F' G (A1.put ix y).2 l A2 l) → Calls Tryz.prog 30 #[ptr g, nu ix, y.v] wx fun e w' => e = .returned (nun z) ∧ (Lone w' sb y ∧ w'.cell? ⟨t, 0, none⟩ = some (ptr g)) ∧ Hid (P3 w')) ∧ (∀ wx, Hid (P3 wx) → Calls Tryz.prog 28 #[errE z, nun z] wx fun e w' => e = .returned (.bool true) ∧ (Lone w' sb y ∧ w'.cell? ⟨t, 0, none⟩ = some (ptr g)) ∧ Hid (P3 w')) ∧ (∀ wx, Hid (P3 wx) → Tn R base w0 w wx p q t g F G (A1.wr + 8) (A2.wr + 1)) ∧ (∀ wx, Below WB.heap.size WB wx → (fun w' => Lone w' sb y ∧ w'.cell? ⟨t, 0, none⟩ = some (ptr g)) wx)) := fun WB sb hBB hLB hsb => by
    have HDB : Hid (Td R base w0 WB WB p q t g F G F G A1 l A2 l) := Td.start ((hP.below C hB0).below C hBB)
    have hXF2 : ¬ F sb ∧ ¬ G sb := ⟨fun e => by have := (C.keep q l).lt (hP.below C hB0).rep _ e; omega, fun e => by have := ((hP.below C hB0).ref.lt _ e).2; omega⟩
    have HSS : Hid (∀ w' F' G' B1 m1 B2 m2, Td R base w0 WB w' p q t g F G F' G' B1 m1 B2 m2 → Lone w' sb y ∧ w'.cell? ⟨t, 0, none⟩ = some (ptr g)) := fun w' F' G' B1 m1 B2 m2 h => ⟨h.blk hLB hXF2, by obtain ⟨sv, fv, h1, _⟩ := h.pr.ref; exact h1.cells.1⟩
    have C1 : Hid (∀ wx, Below WB.heap.size WB wx → Calls Tryz.prog 29 #[ptr p, nu ix, y.v] wx fun e w' => e = .returned (errE z) ∧ ((Lone w' sb y ∧ w'.cell? ⟨t, 0, none⟩ = some (ptr g))) ∧ Hid (∃ F', Td R base w0 WB w' p q t g F G F' G (A1.put ix y).2 l A2 l)) := fun wx hb => by
      have hD := HDB.out.below C hb
      have := C.put q l wx p F A1 ix y hD.pr.rep hD.pr.good1 (by omega) hix
      rw [hz1] at this
      refine this.mono ?_
      rintro e w' ⟨rfl, hl⟩
      obtain ⟨F', h'⟩ := hD.turn1 hl (hD.pr.good1.put ix y)
      exact ⟨rfl, HSS.out _ _ _ _ _ _ _ h', F', h'⟩
    have C2 : Hid (∀ wx, Hid (∃ F', Td R base w0 WB wx p q t g F G F' G (A1.put ix y).2 l A2 l) → Calls Tryz.prog 30 #[ptr g, nu ix, y.v] wx fun e w' => e = .returned (nun z) ∧ ((Lone w' sb y ∧ w'.cell? ⟨t, 0, none⟩ = some (ptr g))) ∧ Hid (∃ F' G', Td R base w0 WB w' p q t g F G F' G' (A1.put ix y).2 l (A2.put ix y).2 l)) := fun wx hx => by
      obtain ⟨F', hD⟩ := hx.out
      have := putD base wx t g G A2 l ix y hD.pr.ref hD.pr.good2 (by omega)
      rw [hz2] at this
      refine this.mono ?_
      rintro e w' ⟨rfl, hl⟩
      obtain ⟨G', h'⟩ := hD.turn2 C hl (hD.pr.good2.put ix y)
      exact ⟨rfl, HSS.out _ _ _ _ _ _ _ h', F', G', h'⟩
    have C3 : Hid (∀ wx, Hid (∃ F' G', Td R base w0 WB wx p q t g F G F' G' (A1.put ix y).2 l (A2.put ix y).2 l) → Calls Tryz.prog 28 #[errE z, nun z] wx fun e w' => e = .returned (.bool true) ∧ ((Lone w' sb y ∧ w'.cell? ⟨t, 0, none⟩ = some (ptr g))) ∧ Hid (∃ F' G', Td R base w0 WB w' p q t g F G F' G' (A1.put ix y).2 l (A2.put ix y).2 l)) := fun wx hx => by
      obtain ⟨F', G', hD⟩ := hx.out
      refine (plainA z hzl wx (HHAN.out wx hD.pr.bel)).mono ?_
      rintro e w' ⟨rfl, hb⟩
      have h' := hD.below C hb
      exact ⟨rfl, HSS.out _ _ _ _ _ _ _ h', F', G', h'⟩
    refine ⟨fun wx => ∃ F' G', Td R base w0 WB wx p q t g F G F' G' (A1.put ix y).2 l (A2.put ix y).2 l, C1.out, C2.out, C3.out, fun wx hx => ?_, fun wx hb => HSS.out _ _ _ _ _ _ _ (HDB.out.below C hb)⟩
    obtain ⟨F', G', hD⟩ := hx.out
    exact ⟨F', G', _, _, _, (hD.from hBB).from hB0, e2, e3, by have := put_wr A1 ix y; omega, put_wr A2 ix y⟩
  have HT0 : Hid (∀ wx, Below W0.heap.size W0 wx → LoneT wx xb k n us ub s ∧ wx.cell? ⟨t, 0, none⟩ = some (ptr g)) := fun wx hb => ⟨HACT.out _ _ _ _ _ _ _ (HD0.out.below C hb), by obtain ⟨sv, fv, h1, _⟩ := (HD0.out.below C hb).pr.ref; exact h1.cells.1⟩
  have hcell3 := hA0.cells.2.2.2
  clear hP hE hk hn hus hub hW0 hB0 hD0 hXF hA0 hsl hfr hw1 hw2 hxb C HOUT hz1 hz2 e1 e2 e3 hix HHAN HACT HC HD0 hixe
  generalize k % 6 = m at *
  subst hm
  go_enter Tryz.func10, Tryz.ntmps10
  go_upto_region 1 with fail
  rw [HW0.out, HXB.out]
  go_wp2_with fail
  refine cW0.out.mono ?_
  rintro e w1 ⟨rfl, hb1⟩
  have HB1 := Hid.mk' hb1
  obtain ⟨h9, y2⟩ := HT0.out _ hb1
  have y0 := h9.cells.1
  have y1 := h9.cells.2.1
  clear hb1 h9 x0 x1 HLK hcell3
  go_wp2_with (first | (go_at_call 22; (first | with_reducible refine (cK.out _).mono ?_ | with_reducible refine (cN.out _).mono ?_ | fail); rintro e w2 ⟨rfl, hw2⟩; subst w2) | fail)
  refine (cB.out _).mono ?_
  rintro e w2 ⟨rfl, hw2⟩
  have hb2 : Below W0.heap.size W0 w2 := by rw [hw2]; exact HB1.out.alloc HB1.out.size _
  clear hw2
  have HB2 := Hid.mk' hb2
  have HZ := Hid.mk' (lone_zero w2)
  have HBZ : Hid (Below W0.heap.size W0 (w2.alloc (.cells sltZ 40))) := hb2.alloc hb2.size _
  obtain ⟨sb, hsbe⟩ : ∃ sb, w2.heap.size = sb := ⟨_, rfl⟩
  have hsb : W0.heap.size ≤ sb := by rw [← hsbe]; exact hb2.size
  rw [hsbe] at HZ
  have HSB := Hid.mk' hsbe
  clear hb2 hsbe y0 y1 y2
  go_upto_region 20 with (first | (rw [HSB.out]; refine wpList_store_lone rfl _ _ rfl sb rfl bare rfl slt0 HZ.out ?_; intro w3 hl3 hg3 hs3; have HL3 := Hid.mk' hl3; have HB3 : Hid (Below W0.heap.size W0 w3) := (HBZ.out.grown hg3 HBZ.out.size (fun r e => by cases e; exact hsb)); clear hl3 hg3 hs3) | fail)
  have u0 := HL3.out.cells.1
  have uf := lone_free HL3.out 0
  have HL4 : Hid (Lone (w3.setCell ⟨sb, 0, none⟩ (.bool true)) sb { bare with used := true }) := lone_used HL3.out true
  have HB4 : Hid (Below W0.heap.size W0 (w3.setCell ⟨sb, 0, none⟩ (.bool true))) := HB3.out.setCell (p := ⟨sb, 0, none⟩) hsb _
  go_upto_region 21 with fail
  clear u0 uf HL3 HB3
  generalize w3.setCell ⟨sb, 0, none⟩ (.bool true) = w4 at *
  obtain ⟨h9, _⟩ := HT0.out _ HB4.out
  have y3 : w4.cell? ⟨xb, 2 + 1, none⟩ = some (nu ub) := h9.cells.2.2.2
  have u6 : w4.cell? ⟨sb, 5 + 1, none⟩ = some (nu bare.s.birth) := HL4.out.cells.2.2.2.2.2.2.1
  have uf6 : w4.frozen? ⟨sb, 5 + 1, none⟩ = false := lone_free HL4.out 6
  have HL5 : Hid (Lone (w4.setCell ⟨sb, 5 + 1, none⟩ (nu ub)) sb y) := by rw [← hy]; exact lone_born HL4.out ub
  have HB5 : Hid (Below W0.heap.size W0 (w4.setCell ⟨sb, 5 + 1, none⟩ (nu ub))) := HB4.out.setCell (p := ⟨sb, 5 + 1, none⟩) hsb _
  clear h9
  go_upto_region 22 with fail
  clear y3 u6 uf6 HL4 HB4
  generalize w4.setCell ⟨sb, 5 + 1, none⟩ (nu ub) = WB at *
  obtain ⟨P3, C1, C2, C3, hend, hss⟩ := HALL.out WB sb HB5.out HL5.out hsb
  have HC1 := Hid.mk' C1
  have HC2 := Hid.mk' C2
  have HC3 := Hid.mk' C3
  have HEND := Hid.mk' hend
  have HSD := Hid.mk' (hss WB.drew (Below.refl WB.heap.size WB).drew)
  have HBD : Hid (Below WB.heap.size WB WB.drew) := (Below.refl WB.heap.size WB).drew
  clear C1 C2 C3 hend hss HALL HT0
  refine wp_region_held_drew (S := fun w' => Lone w' sb y ∧ w'.cell? ⟨t, 0, none⟩ = some (ptr g)) (by kernel_rfl) HSD.out (fun hHeld => ?_)
  refine wpAnyH_take (i := 0) (v := ?_) rfl (by kernel_rfl) (by kernel_rfl) (by kernel_rfl) (fun _ _ _ h => h) (Or.inl ⟨by rfl, ?_⟩) hHeld ?_
  rotate_left
  · (intro w' hS'; have hct := hS'.2; go_simp <;> with_reducible rfl)
  simp only [Act.put, List.getElem_toArray, List.getElem_cons_succ, List.getElem_cons_zero, List.setIfInBounds_toArray, List.set]
  refine wpAnyH_take (i := 1) (v := ?_) rfl (by kernel_rfl) (by kernel_rfl) (by kernel_rfl) (fun _ _ _ h => h) (Or.inl ⟨by rfl, ?_⟩) hHeld ?_
  rotate_left
  · (intro w' hS'; have hct := hS'.2; go_simp <;> with_reducible rfl)
  simp only [Act.put, List.getElem_toArray, List.getElem_cons_succ, List.getElem_cons_zero, List.setIfInBounds_toArray, List.set]
  refine wpAnyH_take (i := 2) (v := _) rfl (by kernel_rfl) (by kernel_rfl) (by kernel_rfl) (fun _ _ _ h => h) (yieldsIf_load_mid (by rfl) 40 _ rfl sb 0 rfl y.cells _ (fun w' h => h.1.range) Tryz.underlying40 rfl size_slt) hHeld ?_
  simp only [Act.put, List.getElem_toArray, List.getElem_cons_succ, List.getElem_cons_zero, List.setIfInBounds_toArray, List.set]
  refine wpAnyH_take (i := 4) (v := ?_) rfl (by kernel_rfl) (by kernel_rfl) (by kernel_rfl) (fun _ _ _ h => h) (Or.inl ⟨by rfl, ?_⟩) hHeld ?_
  rotate_left
  · (intro w' hS'; have hct := hS'.2; go_simp <;> with_reducible rfl)
  simp only [Act.put, List.getElem_toArray, List.getElem_cons_succ, List.getElem_cons_zero, List.setIfInBounds_toArray, List.set]
  refine wpAnyH_take (i := 5) (v := ?_) rfl (by kernel_rfl) (by kernel_rfl) (by kernel_rfl) (fun _ _ _ h => h) (Or.inl ⟨by rfl, ?_⟩) hHeld ?_
  rotate_left
  · (intro w' hS'; have hct := hS'.2; go_simp <;> with_reducible rfl)
  simp only [Act.put, List.getElem_toArray, List.getElem_cons_succ, List.getElem_cons_zero, List.setIfInBounds_toArray, List.set]
  refine wpAnyH_take (i := 6) (v := ?_) rfl (by kernel_rfl) (by kernel_rfl) (by kernel_rfl) (fun _ _ _ h => h) (Or.inl ⟨by rfl, ?_⟩) hHeld ?_
  rotate_left
  · (intro w' hS'; have hct := hS'.2; go_simp <;> with_reducible rfl)
  simp only [Act.put, List.getElem_toArray, List.getElem_cons_succ, List.getElem_cons_zero, List.setIfInBounds_toArray, List.set]
  refine wpAnyH_take (i := 7) (v := ?_) rfl (by kernel_rfl) (by kernel_rfl) (by kernel_rfl) (fun _ _ _ h => h) (Or.inl ⟨by rfl, ?_⟩) hHeld ?_
  rotate_left
  · (intro w' hS'; have hct := hS'.2; go_simp <;> with_reducible rfl)
  simp only [Act.put, List.getElem_toArray, List.getElem_cons_succ, List.getElem_cons_zero, List.setIfInBounds_toArray, List.set]
  refine wpAnyH_take (i := 8) (v := ?_) rfl (by kernel_rfl) (by kernel_rfl) (by kernel_rfl) (fun _ _ _ h => h) (Or.inl ⟨by rfl, ?_⟩) hHeld ?_
  rotate_left
  · (intro w' hS'; have hct := hS'.2; go_simp <;> with_reducible rfl)
  simp only [Act.put, List.getElem_toArray, List.getElem_cons_succ, List.getElem_cons_zero, List.setIfInBounds_toArray, List.set]
  refine wpAnyH_take (i := 9) (v := _) rfl (by kernel_rfl) (by kernel_rfl) (by kernel_rfl) (fun _ _ _ h => h) (yieldsIf_load_mid (by rfl) 40 _ rfl sb 0 rfl y.cells _ (fun w' h => h.1.range) Tryz.underlying40 rfl size_slt) hHeld ?_
  simp only [Act.put, List.getElem_toArray, List.getElem_cons_succ, List.getElem_cons_zero, List.setIfInBounds_toArray, List.set]
  refine wpAnyH_ready (rs := [3]) (by kernel_rfl) (by simp) ?_
  refine AllReadyH.cons rfl (fun K hK => ?_) AllReadyH.nil
  go_simp
  refine (HC1.out _ HBD.out).mono ?_
  rintro e w13 ⟨rfl, hSw13, hQw13⟩
  go_wp2_with fail
  refine hK.out _ _ hSw13 (fun hHeld => ?_)
  clear hK K
  refine wpAnyH_ready (rs := [10]) (by kernel_rfl) (by simp) ?_
  refine AllReadyH.cons rfl (fun K hK => ?_) AllReadyH.nil
  go_simp
  refine (HC2.out _ hQw13).mono ?_
  rintro e w14 ⟨rfl, hSw14, hQw14⟩
  go_wp2_with fail
  refine hK.out _ _ hSw14 (fun hHeld => ?_)
  clear hK K
  refine wpAnyH_ready (rs := [11]) (by kernel_rfl) (by simp) ?_
  refine AllReadyH.cons rfl (fun K hK => ?_) AllReadyH.nil
  go_simp
  refine (HC3.out _ hQw14).mono ?_
  rintro e w15 ⟨rfl, hSw15, hQw15⟩
  go_wp2_with fail
  refine hK.out _ _ hSw15 (fun hHeld => ?_)
  clear hK K
  refine wpAnyH_take (i := 12) (v := ?_) rfl (by kernel_rfl) (by kernel_rfl) (by kernel_rfl) (fun _ _ _ h => h) (Or.inl ⟨by rfl, ?_⟩) hHeld ?_
  rotate_left
  · (intro w' hS'; have hct := hS'.2; go_simp <;> with_reducible rfl)
  simp only [Act.put, List.getElem_toArray, List.getElem_cons_succ, List.getElem_cons_zero, List.setIfInBounds_toArray, List.set]
  refine wpAnyH_done (by kernel_rfl) ?_ _
  clear hHeld
  go_wp2
  go_ret
  exact ⟨rfl, HEND.out _ hQw15⟩
end Tr
end Go.Proofs.YtcleeidfiaafcaaGreatDoor
