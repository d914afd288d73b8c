import Derived.Test.YthabnombfbehkaaGreatDoorSwpG
/- One act: Add, Unit. -/
namespace Go.Proofs.YthabnombfbehkaaGreatDoor
set_option linter.ambiguousOpen false
open Go.RowKit
namespace Sw
open An Rg Ft Lv
set_option linter.unusedSimpArgs false
set_option linter.unusedVariables false

theorem errP_iface (no : Nat) (pl : Int) (h : no ≠ 0) : ∃ T V, errP no pl = .iface T V := by
  unfold errP
  split
  · obtain ⟨m, rfl⟩ : ∃ m, no = m + 1 := ⟨no - 1, by omega⟩
    exact ⟨_, _, rfl⟩
  · exact ⟨_, _, rfl⟩

set_option maxRecDepth 100000 in
set_option maxHeartbeats 4000000 in
theorem does_add {Rep : World → Nat → (Nat → Prop) → Arn → Prop} {R : RepTy} (C : SweepC Rep R) (base : Nat) (w0 w : World) (p q t g : Nat) (F G : Nat → Prop) (A1 A2 : Arn) (l k n : Int) (s : Slt)
    (hP : Tp R base w0 w p q t g F G A1 l A2 l) (hsl : A1.sl = A2.sl) (hfr : A1.fr = A2.fr) (hw1 : A1.wr ≤ 999999000) (hw2 : A2.wr ≤ 999999000) (hE : Er.Handle w0) (hk : I64 k) (hn : I64 n) (hok : okL l) (hm : k % 6 = 0 ∨ k % 6 = 1) :
    Calls Tryz.prog 13 #[ptr p, ptr q, ptr t, actGV k n s] w fun e w' => e = .returned (.bool true) ∧ Tn R base w0 w w' p q t g F G (A1.wr + 8) (A2.wr + 1) := by
  have hB0 : Below w.heap.size w (w.alloc (.cells (actG k n s).toArray 52)) := (Below.refl _ _).alloc (Nat.le_refl _) _
  have hA0 : LoneG (w.alloc (.cells (actG k n s).toArray 52)) w.heap.size k n s := heap_alloc_new _ _
  obtain ⟨W0, hW0⟩ : ∃ W0, w.alloc (.cells (actG k n s).toArray 52) = W0 := ⟨_, rfl⟩
  rw [hW0] at hB0 hA0
  have HW0 := Hid.mk' hW0
  obtain ⟨xb, hxb⟩ : ∃ xb, w.heap.size = xb := ⟨_, rfl⟩
  have hXF : ¬ F xb ∧ ¬ G xb := ⟨fun e => by have := (C.keep q l).lt hP.rep _ e; omega, fun e => by have := (hP.ref.lt _ e).2; omega⟩
  rw [hxb] at hA0
  have HXB := Hid.mk' hxb
  have hD0 : Td R base w0 W0 W0 p q t g F G F G A1 l A2 l := Td.start (hP.below C hB0)
  have HACT : Hid (∀ w' F' G' B1 m1 B2 m2, Td R base w0 W0 w' p q t g F G F' G' B1 m1 B2 m2 → LoneG w' xb k n s) := fun w' F' G' B1 m1 B2 m2 h => h.blk hA0 hXF
  have HOUT : Hid (∀ w' n1 n2, Tn R base w0 W0 w' p q t g F G n1 n2 → Tn R base w0 w w' p q t g F G n1 n2) := fun w' n1 n2 ⟨F', G', B1, B2, m, h1, h2⟩ => ⟨F', G', B1, B2, m, h1.from hB0, h2⟩
  have HHAN : Hid (∀ w', Below w0.heap.size w0 w' → Er.Handle w') := fun w' hb => hE.below hb
  have HC := Hid.mk' C
  have HD0 := Hid.mk' hD0
  have x0 := hA0.cells.1
  have x1 := hA0.cells.2
  have cK : Hid (∀ wx, Calls Tryz.prog 9 #[nu k, nu 6] wx fun e w' => e = .returned (nu (k % 6)) ∧ w' = wx) := fun wx => pickG k 6 wx (by decide) (by decide) hk
  have cW0 := Hid.mk' (C.writes q l W0 p F A1 hD0.pr.rep (by omega))
  obtain ⟨P, hP2⟩ : ∃ P, addG A2.sl l n = P := ⟨_, rfl⟩
  have hno := addG_no A2.sl l n
  have hlen := addG_len A2.sl l n
  have hpl0 := addG_pl A2.sl l n
  rw [hP2] at hno hlen hpl0
  have hokP := addG_ok A2.sl l n hok
  rw [hP2] at hokP
  have hl2 : A2.sl.length = 32 := hP.good2.len
  have cR : Hid (∀ wx, Below W0.heap.size W0 wx → Calls Tryz.prog 24 #[ptr t, nu n] wx fun e w' => e = .returned (.tuple #[nun P.no, nu P.pl]) ∧ Hid (∃ G', Td R base w0 W0 w' p q t g F G F G' A1 l ⟨P.sl, A2.fr, A2.wr⟩ P.last) ∧ w'.cell? ⟨xb, 1, none⟩ = some (nu n)) := fun wx hb => by
    have hD := HD0.out.below C hb
    have := addG_r base wx t g G A2 l n hD.pr.ref hl2
    rw [hP2] at this
    refine this.mono ?_
    rintro e w' ⟨rfl, hl⟩
    obtain ⟨G', h'⟩ := hD.turn2 C hl ⟨hlen.trans hl2, hD.pr.good2.nd, hD.pr.good2.lt⟩
    have ha := HACT.out _ _ _ _ _ _ _ h'
    exact ⟨rfl, ⟨G', h'⟩, ha.cells.2⟩
  have cA : Hid (∀ wx, Hid (∃ G', Td R base w0 W0 wx p q t g F G F G' A1 l ⟨P.sl, A2.fr, A2.wr⟩ P.last) → Calls Tryz.prog 25 #[ptr q, nu n] wx fun e w' => e = .returned (errP P.no P.pl) ∧ ∃ j : Nat, j ≤ 3 ∧ (P.no ≠ 0 → j = 0) ∧ Hid (∃ F' G', Td R base w0 W0 w' p q t g F G F' G' ⟨P.sl, A1.fr, A1.wr + j⟩ P.last ⟨P.sl, A2.fr, A2.wr⟩ P.last)) := fun wx hx => by
    obtain ⟨G', hD⟩ := hx.out
    have := C.add wx p q F A1 l n hD.pr.rep hD.pr.good1 hok (by omega) hn
    rw [hsl, hP2] at this
    refine this.mono ?_
    rintro e w' ⟨rfl, j, hj, hj0, hl⟩
    obtain ⟨F', h'⟩ := hD.turn1 hl ⟨hlen.trans hl2, hD.pr.good1.nd, hD.pr.good1.lt⟩
    exact ⟨rfl, j, hj, hj0, F', G', h'⟩
  have cW : Hid (∀ wx j, j ≤ 3 → Hid (∃ F' G', Td R base w0 W0 wx p q t g F G F' G' ⟨P.sl, A1.fr, A1.wr + j⟩ P.last ⟨P.sl, A2.fr, A2.wr⟩ P.last) → Calls Tryz.prog 8 #[ptr p] wx fun e w' => e = .returned (nun (A1.wr + j)) ∧ Hid (∃ F' G', Td R base w0 W0 w' p q t g F G F' G' ⟨P.sl, A1.fr, A1.wr + j⟩ P.last ⟨P.sl, A2.fr, A2.wr⟩ P.last)) := fun wx j hj hx => by
    obtain ⟨F', G', hD⟩ := hx.out
    refine (C.writes q P.last wx p F' _ hD.pr.rep (by show A1.wr + j ≤ _; omega)).mono ?_
    rintro e w' ⟨rfl, hb⟩
    exact ⟨rfl, F', G', hD.below C hb⟩
  have cT : Hid (∀ wx j, Hid (∃ F' G', Td R base w0 W0 wx p q t g F G F' G' ⟨P.sl, A1.fr, A1.wr + j⟩ P.last ⟨P.sl, A2.fr, A2.wr⟩ P.last) → Calls Tryz.prog 26 #[errP P.no P.pl, nun P.no, nu P.pl] wx fun e w' => e = .returned (.bool true) ∧ Hid (∃ F' G', Td R base w0 W0 w' p q t g F G F' G' ⟨P.sl, A1.fr, A1.wr + j⟩ P.last ⟨P.sl, A2.fr, A2.wr⟩ P.last)) := fun wx j hx => by
    obtain ⟨F', G', hD⟩ := hx.out
    refine (told19 P.no P.pl hno.1 hno.2 wx (HHAN.out _ hD.pr.bel)).mono ?_
    rintro e w' ⟨rfl, hb⟩
    exact ⟨rfl, F', G', hD.below C hb⟩
  have HEND : Hid (∀ wx j, j ≤ 3 → Hid (∃ F' G', Td R base w0 W0 wx p q t g F G F' G' ⟨P.sl, A1.fr, A1.wr + j⟩ P.last ⟨P.sl, A2.fr, A2.wr⟩ P.last) → Tn R base w0 w wx p q t g F G (A1.wr + 8) (A2.wr + 1)) := fun wx j hj hx => by
    obtain ⟨F', G', hD⟩ := hx.out
    exact HOUT.out _ _ _ ⟨F', G', _, _, _, hD, rfl, hfr, by show A1.wr + j ≤ _; omega, by show A2.wr ≤ _; omega, hokP⟩
  have hwI : (A1.wr : Int) ≤ 999999000 := by omega
  obtain ⟨v1, hv1⟩ : ∃ v1, A1.wr = v1 := ⟨_, rfl⟩
  have hv8 : v1 ≤ 999999000 := by omega
  rw [hv1] at cW0 hwI ⊢
  simp only [hv1] at cA cW cT HEND
  obtain ⟨Pn, Pp, Ps, Pl⟩ := P
  dsimp only at cR cA cW cT HEND hno hpl0
  clear hP hE hk hn hok hW0 hB0 hD0 hXF hA0 hsl hfr hw1 hw2 hP2 hlen hl2 hv1 hxb C
  generalize k % 6 = m at *
  rcases hm with rfl | rfl
  · go_enter Tryz.func13, Tryz.ntmps13
    go_upto_region 1 with fail
    rw [HW0.out, HXB.out]
    go_wp2_with fail
    refine cW0.out.mono ?_
    rintro e w1 ⟨rfl, hb1⟩
    have HB1 := Hid.mk' hb1
    have hd1 := HD0.out.below HC.out hb1
    have ha1 := HACT.out _ _ _ _ _ _ _ hd1
    have y0 := ha1.cells.1
    have y1 := ha1.cells.2
    clear hb1 hd1 ha1 x0 x1
    go_wp2_with (first | (go_at_call 9; refine (cK.out _).mono ?_; rintro e w2 ⟨rfl, hw2⟩; subst w2) | fail)
    refine (cR.out _ HB1.out).mono ?_
    rintro e w3 ⟨rfl, HQ3, y1⟩
    clear y0
    go_wp2_with fail
    refine (cA.out _ HQ3).mono ?_
    rintro e w4 ⟨rfl, j, hj, hj0, HQ4⟩
    have HJ0 := Hid.mk' hj0
    have hjI : (j : Int) ≤ 3 := by omega
    clear hj0 HQ3
    by_cases hz : Pn = 0
    · have hp1 := hpl0 hz
      subst hz
      subst hp1
      rw [show errP 0 (-1) = .nilIface from rfl] at cT ⊢
      go_wp2_with fail
      refine (cW.out _ j hj HQ4).mono ?_
      rintro e w5 ⟨rfl, HQ5⟩
      have hs5 : (((v1 + j : Nat) : Int) - (v1 : Int)) = (j : Int) := by omega
      go_wp2_with fail
      refine (cT.out _ j HQ5).mono ?_
      rintro e w6 ⟨rfl, HQ6⟩
      go_wp2
      go_ret
      exact ⟨rfl, HEND.out _ j hj HQ6⟩
    · obtain ⟨T9, V9, hV9⟩ := errP_iface Pn Pp hz
      rw [hV9] at cT ⊢
      have hjz := HJ0.out hz
      subst hjz
      clear hV9 hz
      go_wp2_with fail
      refine (cW.out _ 0 hj HQ4).mono ?_
      rintro e w5 ⟨rfl, HQ5⟩
      go_wp2_with fail
      refine (cT.out _ 0 HQ5).mono ?_
      rintro e w6 ⟨rfl, HQ6⟩
      go_wp2
      go_ret
      exact ⟨rfl, HEND.out _ 0 hj HQ6⟩
  · go_enter Tryz.func13, Tryz.ntmps13
    go_upto_region 1 with fail
    rw [HW0.out, HXB.out]
    go_wp2_with fail
    refine cW0.out.mono ?_
    rintro e w1 ⟨rfl, hb1⟩
    have HB1 := Hid.mk' hb1
    have hd1 := HD0.out.below HC.out hb1
    have ha1 := HACT.out _ _ _ _ _ _ _ hd1
    have y0 := ha1.cells.1
    have y1 := ha1.cells.2
    clear hb1 hd1 ha1 x0 x1
    go_wp2_with (first | (go_at_call 9; refine (cK.out _).mono ?_; rintro e w2 ⟨rfl, hw2⟩; subst w2) | fail)
    refine (cR.out _ HB1.out).mono ?_
    rintro e w3 ⟨rfl, HQ3, y1⟩
    clear y0
    go_wp2_with fail
    refine (cA.out _ HQ3).mono ?_
    rintro e w4 ⟨rfl, j, hj, hj0, HQ4⟩
    have HJ0 := Hid.mk' hj0
    have hjI : (j : Int) ≤ 3 := by omega
    clear hj0 HQ3
    by_cases hz : Pn = 0
    · have hp1 := hpl0 hz
      subst hz
      subst hp1
      rw [show errP 0 (-1) = .nilIface from rfl] at cT ⊢
      go_wp2_with fail
      refine (cW.out _ j hj HQ4).mono ?_
      rintro e w5 ⟨rfl, HQ5⟩
      have hs5 : (((v1 + j : Nat) : Int) - (v1 : Int)) = (j : Int) := by omega
      go_wp2_with fail
      refine (cT.out _ j HQ5).mono ?_
      rintro e w6 ⟨rfl, HQ6⟩
      go_wp2
      go_ret
      exact ⟨rfl, HEND.out _ j hj HQ6⟩
    · obtain ⟨T9, V9, hV9⟩ := errP_iface Pn Pp hz
      rw [hV9] at cT ⊢
      have hjz := HJ0.out hz
      subst hjz
      clear hV9 hz
      go_wp2_with fail
      refine (cW.out _ 0 hj HQ4).mono ?_
      rintro e w5 ⟨rfl, HQ5⟩
      go_wp2_with fail
      refine (cT.out _ 0 HQ5).mono ?_
      rintro e w6 ⟨rfl, HQ6⟩
      go_wp2
      go_ret
      exact ⟨rfl, HEND.out _ 0 hj HQ6⟩

set_option maxRecDepth 100000 in
set_option maxHeartbeats 4000000 in
theorem does_unit {Rep : World → Nat → (Nat → Prop) → Arn → Prop} {R : RepTy} (C : SweepC Rep R) (base : Nat) (w0 w : World) (p q t g : Nat) (F G : Nat → Prop) (A1 A2 : Arn) (l k n : Int) (s : Slt)
    (hP : Tp R base w0 w p q t g F G A1 l A2 l) (hsl : A1.sl = A2.sl) (hfr : A1.fr = A2.fr) (hw1 : A1.wr ≤ 999999000) (hw2 : A2.wr ≤ 999999000) (hE : Er.Handle w0) (hk : I64 k) (hn : I64 n) (hok : okL l) (hm : k % 6 = 2 ∨ k % 6 = 3) :
    Calls Tryz.prog 13 #[ptr p, ptr q, ptr t, actGV k n s] w fun e w' => e = .returned (.bool true) ∧ Tn R base w0 w w' p q t g F G (A1.wr + 8) (A2.wr + 1) := by
  have hB0 : Below w.heap.size w (w.alloc (.cells (actG k n s).toArray 52)) := (Below.refl _ _).alloc (Nat.le_refl _) _
  have hA0 : LoneG (w.alloc (.cells (actG k n s).toArray 52)) w.heap.size k n s := heap_alloc_new _ _
  obtain ⟨W0, hW0⟩ : ∃ W0, w.alloc (.cells (actG k n s).toArray 52) = W0 := ⟨_, rfl⟩
  rw [hW0] at hB0 hA0
  have HW0 := Hid.mk' hW0
  obtain ⟨xb, hxb⟩ : ∃ xb, w.heap.size = xb := ⟨_, rfl⟩
  have hXF : ¬ F xb ∧ ¬ G xb := ⟨fun e => by have := (C.keep q l).lt hP.rep _ e; omega, fun e => by have := (hP.ref.lt _ e).2; omega⟩
  rw [hxb] at hA0
  have HXB := Hid.mk' hxb
  have hD0 : Td R base w0 W0 W0 p q t g F G F G A1 l A2 l := Td.start (hP.below C hB0)
  have HACT : Hid (∀ w' F' G' B1 m1 B2 m2, Td R base w0 W0 w' p q t g F G F' G' B1 m1 B2 m2 → LoneG w' xb k n s) := fun w' F' G' B1 m1 B2 m2 h => h.blk hA0 hXF
  have HOUT : Hid (∀ w' n1 n2, Tn R base w0 W0 w' p q t g F G n1 n2 → Tn R base w0 w w' p q t g F G n1 n2) := fun w' n1 n2 ⟨F', G', B1, B2, m, h1, h2⟩ => ⟨F', G', B1, B2, m, h1.from hB0, h2⟩
  have HHAN : Hid (∀ w', Below w0.heap.size w0 w' → Er.Handle w') := fun w' hb => hE.below hb
  have HC := Hid.mk' C
  have HD0 := Hid.mk' hD0
  have x0 := hA0.cells.1
  have x1 := hA0.cells.2
  have cK : Hid (∀ wx, Calls Tryz.prog 9 #[nu k, nu 6] wx fun e w' => e = .returned (nu (k % 6)) ∧ w' = wx) := fun wx => pickG k 6 wx (by decide) (by decide) hk
  have cW0 := Hid.mk' (C.writes q l W0 p F A1 hD0.pr.rep (by omega))
  obtain ⟨P, hP2⟩ : ∃ P, unitG A2.sl A2.fr l = P := ⟨_, rfl⟩
  have hokP := unitG_ok A2.sl A2.fr l hok
  have hg2 := fun n => unit_good hP.good2 l n
  have hg1 := fun n => unit_good hP.good1 l n
  rw [hsl, hfr] at hg1
  rw [hP2] at hokP hg1 hg2
  have cR : Hid (∀ wx, Below W0.heap.size W0 wx → Calls Tryz.prog 27 #[ptr t] wx fun e w' => e = .returned (.tuple #[nun P.f, .bool P.ok]) ∧ Hid (∃ G' i, i ≤ 1 ∧ Td R base w0 W0 w' p q t g F G F G' A1 l ⟨P.sl, P.fr, A2.wr + i⟩ P.last)) := fun wx hb => by
    have hD := HD0.out.below C hb
    have := unitG_r base wx t g G A2 l hD.pr.ref hD.pr.good2 (by omega) hok
    rw [hP2] at this
    refine this.mono ?_
    rintro e w' ⟨rfl, i, hi, hl⟩
    obtain ⟨G', h'⟩ := hD.turn2 C hl (hg2 _)
    exact ⟨rfl, G', i, hi, h'⟩
  have cA : Hid (∀ wx, Hid (∃ G' i, i ≤ 1 ∧ Td R base w0 W0 wx p q t g F G F G' A1 l ⟨P.sl, P.fr, A2.wr + i⟩ P.last) → Calls Tryz.prog 28 #[ptr q] wx fun e w' => e = .returned (.tuple #[nun P.f, .bool P.ok]) ∧ ∃ j : Nat, j ≤ 8 ∧ Hid (∃ F' G' i, i ≤ 1 ∧ Td R base w0 W0 w' p q t g F G F' G' ⟨P.sl, P.fr, A1.wr + j⟩ P.last ⟨P.sl, P.fr, A2.wr + i⟩ P.last)) := fun wx hx => by
    obtain ⟨G', i, hi, hD⟩ := hx.out
    have := C.unit wx p q F A1 l hD.pr.rep hD.pr.good1 hok (by omega)
    rw [hsl, hfr, hP2] at this
    refine this.mono ?_
    rintro e w' ⟨rfl, j, hj, hl⟩
    obtain ⟨F', h'⟩ := hD.turn1 hl (hg1 _)
    exact ⟨rfl, j, hj, F', G', i, hi, h'⟩
  have cW : Hid (∀ wx j, j ≤ 8 → Hid (∃ F' G' i, i ≤ 1 ∧ Td R base w0 W0 wx p q t g F G F' G' ⟨P.sl, P.fr, A1.wr + j⟩ P.last ⟨P.sl, P.fr, A2.wr + i⟩ P.last) → Calls Tryz.prog 8 #[ptr p] wx fun e w' => e = .returned (nun (A1.wr + j)) ∧ Hid (∃ F' G' i, i ≤ 1 ∧ Td R base w0 W0 w' p q t g F G F' G' ⟨P.sl, P.fr, A1.wr + j⟩ P.last ⟨P.sl, P.fr, A2.wr + i⟩ P.last)) := fun wx j hj hx => by
    obtain ⟨F', G', i, hi, hD⟩ := hx.out
    refine (C.writes q P.last wx p F' _ hD.pr.rep (by show A1.wr + j ≤ _; omega)).mono ?_
    rintro e w' ⟨rfl, hb⟩
    exact ⟨rfl, F', G', i, hi, hD.below C hb⟩
  have HEND : Hid (∀ wx j, j ≤ 8 → Hid (∃ F' G' i, i ≤ 1 ∧ Td R base w0 W0 wx p q t g F G F' G' ⟨P.sl, P.fr, A1.wr + j⟩ P.last ⟨P.sl, P.fr, A2.wr + i⟩ P.last) → Tn R base w0 w wx p q t g F G (A1.wr + 8) (A2.wr + 1)) := fun wx j hj hx => by
    obtain ⟨F', G', i, hi, hD⟩ := hx.out
    exact HOUT.out _ _ _ ⟨F', G', _, _, _, hD, rfl, rfl, by show A1.wr + j ≤ _; omega, by show A2.wr + i ≤ _; omega, hokP⟩
  have hwI : (A1.wr : Int) ≤ 999999000 := by omega
  obtain ⟨v1, hv1⟩ : ∃ v1, A1.wr = v1 := ⟨_, rfl⟩
  have hv8 : v1 ≤ 999999000 := by omega
  rw [hv1] at cW0 hwI ⊢
  simp only [hv1] at cA cW HEND
  obtain ⟨Pf, Po, Ps, Pr, Pl⟩ := P
  dsimp only at cR cA cW HEND
  have hff : ((Pf : Int) == (Pf : Int)) = true := beq_self_eq_true _
  have hoo : (Po == Po) = true := beq_self_eq_true _
  clear hP hE hk hn hok hokP hg1 hg2 hW0 hB0 hD0 hXF hA0 hsl hfr hw1 hw2 hP2 hv1 hxb C
  generalize k % 6 = m at *
  rcases hm with rfl | rfl
  · go_enter Tryz.func13, Tryz.ntmps13
    go_upto_region 1 with fail
    rw [HW0.out, HXB.out]
    go_wp2_with fail
    refine cW0.out.mono ?_
    rintro e w1 ⟨rfl, hb1⟩
    have HB1 := Hid.mk' hb1
    have hd1 := HD0.out.below HC.out hb1
    have ha1 := HACT.out _ _ _ _ _ _ _ hd1
    have y0 := ha1.cells.1
    have y1 := ha1.cells.2
    clear hb1 hd1 ha1 x0 x1
    go_wp2_with (first | (go_at_call 9; refine (cK.out _).mono ?_; rintro e w2 ⟨rfl, hw2⟩; subst w2) | fail)
    refine (cR.out _ HB1.out).mono ?_
    rintro e w3 ⟨rfl, HQ3⟩
    clear y0 y1
    go_wp2_with fail
    refine (cA.out _ HQ3).mono ?_
    rintro e w4 ⟨rfl, j, hj, HQ4⟩
    have hjI : (j : Int) ≤ 8 := by omega
    clear HQ3
    go_wp2_with fail
    refine (cW.out _ j hj HQ4).mono ?_
    rintro e w5 ⟨rfl, HQ5⟩
    have hs5 : (((v1 + j : Nat) : Int) - (v1 : Int)) = (j : Int) := by omega
    have hd5 : decide ((v1 : Int) + (j : Int) - (v1 : Int) ≤ 8) = true := decide_eq_true (by omega)
    go_wp2
    go_ret
    exact ⟨rfl, HEND.out _ j hj HQ5⟩
  · go_enter Tryz.func13, Tryz.ntmps13
    go_upto_region 1 with fail
    rw [HW0.out, HXB.out]
    go_wp2_with fail
    refine cW0.out.mono ?_
    rintro e w1 ⟨rfl, hb1⟩
    have HB1 := Hid.mk' hb1
    have hd1 := HD0.out.below HC.out hb1
    have ha1 := HACT.out _ _ _ _ _ _ _ hd1
    have y0 := ha1.cells.1
    have y1 := ha1.cells.2
    clear hb1 hd1 ha1 x0 x1
    go_wp2_with (first | (go_at_call 9; refine (cK.out _).mono ?_; rintro e w2 ⟨rfl, hw2⟩; subst w2) | fail)
    refine (cR.out _ HB1.out).mono ?_
    rintro e w3 ⟨rfl, HQ3⟩
    clear y0 y1
    go_wp2_with fail
    refine (cA.out _ HQ3).mono ?_
    rintro e w4 ⟨rfl, j, hj, HQ4⟩
    have hjI : (j : Int) ≤ 8 := by omega
    clear HQ3
    go_wp2_with fail
    refine (cW.out _ j hj HQ4).mono ?_
    rintro e w5 ⟨rfl, HQ5⟩
    have hs5 : (((v1 + j : Nat) : Int) - (v1 : Int)) = (j : Int) := by omega
    have hd5 : decide ((v1 : Int) + (j : Int) - (v1 : Int) ≤ 8) = true := decide_eq_true (by omega)
    go_wp2
    go_ret
    exact ⟨rfl, HEND.out _ j hj HQ5⟩

end Sw
end Go.Proofs.YthabnombfbehkaaGreatDoor
