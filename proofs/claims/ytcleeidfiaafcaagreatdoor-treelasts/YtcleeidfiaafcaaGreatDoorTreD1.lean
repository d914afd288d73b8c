import Derived.Test.YtcleeidfiaafcaaGreatDoorTreD
/- One act: Add, Cut. -/
namespace Go.Proofs.YtcleeidfiaafcaaGreatDoor
set_option linter.ambiguousOpen false
open Go.RowKit
namespace Tr
open An Rg Ft Lv
set_option linter.unusedSimpArgs false
set_option linter.unusedVariables false

theorem addT_pl (S : List Slt) (last i us ub : Int) (h : (addT S last i us ub).no = 0) : (addT S last i us ub).pl = -1 := by
  unfold addT at h ⊢
  repeat' split at h
  all_goals simp_all

theorem cutT_pl (S : List Slt) (last i : Int) (h : (cutT S last i).no = 0) : (cutT S last i).pl = -1 := by
  unfold cutT cutU at h ⊢
  repeat' split at h
  all_goals simp_all

theorem errP_iface (no : Nat) (pl : Int) (h : no ≠ 0) : ∃ T V, errP no pl = .iface T V := by
  unfold errP
  split
  · obtain ⟨m, rfl⟩ : ∃ m, no = m + 1 := ⟨no - 1, by omega⟩
    exact ⟨_, _, rfl⟩
  · exact ⟨_, _, rfl⟩

set_option maxRecDepth 100000 in
set_option maxHeartbeats 4000000 in
theorem does_add {Rep : World → Nat → (Nat → Prop) → Arn → Prop} {R : RepTy} (C : TreeCW Rep R) (base : Nat) (w0 w : World) (p q t g : Nat) (F G : Nat → Prop) (A1 A2 : Arn) (l k n us ub : Int) (s : Slt)
    (hP : Tp R base w0 w p q t g F G A1 l A2 l) (hsl : A1.sl = A2.sl) (hfr : A1.fr = A2.fr) (hw1 : A1.wr ≤ 999999000) (hw2 : A2.wr ≤ 999999000) (hE : Er.Handle w0) (hk : I64 k) (hn : I64 n) (hus : I64 us) (hub : I64 ub) (hm : k % 6 = 0 ∨ k % 6 = 1) :
    Calls Tryz.prog 10 #[ptr p, ptr q, ptr t, actTV k n us ub s] w fun e w' => e = .returned (.bool true) ∧ Tn R base w0 w w' p q t g F G (A1.wr + 8) (A2.wr + 1) := by
  have hB0 : Below w.heap.size w (w.alloc (.cells (actT k n us ub s).toArray 42)) := (Below.refl _ _).alloc (Nat.le_refl _) _
  have hA0 : LoneT (w.alloc (.cells (actT k n us ub s).toArray 42)) w.heap.size k n us ub s := heap_alloc_new _ _
  obtain ⟨W0, hW0⟩ : ∃ W0, w.alloc (.cells (actT k n us ub s).toArray 42) = W0 := ⟨_, rfl⟩
  rw [hW0] at hB0 hA0
  have HW0 := Hid.mk' hW0
  obtain ⟨xb, hxb⟩ : ∃ xb, w.heap.size = xb := ⟨_, rfl⟩
  have hXF : ¬ F xb ∧ ¬ G xb := ⟨fun e => by have := (C.keep q l).lt hP.rep _ e; omega, fun e => by have := (hP.ref.lt _ e).2; omega⟩
  rw [hxb] at hA0
  have HXB := Hid.mk' hxb
  have hD0 : Td R base w0 W0 W0 p q t g F G F G A1 l A2 l := Td.start (hP.below C hB0)
  have HACT : Hid (∀ w' F' G' B1 m1 B2 m2, Td R base w0 W0 w' p q t g F G F' G' B1 m1 B2 m2 → LoneT w' xb k n us ub s) := fun w' F' G' B1 m1 B2 m2 h => h.blk hA0 hXF
  have HOUT : Hid (∀ w' n1 n2, Tn R base w0 W0 w' p q t g F G n1 n2 → Tn R base w0 w w' p q t g F G n1 n2) := fun w' n1 n2 ⟨F', G', B1, B2, m, h1, h2⟩ => ⟨F', G', B1, B2, m, h1.from hB0, h2⟩
  have HHAN : Hid (∀ w', Below w0.heap.size w0 w' → Er.Handle w') := fun w' hb => hE.below hb
  have HC := Hid.mk' C
  have HD0 := Hid.mk' hD0
  have x0 := hA0.cells.1
  have x1 := hA0.cells.2.1
  have HLK := Hid.mk' hA0.link
  have cK : Hid (∀ wx, Calls Tryz.prog 22 #[nu k, nu 6] wx fun e w' => e = .returned (nu (k % 6)) ∧ w' = wx) := fun wx => pickT k 6 wx (by decide) (by decide) hk
  have cW0 := Hid.mk' (C.writes q l W0 p F A1 hD0.pr.rep (by omega))
  obtain ⟨P, hP2⟩ : ∃ P, addT A2.sl l n us ub = P := ⟨_, rfl⟩
  have hno := addT_no A2.sl l n us ub
  have hlen := addT_len A2.sl l n us ub
  have hpl0 := addT_pl A2.sl l n us ub
  rw [hP2] at hno hlen hpl0
  have hl2 : A2.sl.length = 32 := hP.good2.len
  have cR : Hid (∀ wx, Below W0.heap.size W0 wx → Calls Tryz.prog 23 #[ptr t, nu n, lkU us ub] wx fun e w' => e = .returned (.tuple #[nun P.no, nu P.pl]) ∧ Hid (∃ G', Td R base w0 W0 w' p q t g F G F G' A1 l ⟨P.sl, A2.fr, A2.wr⟩ P.last) ∧ w'.cell? ⟨xb, 1, none⟩ = some (nu n) ∧ w'.rangeAt xb 2 [nu us, nu ub]) := fun wx hb => by
    have hD := HD0.out.below C hb
    have := add_r base wx t g G A2 l n us ub hD.pr.ref hl2
    rw [hP2] at this
    refine this.mono ?_
    rintro e w' ⟨rfl, hl⟩
    obtain ⟨G', h'⟩ := hD.turn2 C hl ⟨hlen.trans hl2, hD.pr.good2.nd, hD.pr.good2.lt⟩
    have ha := HACT.out _ _ _ _ _ _ _ h'
    exact ⟨rfl, ⟨G', h'⟩, ha.cells.2.1, ha.link⟩
  have cA : Hid (∀ wx, Hid (∃ G', Td R base w0 W0 wx p q t g F G F G' A1 l ⟨P.sl, A2.fr, A2.wr⟩ P.last) → Calls Tryz.prog 24 #[ptr q, nu n, lkU us ub] wx fun e w' => e = .returned (errP P.no P.pl) ∧ ∃ j : Nat, j ≤ 8 ∧ (P.no ≠ 0 → j = 0) ∧ Hid (∃ F' G', Td R base w0 W0 w' p q t g F G F' G' ⟨P.sl, A1.fr, A1.wr + j⟩ P.last ⟨P.sl, A2.fr, A2.wr⟩ P.last)) := fun wx hx => by
    obtain ⟨G', hD⟩ := hx.out
    have := C.add wx p q F A1 l n us ub hD.pr.rep hD.pr.good1 (by omega) hn hus hub
    rw [hsl, hP2] at this
    refine this.mono ?_
    rintro e w' ⟨rfl, j, hj, hj0, hl⟩
    obtain ⟨F', h'⟩ := hD.turn1 hl ⟨hlen.trans hl2, hD.pr.good1.nd, hD.pr.good1.lt⟩
    exact ⟨rfl, j, hj, hj0, F', G', h'⟩
  have cW : Hid (∀ wx j, j ≤ 8 → Hid (∃ F' G', Td R base w0 W0 wx p q t g F G F' G' ⟨P.sl, A1.fr, A1.wr + j⟩ P.last ⟨P.sl, A2.fr, A2.wr⟩ P.last) → Calls Tryz.prog 7 #[ptr p] wx fun e w' => e = .returned (nun (A1.wr + j)) ∧ Hid (∃ F' G', Td R base w0 W0 w' p q t g F G F' G' ⟨P.sl, A1.fr, A1.wr + j⟩ P.last ⟨P.sl, A2.fr, A2.wr⟩ P.last)) := fun wx j hj hx => by
    obtain ⟨F', G', hD⟩ := hx.out
    refine (C.writes q P.last wx p F' _ hD.pr.rep (by show A1.wr + j ≤ _; omega)).mono ?_
    rintro e w' ⟨rfl, hb⟩
    exact ⟨rfl, F', G', hD.below C hb⟩
  have cT : Hid (∀ wx j, Hid (∃ F' G', Td R base w0 W0 wx p q t g F G F' G' ⟨P.sl, A1.fr, A1.wr + j⟩ P.last ⟨P.sl, A2.fr, A2.wr⟩ P.last) → Calls Tryz.prog 25 #[errP P.no P.pl, nun P.no, nu P.pl] wx fun e w' => e = .returned (.bool true) ∧ Hid (∃ F' G', Td R base w0 W0 w' p q t g F G F' G' ⟨P.sl, A1.fr, A1.wr + j⟩ P.last ⟨P.sl, A2.fr, A2.wr⟩ P.last)) := fun wx j hx => by
    obtain ⟨F', G', hD⟩ := hx.out
    refine (told17 P.no P.pl hno.1 hno.2 wx (HHAN.out _ hD.pr.bel)).mono ?_
    rintro e w' ⟨rfl, hb⟩
    exact ⟨rfl, F', G', hD.below C hb⟩
  have HEND : Hid (∀ wx j, j ≤ 8 → Hid (∃ F' G', Td R base w0 W0 wx p q t g F G F' G' ⟨P.sl, A1.fr, A1.wr + j⟩ P.last ⟨P.sl, A2.fr, A2.wr⟩ P.last) → Tn R base w0 w wx p q t g F G (A1.wr + 8) (A2.wr + 1)) := fun wx j hj hx => by
    obtain ⟨F', G', hD⟩ := hx.out
    exact HOUT.out _ _ _ ⟨F', G', _, _, _, hD, rfl, hfr, by show A1.wr + j ≤ _; omega, by show A2.wr ≤ _; omega⟩
  have hwI : (A1.wr : Int) ≤ 999999000 := by omega
  obtain ⟨v1, hv1⟩ : ∃ v1, A1.wr = v1 := ⟨_, rfl⟩
  have hv8 : v1 ≤ 999999000 := by omega
  rw [hv1] at cW0 hwI ⊢
  simp only [hv1] at cA cW cT HEND
  obtain ⟨Pn, Pp, Ps, Pl⟩ := P
  dsimp only at cR cA cW cT HEND hno hpl0
  clear hP hE hk hn hus hub hW0 hB0 hD0 hXF hA0 hsl hfr hw1 hw2 hP2 hlen hl2 hv1 hxb C
  generalize k % 6 = m at *
  rcases hm with rfl | rfl
  · go_enter Tryz.func10, Tryz.ntmps10
    go_upto_region 1 with fail
    rw [HW0.out, HXB.out]
    go_wp2_with fail
    refine cW0.out.mono ?_
    rintro e w1 ⟨rfl, hb1⟩
    have HB1 := Hid.mk' hb1
    have hd1 := HD0.out.below HC.out hb1
    have ha1 := HACT.out _ _ _ _ _ _ _ hd1
    have y0 := ha1.cells.1
    have y1 := ha1.cells.2.1
    have HL1 := Hid.mk' ha1.link
    clear hb1 hd1 ha1 x0 x1 HLK
    go_wp2_with (first | (go_at_call 22; refine (cK.out _).mono ?_; rintro e w2 ⟨rfl, hw2⟩; subst w2) | (refine wpList_load_lnl rfl _ rfl xb 2 rfl us ub HL1.out ?_) | fail)
    refine (cR.out _ HB1.out).mono ?_
    rintro e w3 ⟨rfl, HQ3, y1, hl3⟩
    have HL3 := Hid.mk' hl3
    clear hl3 y0
    go_wp2_with (first | (refine wpList_load_lnl rfl _ rfl xb 2 rfl us ub HL3.out ?_) | fail)
    refine (cA.out _ HQ3).mono ?_
    rintro e w4 ⟨rfl, j, hj, hj0, HQ4⟩
    have HJ0 := Hid.mk' hj0
    have hjI : (j : Int) ≤ 8 := by omega
    clear hj0 HQ3 HL3 HL1
    by_cases hz : Pn = 0
    · have hp1 := hpl0 hz
      subst hz
      subst hp1
      rw [show errP 0 (-1) = .nilIface from rfl] at cT ⊢
      go_wp2_with fail
      refine (cW.out _ j hj HQ4).mono ?_
      rintro e w5 ⟨rfl, HQ5⟩
      have hs5 : (((v1 + j : Nat) : Int) - (v1 : Int)) = (j : Int) := by omega
      go_wp2_with fail
      refine (cT.out _ j HQ5).mono ?_
      rintro e w6 ⟨rfl, HQ6⟩
      go_wp2
      go_ret
      exact ⟨rfl, HEND.out _ j hj HQ6⟩
    · obtain ⟨T9, V9, hV9⟩ := errP_iface Pn Pp hz
      rw [hV9] at cT ⊢
      have hjz := HJ0.out hz
      subst hjz
      clear hV9 hz
      go_wp2_with fail
      refine (cW.out _ 0 hj HQ4).mono ?_
      rintro e w5 ⟨rfl, HQ5⟩
      go_wp2_with fail
      refine (cT.out _ 0 HQ5).mono ?_
      rintro e w6 ⟨rfl, HQ6⟩
      go_wp2
      go_ret
      exact ⟨rfl, HEND.out _ 0 hj HQ6⟩
  · go_enter Tryz.func10, Tryz.ntmps10
    go_upto_region 1 with fail
    rw [HW0.out, HXB.out]
    go_wp2_with fail
    refine cW0.out.mono ?_
    rintro e w1 ⟨rfl, hb1⟩
    have HB1 := Hid.mk' hb1
    have hd1 := HD0.out.below HC.out hb1
    have ha1 := HACT.out _ _ _ _ _ _ _ hd1
    have y0 := ha1.cells.1
    have y1 := ha1.cells.2.1
    have HL1 := Hid.mk' ha1.link
    clear hb1 hd1 ha1 x0 x1 HLK
    go_wp2_with (first | (go_at_call 22; refine (cK.out _).mono ?_; rintro e w2 ⟨rfl, hw2⟩; subst w2) | (refine wpList_load_lnl rfl _ rfl xb 2 rfl us ub HL1.out ?_) | fail)
    refine (cR.out _ HB1.out).mono ?_
    rintro e w3 ⟨rfl, HQ3, y1, hl3⟩
    have HL3 := Hid.mk' hl3
    clear hl3 y0
    go_wp2_with (first | (refine wpList_load_lnl rfl _ rfl xb 2 rfl us ub HL3.out ?_) | fail)
    refine (cA.out _ HQ3).mono ?_
    rintro e w4 ⟨rfl, j, hj, hj0, HQ4⟩
    have HJ0 := Hid.mk' hj0
    have hjI : (j : Int) ≤ 8 := by omega
    clear hj0 HQ3 HL3 HL1
    by_cases hz : Pn = 0
    · have hp1 := hpl0 hz
      subst hz
      subst hp1
      rw [show errP 0 (-1) = .nilIface from rfl] at cT ⊢
      go_wp2_with fail
      refine (cW.out _ j hj HQ4).mono ?_
      rintro e w5 ⟨rfl, HQ5⟩
      have hs5 : (((v1 + j : Nat) : Int) - (v1 : Int)) = (j : Int) := by omega
      go_wp2_with fail
      refine (cT.out _ j HQ5).mono ?_
      rintro e w6 ⟨rfl, HQ6⟩
      go_wp2
      go_ret
      exact ⟨rfl, HEND.out _ j hj HQ6⟩
    · obtain ⟨T9, V9, hV9⟩ := errP_iface Pn Pp hz
      rw [hV9] at cT ⊢
      have hjz := HJ0.out hz
      subst hjz
      clear hV9 hz
      go_wp2_with fail
      refine (cW.out _ 0 hj HQ4).mono ?_
      rintro e w5 ⟨rfl, HQ5⟩
      go_wp2_with fail
      refine (cT.out _ 0 HQ5).mono ?_
      rintro e w6 ⟨rfl, HQ6⟩
      go_wp2
      go_ret
      exact ⟨rfl, HEND.out _ 0 hj HQ6⟩

set_option maxRecDepth 100000 in
set_option maxHeartbeats 4000000 in
theorem does_cut {Rep : World → Nat → (Nat → Prop) → Arn → Prop} {R : RepTy} (C : TreeCW Rep R) (base : Nat) (w0 w : World) (p q t g : Nat) (F G : Nat → Prop) (A1 A2 : Arn) (l k n us ub : Int) (s : Slt)
    (hP : Tp R base w0 w p q t g F G A1 l A2 l) (hsl : A1.sl = A2.sl) (hfr : A1.fr = A2.fr) (hw1 : A1.wr ≤ 999999000) (hw2 : A2.wr ≤ 999999000) (hE : Er.Handle w0) (hk : I64 k) (hn : I64 n) (hus : I64 us) (hub : I64 ub) (hm : k % 6 = 2) :
    Calls Tryz.prog 10 #[ptr p, ptr q, ptr t, actTV k n us ub s] w fun e w' => e = .returned (.bool true) ∧ Tn R base w0 w w' p q t g F G (A1.wr + 8) (A2.wr + 1) := by
  have hB0 : Below w.heap.size w (w.alloc (.cells (actT k n us ub s).toArray 42)) := (Below.refl _ _).alloc (Nat.le_refl _) _
  have hA0 : LoneT (w.alloc (.cells (actT k n us ub s).toArray 42)) w.heap.size k n us ub s := heap_alloc_new _ _
  obtain ⟨W0, hW0⟩ : ∃ W0, w.alloc (.cells (actT k n us ub s).toArray 42) = W0 := ⟨_, rfl⟩
  rw [hW0] at hB0 hA0
  have HW0 := Hid.mk' hW0
  obtain ⟨xb, hxb⟩ : ∃ xb, w.heap.size = xb := ⟨_, rfl⟩
  have hXF : ¬ F xb ∧ ¬ G xb := ⟨fun e => by have := (C.keep q l).lt hP.rep _ e; omega, fun e => by have := (hP.ref.lt _ e).2; omega⟩
  rw [hxb] at hA0
  have HXB := Hid.mk' hxb
  have hD0 : Td R base w0 W0 W0 p q t g F G F G A1 l A2 l := Td.start (hP.below C hB0)
  have HACT : Hid (∀ w' F' G' B1 m1 B2 m2, Td R base w0 W0 w' p q t g F G F' G' B1 m1 B2 m2 → LoneT w' xb k n us ub s) := fun w' F' G' B1 m1 B2 m2 h => h.blk hA0 hXF
  have HOUT : Hid (∀ w' n1 n2, Tn R base w0 W0 w' p q t g F G n1 n2 → Tn R base w0 w w' p q t g F G n1 n2) := fun w' n1 n2 ⟨F', G', B1, B2, m, h1, h2⟩ => ⟨F', G', B1, B2, m, h1.from hB0, h2⟩
  have HHAN : Hid (∀ w', Below w0.heap.size w0 w' → Er.Handle w') := fun w' hb => hE.below hb
  have HC := Hid.mk' C
  have HD0 := Hid.mk' hD0
  have x0 := hA0.cells.1
  have x1 := hA0.cells.2.1
  have HLK := Hid.mk' hA0.link
  have cK : Hid (∀ wx, Calls Tryz.prog 22 #[nu k, nu 6] wx fun e w' => e = .returned (nu (k % 6)) ∧ w' = wx) := fun wx => pickT k 6 wx (by decide) (by decide) hk
  have cW0 := Hid.mk' (C.writes q l W0 p F A1 hD0.pr.rep (by omega))
  obtain ⟨P, hP2⟩ : ∃ P, cutT A2.sl l n = P := ⟨_, rfl⟩
  have hno := cutT_no A2.sl l n
  have hlen := cutT_len A2.sl l n
  have hpl0 := cutT_pl A2.sl l n
  rw [hP2] at hno hlen hpl0
  have hl2 : A2.sl.length = 32 := hP.good2.len
  have cR : Hid (∀ wx, Below W0.heap.size W0 wx → Calls Tryz.prog 26 #[ptr t, nu n] wx fun e w' => e = .returned (.tuple #[nun P.no, nu P.pl]) ∧ Hid (∃ G', Td R base w0 W0 w' p q t g F G F G' A1 l ⟨P.sl, A2.fr, A2.wr⟩ P.last) ∧ w'.cell? ⟨xb, 1, none⟩ = some (nu n) ∧ w'.rangeAt xb 2 [nu us, nu ub]) := fun wx hb => by
    have hD := HD0.out.below C hb
    have := cut_r base wx t g G A2 l n hD.pr.ref hl2
    rw [hP2] at this
    refine this.mono ?_
    rintro e w' ⟨rfl, hl⟩
    obtain ⟨G', h'⟩ := hD.turn2 C hl ⟨hlen.trans hl2, hD.pr.good2.nd, hD.pr.good2.lt⟩
    have ha := HACT.out _ _ _ _ _ _ _ h'
    exact ⟨rfl, ⟨G', h'⟩, ha.cells.2.1, ha.link⟩
  have cA : Hid (∀ wx, Hid (∃ G', Td R base w0 W0 wx p q t g F G F G' A1 l ⟨P.sl, A2.fr, A2.wr⟩ P.last) → Calls Tryz.prog 27 #[ptr q, nu n] wx fun e w' => e = .returned (errP P.no P.pl) ∧ ∃ j : Nat, j ≤ 8 ∧ (P.no ≠ 0 → j = 0) ∧ Hid (∃ F' G', Td R base w0 W0 w' p q t g F G F' G' ⟨P.sl, A1.fr, A1.wr + j⟩ P.last ⟨P.sl, A2.fr, A2.wr⟩ P.last)) := fun wx hx => by
    obtain ⟨G', hD⟩ := hx.out
    have := C.cut wx p q F A1 l n hD.pr.rep hD.pr.good1 (by omega) hn
    rw [hsl, hP2] at this
    refine this.mono ?_
    rintro e w' ⟨rfl, j, hj, hj0, hl⟩
    obtain ⟨F', h'⟩ := hD.turn1 hl ⟨hlen.trans hl2, hD.pr.good1.nd, hD.pr.good1.lt⟩
    exact ⟨rfl, j, hj, hj0, F', G', h'⟩
  have cW : Hid (∀ wx j, j ≤ 8 → Hid (∃ F' G', Td R base w0 W0 wx p q t g F G F' G' ⟨P.sl, A1.fr, A1.wr + j⟩ P.last ⟨P.sl, A2.fr, A2.wr⟩ P.last) → Calls Tryz.prog 7 #[ptr p] wx fun e w' => e = .returned (nun (A1.wr + j)) ∧ Hid (∃ F' G', Td R base w0 W0 w' p q t g F G F' G' ⟨P.sl, A1.fr, A1.wr + j⟩ P.last ⟨P.sl, A2.fr, A2.wr⟩ P.last)) := fun wx j hj hx => by
    obtain ⟨F', G', hD⟩ := hx.out
    refine (C.writes q P.last wx p F' _ hD.pr.rep (by show A1.wr + j ≤ _; omega)).mono ?_
    rintro e w' ⟨rfl, hb⟩
    exact ⟨rfl, F', G', hD.below C hb⟩
  have cT : Hid (∀ wx j, Hid (∃ F' G', Td R base w0 W0 wx p q t g F G F' G' ⟨P.sl, A1.fr, A1.wr + j⟩ P.last ⟨P.sl, A2.fr, A2.wr⟩ P.last) → Calls Tryz.prog 25 #[errP P.no P.pl, nun P.no, nu P.pl] wx fun e w' => e = .returned (.bool true) ∧ Hid (∃ F' G', Td R base w0 W0 w' p q t g F G F' G' ⟨P.sl, A1.fr, A1.wr + j⟩ P.last ⟨P.sl, A2.fr, A2.wr⟩ P.last)) := fun wx j hx => by
    obtain ⟨F', G', hD⟩ := hx.out
    refine (told17 P.no P.pl hno.1 hno.2 wx (HHAN.out _ hD.pr.bel)).mono ?_
    rintro e w' ⟨rfl, hb⟩
    exact ⟨rfl, F', G', hD.below C hb⟩
  have HEND : Hid (∀ wx j, j ≤ 8 → Hid (∃ F' G', Td R base w0 W0 wx p q t g F G F' G' ⟨P.sl, A1.fr, A1.wr + j⟩ P.last ⟨P.sl, A2.fr, A2.wr⟩ P.last) → Tn R base w0 w wx p q t g F G (A1.wr + 8) (A2.wr + 1)) := fun wx j hj hx => by
    obtain ⟨F', G', hD⟩ := hx.out
    exact HOUT.out _ _ _ ⟨F', G', _, _, _, hD, rfl, hfr, by show A1.wr + j ≤ _; omega, by show A2.wr ≤ _; omega⟩
  have hwI : (A1.wr : Int) ≤ 999999000 := by omega
  obtain ⟨v1, hv1⟩ : ∃ v1, A1.wr = v1 := ⟨_, rfl⟩
  have hv8 : v1 ≤ 999999000 := by omega
  rw [hv1] at cW0 hwI ⊢
  simp only [hv1] at cA cW cT HEND
  obtain ⟨Pn, Pp, Ps, Pl⟩ := P
  dsimp only at cR cA cW cT HEND hno hpl0
  clear hP hE hk hn hus hub hW0 hB0 hD0 hXF hA0 hsl hfr hw1 hw2 hP2 hlen hl2 hv1 hxb C
  generalize k % 6 = m at *
  subst hm
  go_enter Tryz.func10, Tryz.ntmps10
  go_upto_region 1 with fail
  rw [HW0.out, HXB.out]
  go_wp2_with fail
  refine cW0.out.mono ?_
  rintro e w1 ⟨rfl, hb1⟩
  have HB1 := Hid.mk' hb1
  have hd1 := HD0.out.below HC.out hb1
  have ha1 := HACT.out _ _ _ _ _ _ _ hd1
  have y0 := ha1.cells.1
  have y1 := ha1.cells.2.1
  have HL1 := Hid.mk' ha1.link
  clear hb1 hd1 ha1 x0 x1 HLK
  go_wp2_with (first | (go_at_call 22; refine (cK.out _).mono ?_; rintro e w2 ⟨rfl, hw2⟩; subst w2) | (refine wpList_load_lnl rfl _ rfl xb 2 rfl us ub HL1.out ?_) | fail)
  refine (cR.out _ HB1.out).mono ?_
  rintro e w3 ⟨rfl, HQ3, y1, hl3⟩
  have HL3 := Hid.mk' hl3
  clear hl3 y0
  go_wp2_with (first | (refine wpList_load_lnl rfl _ rfl xb 2 rfl us ub HL3.out ?_) | fail)
  refine (cA.out _ HQ3).mono ?_
  rintro e w4 ⟨rfl, j, hj, hj0, HQ4⟩
  have HJ0 := Hid.mk' hj0
  have hjI : (j : Int) ≤ 8 := by omega
  clear hj0 HQ3 HL3 HL1
  by_cases hz : Pn = 0
  · have hp1 := hpl0 hz
    subst hz
    subst hp1
    rw [show errP 0 (-1) = .nilIface from rfl] at cT ⊢
    go_wp2_with fail
    refine (cW.out _ j hj HQ4).mono ?_
    rintro e w5 ⟨rfl, HQ5⟩
    have hs5 : (((v1 + j : Nat) : Int) - (v1 : Int)) = (j : Int) := by omega
    go_wp2_with fail
    refine (cT.out _ j HQ5).mono ?_
    rintro e w6 ⟨rfl, HQ6⟩
    go_wp2
    go_ret
    exact ⟨rfl, HEND.out _ j hj HQ6⟩
  · obtain ⟨T9, V9, hV9⟩ := errP_iface Pn Pp hz
    rw [hV9] at cT ⊢
    have hjz := HJ0.out hz
    subst hjz
    clear hV9 hz
    go_wp2_with fail
    refine (cW.out _ 0 hj HQ4).mono ?_
    rintro e w5 ⟨rfl, HQ5⟩
    go_wp2_with fail
    refine (cT.out _ 0 HQ5).mono ?_
    rintro e w6 ⟨rfl, HQ6⟩
    go_wp2
    go_ret
    exact ⟨rfl, HEND.out _ 0 hj HQ6⟩
end Tr
end Go.Proofs.YtcleeidfiaafcaaGreatDoor
