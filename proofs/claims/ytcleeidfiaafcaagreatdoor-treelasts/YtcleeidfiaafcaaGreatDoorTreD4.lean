import Derived.Test.YtcleeidfiaafcaaGreatDoorTreD
/- One act: what is gone through. -/
namespace Go.Proofs.YtcleeidfiaafcaaGreatDoor
set_option linter.ambiguousOpen false
open Go.RowKit
namespace Tr
open An Rg Ft Lv
set_option linter.unusedSimpArgs false
set_option linter.unusedVariables false

/-- An iterator was got, from the world W0 on. -/
def Qi (W0 : World) (L : List Nat) (wx : World) (gf : Nat) (lb : Array Value) : Prop := Below W0.heap.size W0 wx ∧ ∃ X, IterA wx (.func (.func gf) #[] lb) X L

/-- And a list. -/
def Qr (W0 : World) (L : List Nat) (wx : World) (gf : Nat) (lb : Array Value) (v : Value) : Prop := Below W0.heap.size W0 wx ∧ (∃ X, IterA wx (.func (.func gf) #[] lb) X L) ∧ RdN wx v L

theorem iter_open {w : World} {fv : Value} {X : Nat → Prop} {L : List Nat} (h : IterA w fv X L) : ∃ gf lb, fv = .func (.func gf) #[] lb := by
  obtain ⟨gf, lb, k, rfl, _⟩ := h
  exact ⟨gf, lb, rfl⟩

theorem undL_len (S : List Slt) (i : Int) : (undL S i).length ≤ 32 := by
  unfold undL
  split
  · obtain ⟨h1, h2, _⟩ := und_ok S 33 i.toNat [] (by omega) List.nodup_nil (by simp)
    exact nodup_few 32 _ h1 h2
  · simp

theorem kidsL_len (S : List Slt) (i : Int) : (kidsL S i).length ≤ 32 := by
  unfold kidsL
  split
  · exact allL_len _ _
  · simp

set_option maxRecDepth 1000000 in
set_option maxHeartbeats 8000000 in
theorem does_gone {Rep : World → Nat → (Nat → Prop) → Arn → Prop} {R : RepTy} (C : TreeCW Rep R) (base : Nat) (w0 w : World) (p q t g : Nat) (F G : Nat → Prop) (A1 A2 : Arn) (l k n us ub : Int) (s : Slt)
    (hP : Tp R base w0 w p q t g F G A1 l A2 l) (hsl : A1.sl = A2.sl) (hfr : A1.fr = A2.fr) (hw1 : A1.wr ≤ 999999000) (hw2 : A2.wr ≤ 999999000) (hE : Er.Handle w0) (hk : I64 k) (hn : I64 n) (hus : I64 us) (hub : I64 ub) (hm : k % 6 = 4) :
    Calls Tryz.prog 10 #[ptr p, ptr q, ptr t, actTV k n us ub s] w fun e w' => e = .returned (.bool true) ∧ Tn R base w0 w w' p q t g F G (A1.wr + 8) (A2.wr + 1) := by
  have hB0 : Below w.heap.size w (w.alloc (.cells (actT k n us ub s).toArray 42)) := (Below.refl _ _).alloc (Nat.le_refl _) _
  have hA0 : LoneT (w.alloc (.cells (actT k n us ub s).toArray 42)) w.heap.size k n us ub s := heap_alloc_new _ _
  obtain ⟨W0, hW0⟩ : ∃ W0, w.alloc (.cells (actT k n us ub s).toArray 42) = W0 := ⟨_, rfl⟩
  rw [hW0] at hB0 hA0
  have HW0 := Hid.mk' hW0
  obtain ⟨xb, hxb⟩ : ∃ xb, w.heap.size = xb := ⟨_, rfl⟩
  have hXF : ¬ F xb ∧ ¬ G xb := ⟨fun e => by have := (C.keep q l).lt hP.rep _ e; omega, fun e => by have := (hP.ref.lt _ e).2; omega⟩
  rw [hxb] at hA0
  have HXB := Hid.mk' hxb
  have hD0 : Td R base w0 W0 W0 p q t g F G F G A1 l A2 l := Td.start (hP.below C hB0)
  have HACT : Hid (∀ w' F' G' B1 m1 B2 m2, Td R base w0 W0 w' p q t g F G F' G' B1 m1 B2 m2 → LoneT w' xb k n us ub s) := fun w' F' G' B1 m1 B2 m2 h => h.blk hA0 hXF
  have HOUT : Hid (∀ w' n1 n2, Tn R base w0 W0 w' p q t g F G n1 n2 → Tn R base w0 w w' p q t g F G n1 n2) := fun w' n1 n2 ⟨F', G', B1, B2, m, h1, h2⟩ => ⟨F', G', B1, B2, m, h1.from hB0, h2⟩
  have HHAN : Hid (∀ w', Below w0.heap.size w0 w' → Er.Handle w') := fun w' hb => hE.below hb
  have HC := Hid.mk' C
  have HD0 := Hid.mk' hD0
  have x0 := hA0.cells.1
  have x1 := hA0.cells.2.1
  have HLK := Hid.mk' hA0.link
  have cK : Hid (∀ wx, Calls Tryz.prog 22 #[nu k, nu 6] wx fun e w' => e = .returned (nu (k % 6)) ∧ w' = wx) := fun wx => pickT k 6 wx (by decide) (by decide) hk
  have cW : Hid (∀ wx, Below W0.heap.size W0 wx → Calls Tryz.prog 7 #[ptr p] wx fun e w' => e = .returned (nun A1.wr) ∧ w'.cell? ⟨xb, 1, none⟩ = some (nu n) ∧ Hid (Below W0.heap.size W0 w')) := fun wx hb => by
    refine (C.writes q l wx p F A1 (HD0.out.below C hb).pr.rep (by omega)).mono ?_
    rintro e w' ⟨rfl, hb'⟩
    have hbb : Below W0.heap.size W0 w' := hb.trans (hb'.mono hb.size)
    exact ⟨rfl, (HACT.out _ _ _ _ _ _ _ (HD0.out.below C hbb)).cells.2.1, hbb⟩
  have HCL : Hid (∀ wx, Below W0.heap.size W0 wx → wx.cell? ⟨xb, 1, none⟩ = some (nu n)) := fun wx hb => (HACT.out _ _ _ _ _ _ _ (HD0.out.below C hb)).cells.2.1
  have hl2 : A2.sl.length = 32 := hP.good2.len
  obtain ⟨L1, hL1⟩ : ∃ L1, allL A2.sl l = L1 := ⟨_, rfl⟩
  obtain ⟨L2, hL2⟩ : ∃ L2, kidsL A2.sl n = L2 := ⟨_, rfl⟩
  obtain ⟨L3, hL3⟩ : ∃ L3, undL A2.sl n = L3 := ⟨_, rfl⟩
  have fL1 : L1.length ≤ 32 := by rw [← hL1]; exact allL_len _ _
  have fL2 : L2.length ≤ 32 := by rw [← hL2]; exact kidsL_len _ _
  have fL3 : L3.length ≤ 32 := by rw [← hL3]; exact undL_len _ _
  have cR : Hid (∀ wx, Below W0.heap.size W0 wx → Calls Tryz.prog 14 #[ptr q] wx fun e w' => ∃ gf lb, e = .returned (.func (.func gf) #[] lb) ∧ w'.cell? ⟨xb, 1, none⟩ = some (nu n) ∧ Hid (Qi W0 L1 w' gf lb)) := fun wx hb => by
    have hD := HD0.out.below C hb
    have := C.roots wx p q F A1 l hD.pr.rep hD.pr.good1
    rw [hsl, hL1] at this
    refine this.mono ?_
    rintro e w' ⟨fv, X, rfl, hit, _, hb'⟩
    obtain ⟨gf, lb, rfl⟩ := iter_open hit
    have hbb : Below W0.heap.size W0 w' := hb.trans (hb'.mono hb.size)
    exact ⟨gf, lb, rfl, HCL.out w' hbb, hbb, X, hit⟩
  have rR : Hid (∀ wx gf lb, Hid (Qi W0 L1 wx gf lb) → Calls Tryz.prog 15 #[ptr t] wx fun e w' => ∃ a m c, e = .returned (.slice a m c) ∧ w'.cell? ⟨xb, 1, none⟩ = some (nu n) ∧ Hid (Qr W0 L1 w' gf lb (.slice a m c))) := fun wx gf lb hx => by
    obtain ⟨hb, X, hit⟩ := hx.out
    have hD := HD0.out.below C hb
    have := roots_r base wx t g G A2 l hD.pr.ref hl2
    rw [hL1] at this
    refine this.mono ?_
    rintro e w' ⟨v, rfl, ho, hb'⟩
    obtain ⟨a, c, rfl, _⟩ := Nm.own_shape ho
    have hbb : Below W0.heap.size W0 w' := hb.trans (hb'.mono hb.size)
    exact ⟨a, _, c, rfl, HCL.out w' hbb, hbb, ⟨X, hit.keep (Keep.of_below (F := fun _ => False) hb') (fun _ _ h => h)⟩, own_rdN ho⟩
  have gR : Hid (∀ wx gf lb a m c, Hid (Qr W0 L1 wx gf lb (.slice a m c)) → Calls Tryz.prog 13 #[.func (.func gf) #[] lb, .slice a m c] wx fun e w' => e = .returned (.bool true) ∧ w'.cell? ⟨xb, 1, none⟩ = some (nu n) ∧ Hid (Below W0.heap.size W0 w')) := fun wx gf lb a m c hx => by
    obtain ⟨hb, ⟨X, hit⟩, hr⟩ := hx.out
    refine (gone_any _ _ X L1 wx hit hr fL1).mono ?_
    rintro e w' ⟨rfl, hb'⟩
    have hbb : Below W0.heap.size W0 w' := hb.trans (hb'.mono hb.size)
    exact ⟨rfl, HCL.out w' hbb, hbb⟩
  have cK' : Hid (∀ wx, Below W0.heap.size W0 wx → Calls Tryz.prog 18 #[ptr q, nu n] wx fun e w' => ∃ gf lb, e = .returned (.func (.func gf) #[] lb) ∧ w'.cell? ⟨xb, 1, none⟩ = some (nu n) ∧ Hid (Qi W0 L2 w' gf lb)) := fun wx hb => by
    have hD := HD0.out.below C hb
    have := C.kids wx p q F A1 l n hD.pr.rep hD.pr.good1 hn
    rw [hsl, hL2] at this
    refine this.mono ?_
    rintro e w' ⟨fv, X, rfl, hit, _, hb'⟩
    obtain ⟨gf, lb, rfl⟩ := iter_open hit
    have hbb : Below W0.heap.size W0 w' := hb.trans (hb'.mono hb.size)
    exact ⟨gf, lb, rfl, HCL.out w' hbb, hbb, X, hit⟩
  have rK : Hid (∀ wx gf lb, Hid (Qi W0 L2 wx gf lb) → Calls Tryz.prog 19 #[ptr t, nu n] wx fun e w' => ∃ a m c, e = .returned (.slice a m c) ∧ w'.cell? ⟨xb, 1, none⟩ = some (nu n) ∧ Hid (Qr W0 L2 w' gf lb (.slice a m c))) := fun wx gf lb hx => by
    obtain ⟨hb, X, hit⟩ := hx.out
    have hD := HD0.out.below C hb
    have := kids_r base wx t g G A2 l n hD.pr.ref hl2
    rw [hL2] at this
    refine this.mono ?_
    rintro e w' ⟨v, rfl, ho, hb'⟩
    obtain ⟨a, c, rfl, _⟩ := Nm.own_shape ho
    have hbb : Below W0.heap.size W0 w' := hb.trans (hb'.mono hb.size)
    exact ⟨a, _, c, rfl, HCL.out w' hbb, hbb, ⟨X, hit.keep (Keep.of_below (F := fun _ => False) hb') (fun _ _ h => h)⟩, own_rdN ho⟩
  have gK : Hid (∀ wx gf lb a m c, Hid (Qr W0 L2 wx gf lb (.slice a m c)) → Calls Tryz.prog 13 #[.func (.func gf) #[] lb, .slice a m c] wx fun e w' => e = .returned (.bool true) ∧ w'.cell? ⟨xb, 1, none⟩ = some (nu n) ∧ Hid (Below W0.heap.size W0 w')) := fun wx gf lb a m c hx => by
    obtain ⟨hb, ⟨X, hit⟩, hr⟩ := hx.out
    refine (gone_any _ _ X L2 wx hit hr fL2).mono ?_
    rintro e w' ⟨rfl, hb'⟩
    have hbb : Below W0.heap.size W0 w' := hb.trans (hb'.mono hb.size)
    exact ⟨rfl, HCL.out w' hbb, hbb⟩
  have cU : Hid (∀ wx, Below W0.heap.size W0 wx → Calls Tryz.prog 16 #[ptr q, nu n] wx fun e w' => ∃ gf lb, e = .returned (.func (.func gf) #[] lb) ∧ w'.cell? ⟨xb, 1, none⟩ = some (nu n) ∧ Hid (Qi W0 L3 w' gf lb)) := fun wx hb => by
    have hD := HD0.out.below C hb
    have := C.under wx p q F A1 l n hD.pr.rep hD.pr.good1 hn
    rw [hsl, hL3] at this
    refine this.mono ?_
    rintro e w' ⟨fv, X, rfl, hit, _, hb'⟩
    obtain ⟨gf, lb, rfl⟩ := iter_open hit
    have hbb : Below W0.heap.size W0 w' := hb.trans (hb'.mono hb.size)
    exact ⟨gf, lb, rfl, HCL.out w' hbb, hbb, X, hit⟩
  have rU : Hid (∀ wx gf lb, Hid (Qi W0 L3 wx gf lb) → Calls Tryz.prog 17 #[ptr t, nu n] wx fun e w' => ∃ a m c, e = .returned (.slice a m c) ∧ w'.cell? ⟨xb, 1, none⟩ = some (nu n) ∧ Hid (Qr W0 L3 w' gf lb (.slice a m c))) := fun wx gf lb hx => by
    obtain ⟨hb, X, hit⟩ := hx.out
    have hD := HD0.out.below C hb
    have := under_r base wx t g G A2 l n hD.pr.ref hl2
    rw [hL3] at this
    refine this.mono ?_
    rintro e w' ⟨v, rfl, ho, hb'⟩
    obtain ⟨a, c, rfl, _⟩ := Nm.own_shape ho
    have hbb : Below W0.heap.size W0 w' := hb.trans (hb'.mono hb.size)
    exact ⟨a, _, c, rfl, HCL.out w' hbb, hbb, ⟨X, hit.keep (Keep.of_below (F := fun _ => False) hb') (fun _ _ h => h)⟩, own_rdN ho⟩
  have gU : Hid (∀ wx gf lb a m c, Hid (Qr W0 L3 wx gf lb (.slice a m c)) → Calls Tryz.prog 13 #[.func (.func gf) #[] lb, .slice a m c] wx fun e w' => e = .returned (.bool true) ∧ w'.cell? ⟨xb, 1, none⟩ = some (nu n) ∧ Hid (Below W0.heap.size W0 w')) := fun wx gf lb a m c hx => by
    obtain ⟨hb, ⟨X, hit⟩, hr⟩ := hx.out
    refine (gone_any _ _ X L3 wx hit hr fL3).mono ?_
    rintro e w' ⟨rfl, hb'⟩
    have hbb : Below W0.heap.size W0 w' := hb.trans (hb'.mono hb.size)
    exact ⟨rfl, HCL.out w' hbb, hbb⟩
  have HEND : Hid (∀ wx, Below W0.heap.size W0 wx → Tn R base w0 w wx p q t g F G (A1.wr + 8) (A2.wr + 1)) := fun wx hb => HOUT.out _ _ _ ⟨F, G, A1, A2, l, HD0.out.below C hb, hsl, hfr, by omega, by omega⟩
  obtain ⟨v1, hv1⟩ : ∃ v1, A1.wr = v1 := ⟨_, rfl⟩
  have hv8 : v1 ≤ 999999000 := by omega
  simp only [hv1] at cW HEND ⊢
  have hvv : ((v1 : Int) == (v1 : Int)) = true := by simp
  have HCLD : Hid (∀ wx, Hid (Below W0.heap.size W0 wx) → wx.drew.cell? ⟨xb, 1, none⟩ = some (nu n) ∧ Below W0.heap.size W0 wx.drew) := fun wx hb => ⟨HCL.out _ hb.out.drew, hb.out.drew⟩
  clear hP hE hk hn hus hub hW0 hB0 hD0 hXF hA0 hsl hfr hw1 hw2 hl2 hv1 hxb C HACT HOUT HD0 fL1 fL2 fL3 hL1 hL2 hL3 HHAN HC
  generalize k % 6 = m at *
  subst hm
  go_enter Tryz.func10, Tryz.ntmps10
  go_upto_region 1 with fail
  rw [HW0.out, HXB.out]
  have d0 := Hid.mk' (cW.out W0 (Below.refl _ _))
  go_wp2_with fail
  refine d0.out.mono ?_
  rintro e w1 ⟨rfl, y1, HB1⟩
  have y0 : w1.cell? ⟨xb, 0, none⟩ = some (nu k) := (HB1.out.cell (p := ⟨xb, 0, none⟩) (by have := World.block_lt_of_cell? _ _ x0; exact this)).trans x0
  clear x0 x1 HLK d0
  go_upto_region 17 with (first | (go_at_call 22; refine (cK.out _).mono ?_; rintro e w2 ⟨rfl, hw2⟩; subst w2) | fail)
  obtain ⟨yD, hbD⟩ := HCLD.out w1 HB1
  have HBD := Hid.mk' hbD
  clear y0 hbD cK
  go_region_held3 (fun w' => w'.cell? ⟨xb, 1, none⟩ = some (nu n)) (first | assumption | fail) (first | (go_at_call 14; with_reducible refine (cR.out _ HBD.out).mono ?_; rintro e w11 ⟨gf1, lb1, rfl, hs11, hQ11⟩) | (go_at_call 15; with_reducible refine (rR.out _ _ _ hQ11).mono ?_; rintro e w12 ⟨a1, m1, c1, rfl, hs12, hQ12⟩) | (go_at_call 13; with_reducible refine (gU.out _ _ _ _ _ _ hQ32).mono ?_; rintro e w33 ⟨rfl, hs33, hQ33⟩) | (go_at_call 13; with_reducible refine (gK.out _ _ _ _ _ _ hQ22).mono ?_; rintro e w23 ⟨rfl, hs23, hQ23⟩) | (go_at_call 13; with_reducible refine (gR.out _ _ _ _ _ _ hQ12).mono ?_; rintro e w13 ⟨rfl, hs13, hQ13⟩) | (go_at_call 18; with_reducible refine (cK'.out _ hQ13.out).mono ?_; rintro e w21 ⟨gf2, lb2, rfl, hs21, hQ21⟩) | (go_at_call 19; with_reducible refine (rK.out _ _ _ hQ21).mono ?_; rintro e w22 ⟨a2, m2, c2, rfl, hs22, hQ22⟩) | (go_at_call 16; with_reducible refine (cU.out _ hQ23.out).mono ?_; rintro e w31 ⟨gf3, lb3, rfl, hs31, hQ31⟩) | (go_at_call 17; with_reducible refine (rU.out _ _ _ hQ31).mono ?_; rintro e w32 ⟨a3, m3, c3, rfl, hs32, hQ32⟩) | (go_at_call 7; with_reducible refine (cW.out _ hQ33.out).mono ?_; rintro e w34 ⟨rfl, hs34, hQ34⟩) | fail)
  go_wp2
  go_ret
  exact ⟨rfl, HEND.out _ hQ34.out⟩
end Tr
end Go.Proofs.YtcleeidfiaafcaaGreatDoor
