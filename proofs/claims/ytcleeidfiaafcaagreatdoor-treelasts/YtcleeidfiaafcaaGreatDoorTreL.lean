import Derived.Test.YtcleeidfiaafcaaGreatDoorTreK
/- What is gone through is as it was when it was got: TreeLasts out of what the program's calls must answer. -/
namespace Go.Proofs.YtcleeidfiaafcaaGreatDoor
set_option linter.ambiguousOpen false
open Go.RowKit
namespace Tr
open An Rg Ft Lv
set_option linter.unusedSimpArgs false
set_option linter.unusedVariables false

/-- An iterator that leans on what is new since wR. -/
def It (wR : World) (L : List Nat) (wx : World) (gf : Nat) (lb : Array Value) : Prop := ∃ X, IterA wx (.func (.func gf) #[] lb) X L ∧ ∀ b, X b → wR.heap.size ≤ b

/-- A list that lies in what is new since wR. -/
def Ro (wR : World) (L : List Nat) (wx : World) (v : Value) : Prop := wx.ownsRow wR.heap.size 3 1 v L.length (L.map nun)

theorem It.keep {wR wx w' : World} {L : List Nat} {gf : Nat} {lb : Array Value} (h : It wR L wx gf lb) {K : Nat → Prop} (hk : Keep K wx w') (hn : ∀ b, K b → b < wR.heap.size) : It wR L w' gf lb := by
  obtain ⟨X, h1, h2⟩ := h
  exact ⟨X, h1.keep hk (fun b hb e => by have := h2 b hb; have := hn b e; omega), h2⟩

theorem Ro.keep {wR wx w' : World} {L : List Nat} {v : Value} (h : Ro wR L wx v) {K : Nat → Prop} (hk : Keep K wx w') (hn : ∀ b, K b → b < wR.heap.size) : Ro wR L w' v :=
  hk.own h (fun b hb e => by have := (World.ownsRow.lt h b hb).1; have := hn b e; omega)

theorem It.below {wR wx w' : World} {L : List Nat} {gf : Nat} {lb : Array Value} (h : It wR L wx gf lb) (hb : Below wx.heap.size wx w') : It wR L w' gf lb := h.keep (Keep.of_below (F := fun _ => False) hb) (fun _ e => e.elim)

theorem Ro.below {wR wx w' : World} {L : List Nat} {v : Value} (h : Ro wR L wx v) (hb : Below wx.heap.size wx w') : Ro wR L w' v := h.keep (Keep.of_below (F := fun _ => False) hb) (fun _ e => e.elim)

set_option maxRecDepth 100000 in
theorem wpList_load_act {ops : Array Oper} {rest : List Oper} {op : Oper} {a : Act} {w : World} {Q : Exit → Act → World → Prop} (hgd : op.guard = none) (x : Operand) (ho : op.op = .load 42 x)
    (b o : Nat) (hx : a.eval x = .pointer (some ⟨b, o, none⟩)) (y : Tact) (hr : w.rangeAt b o y.cells)
    (h : wpList Tryz.prog ops Q rest (a.put op.dst (.agg y.cells.toArray)) w) : wpList Tryz.prog ops Q (op :: rest) a w :=
  wpList_load_mid hgd 42 x ho b o hx y.cells _ hr Tryz.underlying42 rfl size_tact h

/-- From wb on, both trees still hold the same. -/
def Tr2 (R : RepTy) (base : Nat) (w0 wb w : World) (p q t g : Nat) (F0 G0 : Nat → Prop) (i : Nat) : Prop := ∃ F G A1 A2 l, Td R base w0 wb w p q t g F0 G0 F G A1 l A2 l ∧ A1.sl = A2.sl ∧ A1.fr = A2.fr ∧ A1.wr ≤ 8 * i ∧ A2.wr ≤ i

set_option maxRecDepth 1000000 in
set_option maxHeartbeats 16000000 in
theorem treeLasts_yes {Rep : World → Nat → (Nat → Prop) → Arn → Prop} {R : RepTy} (CN : NewC Rep) (C : TreeCW Rep R) (sv tv : Value) (L M : List Tact) (ix : Int) (w : World) (hR : RdE w sv L) (hF : ∀ x ∈ L, x.fits) (hR2 : RdE w tv M) (hF2 : ∀ x ∈ M, x.fits) (hix : I64 ix) (hE : Er.Handle w) :
    Calls Tryz.prog 4 #[sv, tv, nu ix] w fun e w' => e = .returned (.bool true) ∧ Below w.heap.size w w' := by
  obtain ⟨av, cv, rfl, hc1, hc2, hcell⟩ := hR
  obtain ⟨au, cu, rfl, hd1, hd2, hdell⟩ := hR2
  obtain ⟨N, hN⟩ : ∃ N, L.length = N := ⟨_, rfl⟩
  obtain ⟨N2, hN2⟩ : ∃ N2, M.length = N2 := ⟨_, rfl⟩
  have HN := Hid.mk' hN
  have HN2 := Hid.mk' hN2
  have HCL := Hid.mk' hcell
  have HDL := Hid.mk' hdell
  have HF := Hid.mk' hF
  have HF2 := Hid.mk' hF2
  rw [hN] at hc1 ⊢
  rw [hN2] at hd1 ⊢
  unfold maxLen at hc2 hd2
  have c1 := Hid.mk' (CN w)
  have hcI : (cv : Int) ≤ 9223372036854775807 := by omega
  have hdI : (cu : Int) ≤ 9223372036854775807 := by omega
  by_cases hbig : 300 < N
  · have hbI : (300 : Int) < (N : Int) := by omega
    clear hcell hdell hF hF2 hN hN2
    go_enter Tryz.func4, Tryz.ntmps4
    go_wp2
    go_ret
    exact ⟨rfl, Below.refl _ _⟩
  have hbI : ¬ (300 : Int) < (N : Int) := by omega
  by_cases hbig2 : 300 < N2
  · have hbI2 : (300 : Int) < (N2 : Int) := by omega
    clear hcell hdell hF hF2 hN hN2
    go_enter Tryz.func4, Tryz.ntmps4
    go_wp2
    go_ret
    exact ⟨rfl, Below.refl _ _⟩
  have hbI2 : ¬ (300 : Int) < (N2 : Int) := by omega
  have hdd : decide ((300 : Int) < (N : Int)) = false := decide_eq_false hbI
  have cD : Hid (∀ wx base p q t g i (x : Tact), Tq R base w wx p q t g i → i ≤ 1000 → x.fits → Calls Tryz.prog 10 #[ptr p, ptr q, ptr t, .agg x.cells.toArray] wx fun e w' => e = .returned (.bool true) ∧ Hid (Tq R base w w' p q t g (i + 1))) := fun wx base p q t g i x hx hi hf => by
    obtain ⟨F, G, A1, A2, l, h1, h2, h3, h4, h5⟩ := hx
    refine (does_any C base w wx p q t g F G A1 A2 l x.k x.n x.us x.ub x.s h1 h2 h3 (by omega) (by omega) hE hf.1 hf.2.1 hf.2.2.1 hf.2.2.2).mono ?_
    rintro e w' ⟨rfl, F', G', B1, B2, m, g1, g2, g3, g4, g5⟩
    exact ⟨rfl, F', G', B1, B2, m, g1.pr, g2, g3, by omega, by omega⟩
  have cD2 : Hid (∀ wb wx base p q t g F0 G0 i (x : Tact), Tr2 R base w wb wx p q t g F0 G0 i → i ≤ 1000 → x.fits → Calls Tryz.prog 10 #[ptr p, ptr q, ptr t, .agg x.cells.toArray] wx fun e w' => e = .returned (.bool true) ∧ Hid (Tr2 R base w wb w' p q t g F0 G0 (i + 1))) := fun wb wx base p q t g F0 G0 i x hx hi hf => by
    obtain ⟨F, G, A1, A2, l, h1, h2, h3, h4, h5⟩ := hx
    refine (does_any C base w wx p q t g F G A1 A2 l x.k x.n x.us x.ub x.s h1.pr h2 h3 (by omega) (by omega) hE hf.1 hf.2.1 hf.2.2.1 hf.2.2.2).mono ?_
    rintro e w' ⟨rfl, F', G', B1, B2, m, g1, g2, g3, g4, g5⟩
    exact ⟨rfl, F', G', B1, B2, m, h1.trans g1, g2, g3, by omega, by omega⟩
  have HC := Hid.mk' C
  clear hcell hdell hF hF2 hN hN2 hE
  go_enter Tryz.func4, Tryz.ntmps4
  go_wp2_with fail
  refine c1.out.mono ?_
  rintro e w1 ⟨p, F, rfl, hr1, hf1, hb1⟩
  have c2 := Hid.mk' (C.new w1 p F arn0 hr1 good0)
  have HB1 := Hid.mk' hb1
  have HF1 := Hid.mk' hf1
  clear hr1 hb1 hf1 c1
  go_wp2_with fail
  refine c2.out.mono ?_
  rintro e w3 ⟨q, F2, rfl, hr2, hf2, hb2⟩
  have HB3 : Hid (Below w.heap.size w w3) := HB1.out.trans (hb2.mono HB1.out.size)
  have HFF : Hid (∀ k, F2 k → w.heap.size ≤ k) := fun k hk => (hf2 k hk).elim (HF1.out k) (fun e => Nat.le_trans HB1.out.size e)
  have HR3 := Hid.mk' hr2
  have c4 := Hid.mk' (new_r w3)
  clear hr2 hf2 hb2 c2 HF1
  go_wp2_with fail
  refine c4.out.mono ?_
  rintro e w4 ⟨Ga, rfl, hr4, hb4⟩
  have c5 := Hid.mk' (newT_ref w3.heap.size w4)
  have HR4 := Hid.mk' hr4
  have HB4 := Hid.mk' hb4
  clear hr4 hb4 c4
  go_wp2_with fail
  refine c5.out.mono ?_
  rintro e w5 ⟨rfl, hw5⟩
  have hq5 : Tq R w3.heap.size w w5 p q w4.heap.size w3.heap.size 0 := by
    have hb45 : Below w4.heap.size w4 w5 := by rw [hw5]; exact (Below.refl _ _).alloc (Nat.le_refl _) _
    have hr5 : R w5 p q F2 arn0 (-1) := (C.keep q (-1)).below ((C.keep q (-1)).below HR3.out HB4.out) hb45
    obtain ⟨G, hp⟩ := Tp.begin HFF.out HR3.out (fun k hk => (C.keep q (-1)).lt HR3.out k hk) HB3.out hr5 HR4.out HB4.out hw5
    exact ⟨F2, G, arn0, arn0, -1, hp, rfl, rfl, by decide, by decide⟩
  have HQ5 := Hid.mk' hq5
  clear hq5 hw5 c5 HR4 HB4 HR3 HB3
  obtain ⟨t, ht⟩ : ∃ t, w4.heap.size = t := ⟨_, rfl⟩
  obtain ⟨g, hg⟩ : ∃ g, w3.heap.size = g := ⟨_, rfl⟩
  rw [ht, hg] at HQ5
  rw [ht]
  clear ht hg
  go_wp2_with fail
  go_loopw [10] (fun iv wr => ∃ i : Nat, i ≤ N ∧ iv = nun i ∧ Hid (Tq R g w wr p q t g i)) (fun iv _ => N - (intOf iv).toNat)
  case atStart => exact ⟨0, Nat.zero_le _, rfl, HQ5⟩
  case round =>
    clear HQ5
    obtain ⟨i, hi, rfl, HQ⟩ := hrel
    by_cases hlt : i < N
    · have hiI : (i : Int) < (N : Int) := by omega
      obtain ⟨gv, ov, rfl, hgl, hcl⟩ := HCL.out (by rw [HN.out]; omega)
      obtain ⟨x, hx⟩ : ∃ x, L[i]? = some x := ⟨_, List.getElem?_eq_getElem (by rw [HN.out]; exact hlt)⟩
      have HXR : Hid (wr.rangeAt gv (ov + i * 21) x.cells) := range_bel (hcl i x hx) HQ.out.bel hgl
      have C1 := Hid.mk' (cD.out wr g p q t g i x HQ.out (by omega) (HF.out x (List.mem_of_getElem? hx)))
      clear hcl hx
      go_wp2_with (first | (refine wpList_load_act rfl _ rfl gv (ov + i * 21) rfl x HXR.out ?_) | fail)
      refine C1.out.mono ?_
      rintro e w6 ⟨rfl, hQ6⟩
      clear C1
      go_wp2
      go_roundw
      case rel => exact ⟨i + 1, by omega, by go_num, hQ6⟩
      case measure => simp [intOf]; omega
    · have hiI : ¬ (i : Int) < (N : Int) := by omega
      rename World => wR
      obtain ⟨F6, G6, A1, A2, l6, hp6, e1, e2, e3, e4⟩ := HQ.out
      have hl2 : A2.sl.length = 32 := hp6.good2.len
      obtain ⟨L1, hL1⟩ : ∃ L1, allL A2.sl l6 = L1 := ⟨_, rfl⟩
      obtain ⟨L2, hL2⟩ : ∃ L2, kidsL A2.sl ix = L2 := ⟨_, rfl⟩
      obtain ⟨L3, hL3⟩ : ∃ L3, undL A2.sl ix = L3 := ⟨_, rfl⟩
      have fL1 : L1.length ≤ 32 := by rw [← hL1]; exact allL_len _ _
      have fL2 : L2.length ≤ 32 := by rw [← hL2]; exact kidsL_len _ _
      have fL3 : L3.length ≤ 32 := by rw [← hL3]; exact undL_len _ _
      have a1 : Hid (∀ wx, Below wR.heap.size wR wx → Calls Tryz.prog 14 #[ptr q] wx fun e w' => ∃ gf lb, e = .returned (.func (.func gf) #[] lb) ∧ Hid (Below wR.heap.size wR w') ∧ Hid (Below wx.heap.size wx w') ∧ Hid (It wR L1 w' gf lb)) := fun wx hb => by
        have hp := hp6.below C hb
        have := C.roots wx p q F6 A1 l6 hp.rep hp.good1
        rw [e1, hL1] at this
        refine this.mono ?_
        rintro e w' ⟨fv, X, rfl, hit, hX, hb'⟩
        obtain ⟨gf, lb, rfl⟩ := iter_open hit
        exact ⟨gf, lb, rfl, hb.trans (hb'.mono hb.size), hb', X, hit, fun b hb2 => Nat.le_trans hb.size (hX b hb2)⟩
      have b1 : Hid (∀ wx, Below wR.heap.size wR wx → Calls Tryz.prog 15 #[ptr t] wx fun e w' => ∃ a m c, e = .returned (.slice a m c) ∧ Hid (Below wR.heap.size wR w') ∧ Hid (Below wx.heap.size wx w') ∧ Hid (Ro wR L1 w' (.slice a m c))) := fun wx hb => by
        have hp := hp6.below C hb
        have := roots_r g wx t g G6 A2 l6 hp.ref hl2
        rw [hL1] at this
        refine this.mono ?_
        rintro e w' ⟨v, rfl, ho, hb'⟩
        obtain ⟨a, c, rfl, _⟩ := Nm.own_shape ho
        exact ⟨a, _, c, rfl, hb.trans (hb'.mono hb.size), hb', own_monoA ho hb.size⟩
      have a2 : Hid (∀ wx, Below wR.heap.size wR wx → Calls Tryz.prog 18 #[ptr q, nu ix] wx fun e w' => ∃ gf lb, e = .returned (.func (.func gf) #[] lb) ∧ Hid (Below wR.heap.size wR w') ∧ Hid (Below wx.heap.size wx w') ∧ Hid (It wR L2 w' gf lb)) := fun wx hb => by
        have hp := hp6.below C hb
        have := C.kids wx p q F6 A1 l6 ix hp.rep hp.good1 hix
        rw [e1, hL2] at this
        refine this.mono ?_
        rintro e w' ⟨fv, X, rfl, hit, hX, hb'⟩
        obtain ⟨gf, lb, rfl⟩ := iter_open hit
        exact ⟨gf, lb, rfl, hb.trans (hb'.mono hb.size), hb', X, hit, fun b hb2 => Nat.le_trans hb.size (hX b hb2)⟩
      have b2 : Hid (∀ wx, Below wR.heap.size wR wx → Calls Tryz.prog 19 #[ptr t, nu ix] wx fun e w' => ∃ a m c, e = .returned (.slice a m c) ∧ Hid (Below wR.heap.size wR w') ∧ Hid (Below wx.heap.size wx w') ∧ Hid (Ro wR L2 w' (.slice a m c))) := fun wx hb => by
        have hp := hp6.below C hb
        have := kids_r g wx t g G6 A2 l6 ix hp.ref hl2
        rw [hL2] at this
        refine this.mono ?_
        rintro e w' ⟨v, rfl, ho, hb'⟩
        obtain ⟨a, c, rfl, _⟩ := Nm.own_shape ho
        exact ⟨a, _, c, rfl, hb.trans (hb'.mono hb.size), hb', own_monoA ho hb.size⟩
      have a3 : Hid (∀ wx, Below wR.heap.size wR wx → Calls Tryz.prog 16 #[ptr q, nu ix] wx fun e w' => ∃ gf lb, e = .returned (.func (.func gf) #[] lb) ∧ Hid (Below wR.heap.size wR w') ∧ Hid (Below wx.heap.size wx w') ∧ Hid (It wR L3 w' gf lb)) := fun wx hb => by
        have hp := hp6.below C hb
        have := C.under wx p q F6 A1 l6 ix hp.rep hp.good1 hix
        rw [e1, hL3] at this
        refine this.mono ?_
        rintro e w' ⟨fv, X, rfl, hit, hX, hb'⟩
        obtain ⟨gf, lb, rfl⟩ := iter_open hit
        exact ⟨gf, lb, rfl, hb.trans (hb'.mono hb.size), hb', X, hit, fun b hb2 => Nat.le_trans hb.size (hX b hb2)⟩
      have b3 : Hid (∀ wx, Below wR.heap.size wR wx → Calls Tryz.prog 17 #[ptr t, nu ix] wx fun e w' => ∃ a m c, e = .returned (.slice a m c) ∧ Hid (Below wR.heap.size wR w') ∧ Hid (Below wx.heap.size wx w') ∧ Hid (Ro wR L3 w' (.slice a m c))) := fun wx hb => by
        have hp := hp6.below C hb
        have := under_r g wx t g G6 A2 l6 ix hp.ref hl2
        rw [hL3] at this
        refine this.mono ?_
        rintro e w' ⟨v, rfl, ho, hb'⟩
        obtain ⟨a, c, rfl, _⟩ := Nm.own_shape ho
        exact ⟨a, _, c, rfl, hb.trans (hb'.mono hb.size), hb', own_monoA ho hb.size⟩
      have cG : Hid (∀ LL wx gf lb a m c, LL.length ≤ 32 → It wR LL wx gf lb → Ro wR LL wx (.slice a m c) → Calls Tryz.prog 13 #[.func (.func gf) #[] lb, .slice a m c] wx fun e w' => e = .returned (.bool true) ∧ Hid (Below wx.heap.size wx w')) := fun LL wx gf lb a m c hf hit hr => by
        obtain ⟨X, h1, _⟩ := hit
        refine (gone_any _ _ X LL wx h1 (own_rdN hr) hf).mono ?_
        rintro e w' ⟨rfl, hb'⟩
        exact ⟨rfl, hb'⟩
      have HST : Hid (∀ wx, Below wR.heap.size wR wx → Tr2 R g w wx wx p q t g F6 G6 N) := fun wx hb => ⟨F6, G6, A1, A2, l6, Td.start (hp6.below C hb), e1, e2, by omega, by omega⟩
      have HLT : Hid (∀ b, F6 b ∨ G6 b → b < wR.heap.size) := fun b hb => hb.elim (fun e => (C.keep q l6).lt hp6.rep b e) (fun e => (hp6.ref.lt b e).2)
      have HBR := Hid.mk' hp6.bel
      clear hp6 e1 e2 e3 e4 hl2 hL1 hL2 hL3 HQ cD HC
      go_wp2_with fail
      refine (a1.out _ (Below.refl _ _)).mono ?_
      rintro e x1 ⟨gf1, lb1, rfl, hB1, hS1, hI1⟩
      clear a1
      go_wp2_with fail
      refine (a2.out _ hB1.out).mono ?_
      rintro e x2 ⟨gf2, lb2, rfl, hB2, hS2, hI2⟩
      have hJ1 := Hid.mk' (hI1.out.below hS2.out)
      clear a2 hI1 hS1
      go_wp2_with fail
      refine (a3.out _ hB2.out).mono ?_
      rintro e x3 ⟨gf3, lb3, rfl, hB3, hS3, hI3⟩
      have hK1 := Hid.mk' (hJ1.out.below hS3.out)
      have hK2 := Hid.mk' (hI2.out.below hS3.out)
      clear a3 hJ1 hI2 hS2 hB1 hB2
      go_wp2_with fail
      refine (b1.out _ hB3.out).mono ?_
      rintro e x4 ⟨ra1, rm1, rc1, rfl, hB4, hS4, hO4⟩
      have hM1 := Hid.mk' (hK1.out.below hS4.out)
      have hM2 := Hid.mk' (hK2.out.below hS4.out)
      have hM3 := Hid.mk' (hI3.out.below hS4.out)
      clear b1 hK1 hK2 hI3 hS3 hB3
      go_wp2_with fail
      refine (b2.out _ hB4.out).mono ?_
      rintro e x5 ⟨ra2, rm2, rc2, rfl, hB5, hS5, hO5⟩
      have hN1 := Hid.mk' (hM1.out.below hS5.out)
      have hN2 := Hid.mk' (hM2.out.below hS5.out)
      have hN3 := Hid.mk' (hM3.out.below hS5.out)
      have hP4 := Hid.mk' (hO4.out.below hS5.out)
      clear b2 hM1 hM2 hM3 hO4 hS4 hB4
      go_wp2_with fail
      refine (b3.out _ hB5.out).mono ?_
      rintro e x6 ⟨ra3, rm3, rc3, rfl, hB6, hS6, hO6⟩
      have hT1 := Hid.mk' (hN1.out.below hS6.out)
      have hT2 := Hid.mk' (hN2.out.below hS6.out)
      have hT3 := Hid.mk' (hN3.out.below hS6.out)
      have hU1 := Hid.mk' (hP4.out.below hS6.out)
      have hU2 := Hid.mk' (hO5.out.below hS6.out)
      have hU3 := hO6
      have HS0 := Hid.mk' (HST.out x6 hB6.out)
      clear b3 hN1 hN2 hN3 hP4 hO5 hS5 hB5 hO6 HST
      go_wp2_with fail
      go_loopw [17] (fun iv wr => ∃ j : Nat, j ≤ N2 ∧ iv = nun j ∧ Hid (Tr2 R g w x6 wr p q t g F6 G6 (N + j))) (fun iv _ => N2 - (intOf iv).toNat)
      case atStart => exact ⟨0, Nat.zero_le _, rfl, HS0⟩
      case round =>
        clear HS0
        obtain ⟨j, hj, rfl, HQ⟩ := hrel
        by_cases hlt2 : j < N2
        · have hjI : (j : Int) < (N2 : Int) := by omega
          obtain ⟨gv, ov, rfl, hgl, hcl⟩ := HDL.out (by rw [HN2.out]; omega)
          obtain ⟨x, hx⟩ : ∃ x, M[j]? = some x := ⟨_, List.getElem?_eq_getElem (by rw [HN2.out]; exact hlt2)⟩
          have hbw : Below w.heap.size w wr := by
            obtain ⟨F', G', B1, B2, m, h1, _⟩ := HQ.out
            exact h1.pr.bel
          have HXR : Hid (wr.rangeAt gv (ov + j * 21) x.cells) := range_bel (hcl j x hx) hbw hgl
          have C1 := Hid.mk' (cD2.out x6 wr g p q t g F6 G6 (N + j) x HQ.out (by omega) (HF2.out x (List.mem_of_getElem? hx)))
          clear hcl hx hbw
          go_wp2_with (first | (refine wpList_load_act rfl _ rfl gv (ov + j * 21) rfl x HXR.out ?_) | fail)
          refine C1.out.mono ?_
          rintro e w7 ⟨rfl, hQ7⟩
          clear C1
          go_wp2
          go_roundw
          case rel => exact ⟨j + 1, by omega, by go_num, by rw [← Nat.add_assoc]; exact hQ7⟩
          case measure => simp [intOf]; omega
        · have hjI : ¬ (j : Int) < (N2 : Int) := by omega
          obtain ⟨F', G', B1, B2, m, h1, _⟩ := HQ.out
          have hv1 := h1.kp
          have HBE := Hid.mk' h1.pr.bel
          have d1 := Hid.mk' (hT1.out.keep hv1 HLT.out)
          have d2 := Hid.mk' (hT2.out.keep hv1 HLT.out)
          have d3 := Hid.mk' (hT3.out.keep hv1 HLT.out)
          have r1 := Hid.mk' (hU1.out.keep hv1 HLT.out)
          have r2 := Hid.mk' (hU2.out.keep hv1 HLT.out)
          have r3 := Hid.mk' (hU3.out.keep hv1 HLT.out)
          have G1 := Hid.mk' (cG.out L1 wr gf1 lb1 ra1 rm1 rc1 fL1 d1.out r1.out)
          clear h1 hv1 HQ cD2 d1 r1
          go_wp2_with fail
          refine G1.out.mono ?_
          rintro e y1 ⟨rfl, hb1⟩
          have G2 := Hid.mk' (cG.out L2 y1 gf2 lb2 ra2 rm2 rc2 fL2 (d2.out.below hb1.out) (r2.out.below hb1.out))
          clear G1
          go_wp2_with fail
          refine G2.out.mono ?_
          rintro e y2 ⟨rfl, hb2⟩
          have G3 := Hid.mk' (cG.out L3 y2 gf3 lb3 ra3 rm3 rc3 fL3 ((d3.out.below hb1.out).below hb2.out) ((r3.out.below hb1.out).below hb2.out))
          clear G2
          go_wp2_with fail
          refine G3.out.mono ?_
          rintro e y3 ⟨rfl, hb3⟩
          clear G3
          have HBY : Hid (Below w.heap.size w y3) := by
            have q1 := HBE.out.trans (hb1.out.mono HBE.out.size)
            have q2 := q1.trans (hb2.out.mono q1.size)
            exact q2.trans (hb3.out.mono q2.size)
          go_wp2
          go_ret
          exact ⟨rfl, HBY.out⟩
end Tr
end Go.Proofs.YtcleeidfiaafcaaGreatDoor
