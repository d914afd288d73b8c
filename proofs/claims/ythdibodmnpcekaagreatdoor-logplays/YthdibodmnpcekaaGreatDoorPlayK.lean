import Derived.Test.YthdibodmnpcekaaGreatDoorPlayE
import Derived.Test.YthdibodmnpcekaaGreatDoorPlayA
import Derived.Test.YthdibodmnpcekaaGreatDoorKeepP
/- Any script of acts, on both. -/
namespace Go.Proofs.YthdibodmnpcekaaGreatDoor
set_option linter.ambiguousOpen false
open Go.RowKit
namespace Lo
open Sm Ft Dk
set_option linter.unusedSimpArgs false
set_option linter.unusedVariables false

/-- An act. -/
structure Actn where
  k : Int
  n : Int
  p : List UInt8

def Actn.fits (a : Actn) : Prop := (-9223372036854775808 ≤ a.k ∧ a.k ≤ 9223372036854775807) ∧ (-9223372036854775808 ≤ a.n ∧ a.n ≤ 9223372036854775807)

/-- A list of acts lies here. -/
def RdN (w : World) (v : Value) (L : List Actn) : Prop :=
  ∃ a cap, v = .slice a L.length cap ∧ L.length ≤ cap ∧ cap ≤ maxLen ∧ (0 < L.length → ∃ g o, a = some ⟨g, o, none⟩ ∧ g < w.heap.size ∧ ∀ (i : Nat) (x : Actn), L[i]? = some x → w.cell? ⟨g, o + i * 3, none⟩ = some (nu x.k) ∧ w.cell? ⟨g, o + i * 3 + 1, none⟩ = some (nu x.n) ∧ ∃ u, w.cell? ⟨g, o + i * 3 + 2, none⟩ = some u ∧ RdB w u x.p ∧ Pk.Nz u)

theorem does_any {Rep : World → Nat → (Nat → Prop) → Dsk → Prop} (H : Says Rep) (SF : FrameW) (SS : Rc.ScanC) (w wr : World) (B p q g m : Nat) (F G : Nat → Prop) (d : Dsk) (l : Lg) (τ : Nat → Nat) (k n : Int) (pv : Value) (x : List UInt8) (hS : Sw Rep w wr B p q g m F G d l d l τ) (hE : Er.Handle w) (ht : d.tr.length ≤ 100000) (hr : l.recs ≤ 100000) (hf : Fit l d) (hs : Small d) (hk : -9223372036854775808 ≤ k ∧ k ≤ 9223372036854775807) (hn : -9223372036854775808 ≤ n ∧ n ≤ 9223372036854775807) (hv : RdB w pv x) (hz : Pk.Nz pv) (hx : x.length ≤ 10000) :
    Calls Tryz.prog 11 #[ptr B, .agg (actC k n pv)] wr fun e w' => e = .returned (.bool true) ∧ Nx Rep w w' B p g d l := by
  have hpv : ∃ a c z, pv = .slice a c z := by
    obtain ⟨a, c, h, _⟩ := hv
    exact ⟨a, _, c, h⟩
  have h0 : 0 ≤ k % 7 ∧ k % 7 < 7 := by omega
  by_cases h3 : k % 7 = 3
  · exact does_cut H w wr B p q g m F G d l τ k n pv hS hf hs hk hn h3 hpv
  by_cases h4 : k % 7 = 4
  · exact does_open H SS w wr B p q g m F G d l τ k n pv hS hE ht hf hs hk hn h4 hpv
  by_cases h5 : k % 7 = 5
  · exact does_open5 H SS w wr B p q g m F G d l τ k n pv hS hE ht hf hs hk hn h5 hpv
  by_cases h6 : k % 7 = 6
  · exact does_new H w wr B p q g m F G d l τ k n pv hS hE hf hs hk hn h6 hpv
  exact does_app H SF w wr B p q g m F G d l τ k n pv x hS hE ht hr hf hs hk hn (by omega) hv hz hx

/-- At any time of a script. -/
def Go (Rep : World → Nat → (Nat → Prop) → Dsk → Prop) (w wr : World) (B p g i : Nat) : Prop := ∃ q m F G d l τ, Sw Rep w wr B p q g m F G d l d l τ ∧ Fit l d ∧ Small d ∧ d.tr.length ≤ 3 * i ∧ l.recs ≤ 4096 + i

theorem Go.next {Rep : World → Nat → (Nat → Prop) → Dsk → Prop} {w w' : World} {B p g i : Nat} {d : Dsk} {l : Lg} (h : Nx Rep w w' B p g d l) (h1 : d.tr.length ≤ 3 * i) (h2 : l.recs ≤ 4096 + i) : Go Rep w w' B p g (i + 1) := by
  obtain ⟨q, m, F, G, d', l', τ, a1, a2, a3, a4, a5, a6⟩ := h
  exact ⟨q, m, F, G, d', l', τ, a1, a2, a3, by omega, by omega⟩

theorem Go.below {Rep : World → Nat → (Nat → Prop) → Dsk → Prop} (H : Says Rep) {w wr w' : World} {B p g i : Nat} (h : Go Rep w wr B p g i) (hb : Below wr.heap.size wr w') : Go Rep w w' B p g i := by
  obtain ⟨q, m, F, G, d', l', τ, a1, a2, a3, a4, a5⟩ := h
  exact ⟨q, m, F, G, d', l', τ, a1.below H hb, a2, a3, a4, a5⟩

theorem Go.bel {Rep : World → Nat → (Nat → Prop) → Dsk → Prop} {w wr : World} {B p g i : Nat} (h : Go Rep w wr B p g i) : Below w.heap.size w wr := by
  obtain ⟨q, m, F, G, d', l', τ, a1, _⟩ := h
  exact a1.bel

theorem Go.ask {Rep : World → Nat → (Nat → Prop) → Dsk → Prop} (H : Says Rep) {w wr : World} {B p g i : Nat} (h : Go Rep w wr B p g i) (hi : i ≤ 1000) : Calls Tryz.prog 12 #[ptr B] wr fun e w' => e = .returned (.bool true) ∧ Go Rep w w' B p g i := by
  obtain ⟨q, m, F, G, d', l', τ, a1, a2, a3, a4, a5⟩ := h
  refine (asked_any H w wr B p q g m F G d' l' τ a1 a2 (by omega)).mono ?_
  rintro e w' ⟨rfl, hb⟩
  exact ⟨rfl, q, m, F, G, d', l', τ, a1.below H hb, a2, a3, a4, a5⟩

theorem Go.does {Rep : World → Nat → (Nat → Prop) → Dsk → Prop} (H : Says Rep) (SF : FrameW) (SS : Rc.ScanC) {w wr : World} {B p g i : Nat} (h : Go Rep w wr B p g i) (hi : i ≤ 1000) (hE : Er.Handle w) (x : Actn) (hx : x.fits) (pv : Value) (hv : RdB w pv x.p) (hz : Pk.Nz pv) (hl : x.p.length ≤ 10000) : Calls Tryz.prog 11 #[ptr B, .agg (actC x.k x.n pv)] wr fun e w' => e = .returned (.bool true) ∧ Go Rep w w' B p g (i + 1) := by
  obtain ⟨q, m, F, G, d', l', τ, a1, a2, a3, a4, a5⟩ := h
  refine (does_any H SF SS w wr B p q g m F G d' l' τ x.k x.n pv x.p a1 hE (by omega) (by omega) a2 a3 hx.1 hx.2 hv hz hl).mono ?_
  rintro e w' ⟨rfl, hN⟩
  exact ⟨rfl, Go.next hN a4 a5⟩

/-- A new disk has no records. -/
theorem scan_new (ep : Nat) (n : Int) (a : Int) (k : Nat) (hep : ep < 4294967296) (h : may ⟨n, -1, []⟩ a (k : Int) = true) (hn : n ≤ 4096) : (Rc.scan ep (texts ⟨n, -1, []⟩ a k)).1 = [] := by
  obtain ⟨h1, h2, h3⟩ : 0 ≤ a ∧ 1 ≤ (k : Int) ∧ (k : Int) ≤ n - a := of_decide_eq_true h
  have hF : Fit ⟨a, (k : Int), ep, 0, 0, false⟩ ⟨n, -1, []⟩ := ⟨h1, h2, by simp only; omega, hn, by simp only; omega, hep, by simp only; decide, by simp only; decide⟩
  have := (Kp.new hF (clean_new ep n (-1))).opened
  simpa using this

set_option maxRecDepth 100000 in
set_option maxHeartbeats 8000000 in
theorem plays_walk {Rep : World → Nat → (Nat → Prop) → Dsk → Prop} (H : Says Rep) (SF : FrameW) (SS : Rc.ScanC) (bl a n : Int) (ep : Nat) (sv : Value) (L : List Actn) (w : World) (hbl : -9223372036854775808 ≤ bl ∧ bl ≤ 9223372036854775807) (ha : -9223372036854775808 ≤ a ∧ a ≤ 9223372036854775807) (hn : -9223372036854775808 ≤ n ∧ n ≤ 9223372036854775807) (hep : ep < 4294967296) (hR : RdN w sv L) (hF : ∀ x ∈ L, x.fits) (hE : Er.Handle w) :
    Calls Tryz.prog 3 #[nu bl, nu a, nu n, .int .u32 (ep : Int), sv] w fun e w' => e = .returned (.bool true) ∧ Below w.heap.size w w' := by
  obtain ⟨N, hN⟩ : ∃ N, L.length = N := ⟨_, rfl⟩
  obtain ⟨av, cv, rfl, hc1, hc2, hcell⟩ := hR
  have HC := Hid.mk' hcell
  have HN := Hid.mk' hN
  rw [hN] at hc1 ⊢
  unfold maxLen at hc2
  clear hcell
  by_cases g1 : 300 < N
  · have g1I : (300 : Int) < (N : Int) := by omega
    go_enter Tryz.func3, Tryz.ntmps3
    go_wp2
    go_ret
    exact ⟨rfl, Below.refl _ _⟩
  have cP := pick_any bl 64 w (by decide) (by decide) hbl
  obtain ⟨s, hs⟩ : ∃ s : Int, bl % 64 = s := ⟨_, rfl⟩
  rw [show ((64 : Nat) : Int) = 64 from rfl, hs] at cP
  have hsr : 0 ≤ s ∧ s < 64 := by omega
  have c1 := Hid.mk' (rNew_yes (1 + s) w (by omega) (by omega))
  have c2 : Hid (∀ wx, Calls Tryz.prog 6 #[nu (1 + s)] wx fun e w' => ∃ p F, e = .returned (.tuple #[ptr p, .nilIface]) ∧ Rep w' p F ⟨1 + s, -1, []⟩ ∧ (∀ k, F k → wx.heap.size ≤ k) ∧ Below wx.heap.size wx w') := fun wx => H.newYes (1 + s) wx (by omega) (by omega)
  have cQ0 : Hid (∀ wx, Er.Handle wx → Calls Tryz.prog 10 #[.nilIface, nu 0] wx fun e w' => e = .returned (.bool true) ∧ Below wx.heap.size wx w') := fun wx hg => plainL 0 (by decide) wx hg
  have cQ1 : Hid (∀ wx, Er.Handle wx → Calls Tryz.prog 10 #[noE 1, nu 1] wx fun e w' => e = .returned (.bool true) ∧ Below wx.heap.size wx w') := fun wx hg => plainL 1 (by decide) wx hg
  have HH := Hid.mk' H
  have HE := Hid.mk' hE
  have HF := Hid.mk' hF
  cases hm : may ⟨1 + s, -1, []⟩ a n with
  | false =>
    have c3 : Hid (∀ wx G, RepR w.heap.size wx w.heap.size G ⟨1 + s, -1, []⟩ → Calls Tryz.prog 7 #[ptr w.heap.size, nu a, nu n, .int .u32 (ep : Int)] wx fun e w' => e = .returned (.tuple #[.pointer none, nu 1]) ∧ w' = wx) := fun wx G h => rlNew_no w.heap.size wx w.heap.size G ⟨1 + s, -1, []⟩ a n ep h (by simp only; omega) ha.2 hm
    have c4 : Hid (∀ wx p F, Rep wx p F ⟨1 + s, -1, []⟩ → Calls Tryz.prog 8 #[ptr p, nu a, nu n, .int .u32 (ep : Int)] wx fun e w' => e = .returned (.tuple #[.pointer none, noE 1]) ∧ Below wx.heap.size wx w') := fun wx p F h => new_no HH.out wx p F ⟨1 + s, -1, []⟩ a n ep h (by simp only; omega) ha.2 hm
    have c5 : Hid (∀ wx p F, Rep wx p F ⟨1 + s, -1, []⟩ → Calls Tryz.prog 9 #[ptr p, nu a, nu n, .int .u32 (ep : Int)] wx fun e w' => e = .returned (.tuple #[.pointer none, .slice none 0 0, noE 1]) ∧ Below wx.heap.size wx w') := fun wx p F h => open_no HH.out wx p F ⟨1 + s, -1, []⟩ a n ep h (by simp only; omega) ha.2 hm
    clear hm hbl ha hn hF hE H SF SS HC hs
    go_enter Tryz.func3, Tryz.ntmps3
    go_wp2_with fail
    refine cP.mono ?_
    rintro e w' ⟨rfl, hw⟩
    subst w'
    go_wp2_with fail
    refine c1.out.mono ?_
    rintro e w1 ⟨rfl, hD1, hb1⟩
    have HR1 : Hid (RepR w.heap.size w1 w.heap.size (rfp w.heap.size (.slice none 0 0)) ⟨1 + s, -1, []⟩) := ⟨_, hD1, rfl, hb1.size⟩
    have HB1 := Hid.mk' hb1
    clear hD1 hb1 c1 cP
    go_wp2_with fail
    refine (c2.out _).mono ?_
    rintro e w2 ⟨p, F, rfl, hR2, hF2, hb2⟩
    have HR2 := Hid.mk' hR2
    have HB2 := Hid.mk' (below_fromS HB1.out hb2)
    have C3 := Hid.mk' (c3.out w2 _ (HR1.out.below hb2))
    clear hR2 hF2 hb2 c2 c3 HR1 HB1
    go_wp2_with fail
    refine C3.out.mono ?_
    rintro e w' ⟨rfl, hw⟩
    subst w'
    clear C3
    go_wp2_with fail
    refine (c4.out w2 p F HR2.out).mono ?_
    rintro e w3 ⟨rfl, hb3⟩
    have C5 := Hid.mk' (c5.out w3 p F (HH.out.keep HR2.out (Keep.of_below (F := fun _ => False) hb3) (fun _ _ h => h)))
    have HB3 := Hid.mk' (below_fromS HB2.out hb3)
    clear hb3 c4 c5 HB2 HR2
    go_wp2_with fail
    refine C5.out.mono ?_
    rintro e w4 ⟨rfl, hb4⟩
    have hb04 := below_fromS HB3.out hb4
    have C6 := Hid.mk' (cQ1.out w4 (HE.out.below hb04))
    have HB4 := Hid.mk' hb04
    clear hb4 hb04 C5 HB3
    go_wp2_with fail
    refine C6.out.mono ?_
    rintro e w5 ⟨rfl, hb5⟩
    have hb05 := below_fromS HB4.out hb5
    have C7 := Hid.mk' (cQ1.out w5 (HE.out.below hb05))
    have HB5 := Hid.mk' hb05
    clear hb5 hb05 C6 HB4
    go_wp2_with fail
    refine C7.out.mono ?_
    rintro e w6 ⟨rfl, hb6⟩
    have HB6 := Hid.mk' (below_fromS HB5.out hb6)
    clear hb6 C7 HB5
    go_wp2
    go_ret
    exact ⟨rfl, HB6.out⟩
  | true =>
    obtain ⟨h1, h2, h3⟩ : 0 ≤ a ∧ 1 ≤ n ∧ n ≤ 1 + s - a := of_decide_eq_true hm
    obtain ⟨K, rfl⟩ : ∃ K : Nat, n = (K : Int) := ⟨n.toNat, by omega⟩
    have hfit : Hid (Fit ⟨a, (K : Int), ep, 0, 0, false⟩ ⟨1 + s, -1, []⟩) := ⟨h1, h2, by simp only; omega, by simp only; omega, by simp only; omega, hep, by simp only; decide, by simp only; decide⟩
    have c3 : Hid (∀ wx G, RepR w.heap.size wx w.heap.size G ⟨1 + s, -1, []⟩ → Calls Tryz.prog 7 #[ptr w.heap.size, nu a, nu (K : Int), .int .u32 (ep : Int)] wx fun e w' => ∃ q, e = .returned (.tuple #[ptr q, nu 0]) ∧ Ql w' q w.heap.size ⟨a, (K : Int), ep, 0, 0, false⟩ ∧ wx.heap.size ≤ q ∧ Below wx.heap.size wx w') := fun wx G h => rlNew_yes w.heap.size wx w.heap.size G ⟨1 + s, -1, []⟩ a (K : Int) ep h (by simp only; omega) ha.2 hm
    have c4 : Hid (∀ wx p F, Rep wx p F ⟨1 + s, -1, []⟩ → Calls Tryz.prog 8 #[ptr p, nu a, nu (K : Int), .int .u32 (ep : Int)] wx fun e w' => ∃ q, e = .returned (.tuple #[ptr q, .nilIface]) ∧ Pl w' q p ⟨a, (K : Int), ep, 0, 0, false⟩ ∧ wx.heap.size ≤ q ∧ Below wx.heap.size wx w') := fun wx p F h => new_yes HH.out wx p F ⟨1 + s, -1, []⟩ a (K : Int) ep h (by simp only; omega) ha.2 hm
    have c5 : Hid (∀ wx p F, Rep wx p F ⟨1 + s, -1, []⟩ → Calls Tryz.prog 9 #[ptr p, nu a, nu (K : Int), .int .u32 (ep : Int)] wx fun e w' => ∃ q a0 c0, e = .returned (.tuple #[ptr q, .slice a0 0 c0, .nilIface]) ∧ Below wx.heap.size wx w') := fun wx p F h => by
      refine (open_yes HH.out SS wx p F ⟨1 + s, -1, []⟩ a K ep h (by simp only; omega) ha.2 hm hep (fun r hr => by simp at hr) (by simp)).mono ?_
      rintro e w' ⟨q, r, M, vs, rfl, hT⟩
      have hl := hT.rows.len
      rw [scan_new ep (1 + s) a K hep hm (by omega)] at hl
      obtain ⟨a0, c0, rfl, _⟩ := Nm.own_shape hT.out
      exact ⟨q, a0, c0, by rw [hl]; rfl, hT.bel⟩
    have cD : Hid (∀ (wx : World) (B p i : Nat) (x : Actn) (pv : Value), Go Rep w wx B p w.heap.size i → i ≤ 1000 → x.fits → RdB w pv x.p → Pk.Nz pv → x.p.length ≤ 10000 → Calls Tryz.prog 11 #[ptr B, .agg (actC x.k x.n pv)] wx fun e w' => e = .returned (.bool true) ∧ Go Rep w w' B p w.heap.size (i + 1)) := fun wx B p i x pv h1 h2 h3 h4 h5 h6 => Go.does HH.out SF SS h1 h2 HE.out x h3 pv h4 h5 h6
    have cAs : Hid (∀ (wx : World) (B p i : Nat), Go Rep w wx B p w.heap.size i → i ≤ 1000 → Calls Tryz.prog 12 #[ptr B] wx fun e w' => e = .returned (.bool true) ∧ Go Rep w w' B p w.heap.size i) := fun wx B p i h1 h2 => Go.ask HH.out h1 h2
    have HSS := Hid.mk' SS
    clear hm hbl ha hn hF hE H SF SS hs h1 h2 h3
    go_enter Tryz.func3, Tryz.ntmps3
    go_wp2_with fail
    refine cP.mono ?_
    rintro e w' ⟨rfl, hw⟩
    subst w'
    go_wp2_with fail
    refine c1.out.mono ?_
    rintro e w1 ⟨rfl, hD1, hb1⟩
    have HR1 : Hid (RepR w.heap.size w1 w.heap.size (rfp w.heap.size (.slice none 0 0)) ⟨1 + s, -1, []⟩) := ⟨_, hD1, rfl, hb1.size⟩
    have HB1 := Hid.mk' hb1
    clear hD1 hb1 c1 cP
    go_wp2_with fail
    refine (c2.out _).mono ?_
    rintro e w2 ⟨p, F, rfl, hR2, hF2, hb2⟩
    have HR2 := Hid.mk' hR2
    have HF2 := Hid.mk' hF2
    have HR1' := Hid.mk' (HR1.out.below hb2)
    have HB2 := Hid.mk' (below_fromS HB1.out hb2)
    have C3 := Hid.mk' (c3.out w2 _ HR1'.out)
    have hsz1 : Hid (w.heap.size < w1.heap.size) := HR1.out.num.2
    have hb12 := Hid.mk' hb2.size
    clear hR2 hF2 hb2 c2 c3
    go_wp2_with fail
    refine C3.out.mono ?_
    rintro e w3 ⟨mq, rfl, hQ3, hlo3, hb3⟩
    have HR3 := Hid.mk' (HH.out.keep HR2.out (Keep.of_below (F := fun _ => False) hb3) (fun _ _ h => h))
    have C4 := Hid.mk' (c4.out w3 p F HR3.out)
    have HQ3 := Hid.mk' hQ3
    have HLO3 := Hid.mk' hlo3
    have HB3 := Hid.mk' hb3
    clear C3 hQ3 hlo3 hb3 c4
    go_wp2_with fail
    refine C4.out.mono ?_
    rintro e w4 ⟨lq, rfl, hP4, hlo4, hb4⟩
    have HR4 := Hid.mk' (HH.out.keep HR3.out (Keep.of_below (F := fun _ => False) hb4) (fun _ _ h => h))
    have C5 := Hid.mk' (c5.out w4 p F HR4.out)
    have HP4 := Hid.mk' hP4
    have HLO4 := Hid.mk' hlo4
    have HB4 := Hid.mk' hb4
    clear C4 hP4 hlo4 hb4 c5
    go_wp2_with fail
    refine C5.out.mono ?_
    rintro e w5 ⟨q5, a5, c5, rfl, hb5⟩
    have hb25 := below_fromS (below_fromS HB3.out HB4.out) hb5
    have hb05 := below_fromS HB2.out hb25
    have C6 := Hid.mk' (cQ0.out w5 (HE.out.below hb05))
    have HB25 := Hid.mk' hb25
    have HB45 := Hid.mk' hb5
    clear hb5 hb25 hb05 C5
    go_wp2_with fail
    refine C6.out.mono ?_
    rintro e w6 ⟨rfl, hb6⟩
    have hb26 := below_fromS HB25.out hb6
    have hb06 := below_fromS HB2.out hb26
    have C7 := Hid.mk' (cQ0.out w6 (HE.out.below hb06))
    have HB26 := Hid.mk' hb26
    have HB46 := Hid.mk' (below_fromS HB45.out hb6)
    clear hb6 hb26 hb06 C6 HB25 HB45
    go_wp2_with fail
    refine C7.out.mono ?_
    rintro e w7 ⟨rfl, hb7⟩
    have hb27 := below_fromS HB26.out hb7
    have hb47 := below_fromS HB46.out hb7
    have HG : Hid (Go Rep w (w7.alloc (.cells #[ptr p, ptr lq, ptr w.heap.size, ptr mq] 45)) w7.heap.size p w.heap.size 0) := by
      have ba : Below w7.heap.size w7 (w7.alloc (.cells #[ptr p, ptr lq, ptr w.heap.size, ptr mq] 45)) := (Below.refl _ _).alloc (Nat.le_refl _) _
      have hb28 := below_fromS hb27 ba
      have hb48 := below_fromS hb47 ba
      have hb38 := below_fromS HB4.out hb48
      have k1 := HQ3.out.lt
      have k2 := HP4.out.lt
      have k3 := HLO3.out
      have k4 := HLO4.out
      have k5 := hb47.size
      have k6 := HB3.out.size
      have k7 := HB2.out.size
      have k8 := hsz1.out
      have k9 := hb12.out
      have k10 := hb27.size
      refine ⟨lq, mq, F, rfp w.heap.size (.slice none 0 0), ⟨1 + s, -1, []⟩, ⟨a, (K : Int), ep, 0, 0, false⟩, (fun k => if k = lq then 3 else if k = mq then 4 else if k = w7.heap.size then 5 else if k = w.heap.size then 2 else 1), ⟨heap_alloc_new _ _, HH.out.keep HR2.out (Keep.of_below (F := fun _ => False) hb28) (fun _ _ h => h), (hb48.block lq k2).trans HP4.out, HR1'.out.below hb28, (hb38.block mq k1).trans HQ3.out, fun k hk => ?_, fun k hk => ?_, ?_, ?_, ?_, fun k hk => ?_, by omega, by omega, by omega, below_fromS HB2.out hb28⟩, hfit.out, fun r hr => by simp at hr, Nat.zero_le _, Nat.zero_le _⟩
      · have h1 := HH.out.lt HR2.out k hk
        have h2 := HF2.out k hk
        simp only [if_neg (show ¬ k = lq by omega), if_neg (show ¬ k = mq by omega), if_neg (show ¬ k = w7.heap.size by omega), if_neg (show ¬ k = w.heap.size by omega)]
      · have hk' : k = w.heap.size := by
          rcases hk with h | h
          · exact h
          · simp [Value.ownBlock] at h
        subst hk'
        simp only [if_neg (show ¬ w.heap.size = lq by omega), if_neg (show ¬ w.heap.size = mq by omega), if_neg (show ¬ w.heap.size = w7.heap.size by omega), if_true]
      · simp only [if_true]
      · simp only [if_neg (show ¬ mq = lq by omega), if_true]
      · simp only [if_neg (show ¬ w7.heap.size = lq by omega), if_neg (show ¬ w7.heap.size = mq by omega), if_true]
      · have h2 := HF2.out k hk
        omega
    clear hb7 hb27 hb47 C7 HB26 HB46 HB4 HP4 HLO4 HB3 HQ3 HLO3 HR2 HR3 HR4 HR1 HR1' HF2 cQ0 cQ1 hsz1 hb12
    go_wp2
    go_loopw [22] (fun iv wr => ∃ k : Nat, k ≤ N ∧ iv = nu (k : Int) ∧ Hid (Go Rep w wr w7.heap.size p w.heap.size k)) (fun iv _ => N - (intOf iv).toNat)
    case atStart => exact ⟨0, Nat.zero_le _, rfl, HG⟩
    case round =>
      obtain ⟨k, hk, rfl, hG⟩ := hrel
      clear HG
      by_cases hkn : k < N
      · obtain ⟨x, hx⟩ : ∃ x, L[k]? = some x := ⟨L[k]'(by have := HN.out; omega), List.getElem?_eq_getElem _⟩
        obtain ⟨g, o, rfl, hg, hc⟩ := HC.out (by have := HN.out; omega)
        obtain ⟨q0, q1, u, q2, hru, hzu⟩ := hc k x hx
        have hb := hG.out.bel
        rw [← hb.cell (p := ⟨g, o + k * 3, none⟩) hg] at q0
        rw [← hb.cell (p := ⟨g, o + k * 3 + 1, none⟩) hg] at q1
        rw [← hb.cell (p := ⟨g, o + k * 3 + 2, none⟩) hg] at q2
        have hfx := HF.out x (List.mem_of_getElem? hx)
        have HRU := Hid.mk' hru
        have HZU := Hid.mk' hzu
        obtain ⟨ua, uc, rfl, hu1, hu2, _⟩ := hru
        unfold maxLen at hu2
        have hkI : (k : Int) < (N : Int) := by omega
        have hk0 : (0 : Int) ≤ (k : Int) := by omega
        by_cases hl : 10000 < x.p.length
        · have hlI : (10000 : Int) < (x.p.length : Int) := by omega
          clear hc hx hb HC hzu
          go_wp2
          go_ret
          exact ⟨rfl, hG.out.bel⟩
        · have hlI : ¬ (10000 : Int) < (x.p.length : Int) := by omega
          have D1 := Hid.mk' (cD.out wr w7.heap.size p k x _ hG.out (by omega) hfx HRU.out HZU.out (by omega))
          clear hc hx hb HC hzu hfx
          unfold actC at D1
          generalize x.k = xk at *
          generalize x.n = xn at *
          go_wp2_with fail
          refine D1.out.mono ?_
          rintro e w8 ⟨rfl, hG8⟩
          have D2 := Hid.mk' (cAs.out w8 w7.heap.size p (k + 1) hG8 (by omega))
          clear D1 hG8 q0 q1 q2
          go_wp2_with fail
          refine D2.out.mono ?_
          rintro e w9 ⟨rfl, hG9⟩
          have HG9 := Hid.mk' hG9
          clear D2 hG9
          go_wp2
          go_roundw
          case rel => exact ⟨k + 1, by omega, by go_num, HG9⟩
          case measure => simp [intOf]; omega
      · obtain rfl : k = N := by omega
        obtain ⟨q, m, F9, G9, d9, l9, τ9, hS9, hf9, hs9, ht9, hr9⟩ := hG.out
        have D1 := Hid.mk' (wopen_any HH.out HSS.out w wr w7.heap.size p q w.heap.size m F9 G9 d9 l9 τ9 l9.ep hS9 HE.out hf9 hs9 (by omega) hf9.ep)
        obtain ⟨b0, b1, b2, b3, bf⟩ := hS9.cells
        obtain ⟨m0, m1, m2, m3, m4, m5, m6, mf⟩ := hS9.ql.cells
        have HT9 : Hid (Small d9 ∧ d9.tr.length ≤ 3 * k) := ⟨hs9, ht9⟩
        clear hG hS9 hf9 hs9 HC
        go_wp2_with fail
        refine D1.out.mono ?_
        rintro e w8 ⟨rfl, q', m', F', l', τ', hS, hF, hrc⟩
        have D2 := Hid.mk' (cAs.out w8 w7.heap.size p k ⟨q', m', F', G9, _, l', τ', hS, hF, HT9.out.1.left _, HT9.out.2, by omega⟩ (by omega))
        clear D1 hS hF
        go_wp2_with fail
        refine D2.out.mono ?_
        rintro e w9 ⟨rfl, hG9⟩
        have HB9 := Hid.mk' hG9.bel
        clear D2 hG9
        go_wp2
        go_ret
        exact ⟨rfl, HB9.out⟩
end Lo
end Go.Proofs.YthdibodmnpcekaaGreatDoor
