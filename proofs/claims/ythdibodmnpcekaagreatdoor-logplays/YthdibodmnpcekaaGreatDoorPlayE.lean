import Derived.Test.YthdibodmnpcekaaGreatDoorPlayD
import Derived.Test.YthdibodmnpcekaaGreatDoorRowM
/- One act on both: a new log; Append. -/
namespace Go.Proofs.YthdibodmnpcekaaGreatDoor
set_option linter.ambiguousOpen false
open Go.RowKit
namespace Lo
open Sm Ft Dk
set_option linter.unusedSimpArgs false
set_option linter.unusedVariables false

set_option maxRecDepth 100000 in
set_option maxHeartbeats 8000000 in
theorem does_new {Rep : World → Nat → (Nat → Prop) → Dsk → Prop} (H : Says Rep) (w wr : World) (B p q g m : Nat) (F G : Nat → Prop) (d : Dsk) (l : Lg) (τ : Nat → Nat) (k n : Int) (pv : Value) (hS : Sw Rep w wr B p q g m F G d l d l τ) (hE : Er.Handle w) (hf : Fit l d) (hs : Small d) (hk : -9223372036854775808 ≤ k ∧ k ≤ 9223372036854775807) (hn : -9223372036854775808 ≤ n ∧ n ≤ 9223372036854775807) (hm : k % 7 = 6) (hpv : ∃ a c z, pv = .slice a c z) :
    Calls Tryz.prog 11 #[ptr B, .agg (actC k n pv)] wr fun e w' => e = .returned (.bool true) ∧ Nx Rep w w' B p g d l := by
  obtain ⟨pa, pc, pz, rfl⟩ := hpv
  obtain ⟨hS0, hX, hX6⟩ := hS.boxed H (actC k n (.slice pa pc pz))
  obtain ⟨X, hXe⟩ : ∃ X, wr.heap.size = X := ⟨_, rfl⟩
  rw [hXe] at hX hX6
  obtain ⟨w0, hw0⟩ : ∃ w0, wr.alloc (.cells (actC k n (.slice pa pc pz)) 48) = w0 := ⟨_, rfl⟩
  have cK := pick_any k 7 w0 (by decide) (by decide) hk
  rw [show ((7 : Nat) : Int) = 7 from rfl, hm] at cK
  rw [hw0] at hX hS0
  obtain ⟨x0, x1, x2⟩ := actc hX
  obtain ⟨b0, b1, b2, b3, bf⟩ := hS0.cells
  have hXl : X < w0.heap.size := (Array.getElem?_eq_some_iff.1 hX).1
  obtain ⟨σ, hσ⟩ : ∃ σ, later wr τ 6 = σ := ⟨_, rfl⟩
  rw [hσ] at hS0 hX6
  have HH := Hid.mk' H
  have HS0 := Hid.mk' hS0
  obtain ⟨m0, m1, m2, m3, m4, m5, m6, mf⟩ := hS0.ql.cells
  obtain ⟨ep, hep⟩ : ∃ ep : Nat, n % 4 = (ep : Int) := ⟨(n % 4).toNat, by omega⟩
  have hep4 : ep < 4 := by omega
  have hbl := hS0.blt
  have hml := hS0.ql.lt
  have cE : Hid (∀ wx, Calls Tryz.prog 4 #[nu n, nu 4] wx fun e w' => e = .returned (nu (ep : Int)) ∧ w' = wx) := fun wx => by
    have := pick_any n 4 wx (by decide) (by decide) hn
    rw [show ((4 : Nat) : Int) = 4 from rfl, hep] at this
    exact this
  have hmay := fit_may hf
  have f1 := hf.an
  have f2 := hf.dn
  have f3 := hf.a0
  have f4 := hf.n1
  have hcel : Hid (∀ wx, Below w0.heap.size w0 wx → (wx.cell? ⟨B, 2, none⟩ = some (ptr g) ∧ wx.cell? ⟨B, 0, none⟩ = some (ptr p) ∧ wx.cell? ⟨B, 3, none⟩ = some (ptr m) ∧ wx.cell? ⟨m, 1, none⟩ = some (nu l.at_) ∧ wx.cell? ⟨m, 2, none⟩ = some (nu l.n) ∧ wx.cell? ⟨X, 1, none⟩ = some (nu n))) := fun wx hb => ⟨(hb.cell (p := ⟨B, 2, none⟩) hbl).trans b2, (hb.cell (p := ⟨B, 0, none⟩) hbl).trans b0, (hb.cell (p := ⟨B, 3, none⟩) hbl).trans b3, (hb.cell (p := ⟨m, 1, none⟩) hml).trans m1, (hb.cell (p := ⟨m, 2, none⟩) hml).trans m2, (hb.cell (p := ⟨X, 1, none⟩) hXl).trans x1⟩
  have C1 : Hid (∀ wx, Below w0.heap.size w0 wx → Calls Tryz.prog 7 #[ptr g, nu l.at_, nu l.n, .int .u32 (ep : Int)] wx fun e w' => ∃ q2, e = .returned (.tuple #[ptr q2, nu 0]) ∧ (w'.cell? ⟨B, 2, none⟩ = some (ptr g) ∧ w'.cell? ⟨B, 0, none⟩ = some (ptr p) ∧ w'.cell? ⟨B, 3, none⟩ = some (ptr m) ∧ w'.cell? ⟨m, 1, none⟩ = some (nu l.at_) ∧ w'.cell? ⟨m, 2, none⟩ = some (nu l.n) ∧ w'.cell? ⟨X, 1, none⟩ = some (nu n)) ∧ Hid (Ql w' q2 g ⟨l.at_, l.n, ep, 0, 0, false⟩ ∧ w0.heap.size ≤ q2 ∧ Below w0.heap.size w0 w')) := fun wx hb => by
    refine (rlNew_yes w.heap.size wx g G d l.at_ l.n ep (HS0.out.below HH.out hb).ref (by omega) (by omega) hmay).mono ?_
    rintro e w' ⟨q2, rfl, h1, h2, h3⟩
    have hb' := below_fromS hb h3
    exact ⟨q2, rfl, hcel.out w' hb', h1, Nat.le_trans hb.size h2, hb'⟩
  have C2 : Hid (∀ wx, Below w0.heap.size w0 wx → Calls Tryz.prog 8 #[ptr p, nu l.at_, nu l.n, .int .u32 (ep : Int)] wx fun e w' => ∃ q2, e = .returned (.tuple #[ptr q2, .nilIface]) ∧ (w'.cell? ⟨B, 2, none⟩ = some (ptr g) ∧ w'.cell? ⟨B, 0, none⟩ = some (ptr p) ∧ w'.cell? ⟨B, 3, none⟩ = some (ptr m) ∧ w'.cell? ⟨m, 1, none⟩ = some (nu l.at_) ∧ w'.cell? ⟨m, 2, none⟩ = some (nu l.n) ∧ w'.cell? ⟨X, 1, none⟩ = some (nu n)) ∧ Hid (Pl w' q2 p ⟨l.at_, l.n, ep, 0, 0, false⟩ ∧ wx.heap.size ≤ q2 ∧ Below wx.heap.size wx w')) := fun wx hb => by
    refine (new_yes HH.out wx p F d l.at_ l.n ep (HS0.out.below HH.out hb).rep (by omega) (by omega) hmay).mono ?_
    rintro e w' ⟨q2, rfl, h1, h2, h3⟩
    exact ⟨q2, rfl, hcel.out w' (below_fromS hb h3), h1, h2, h3⟩
  have cQ : Hid (∀ wx, Er.Handle wx → Calls Tryz.prog 10 #[.nilIface, nu 0] wx fun e w' => e = .returned (.bool true) ∧ Below wx.heap.size wx w') := fun wx hg => plainL 0 (by decide) wx hg
  have hfit : Hid (Fit ⟨l.at_, l.n, ep, 0, 0, false⟩ d) := ⟨f3, f4, f1, f2, by simp only; omega, by simp only; omega, hf.lo, hf.hi⟩
  have hsm := Hid.mk' hs
  have HE := Hid.mk' hE
  have hS1 := hcel.out w0 (Below.refl _ _)
  have hwe : IntKind.u32.wrap (ep : Int) = (ep : Int) := by rw [IntKind.wrap_u32]; omega
  unfold actC at hw0 ⊢
  clear hS hf hs hk hm hX hS0 hσ hX6 H hE hmay f1 f2 f3 f4 hep m0 m1 m2 m3 m4 m5 m6 mf
  go_enter Tryz.func11, Tryz.ntmps11
  go_wp2_with fail
  refine cK.mono ?_
  rintro e w' ⟨rfl, hw⟩
  subst w'
  clear hw0 cK
  go_upto_region 11 with fail
  go_wp2_with fail
  go_region_held3 (fun w' => w'.cell? ⟨B, 2, none⟩ = some (ptr g) ∧ w'.cell? ⟨B, 0, none⟩ = some (ptr p) ∧ w'.cell? ⟨B, 3, none⟩ = some (ptr m) ∧ w'.cell? ⟨m, 1, none⟩ = some (nu l.at_) ∧ w'.cell? ⟨m, 2, none⟩ = some (nu l.n) ∧ w'.cell? ⟨X, 1, none⟩ = some (nu n)) (first | assumption | exact hS1 | go_keep) (first | (go_at_call 4; with_reducible refine (cE.out _).mono ?_; rintro e w' ⟨rfl, hw⟩; subst w') | (go_at_call 7; with_reducible refine (C1.out _ ?hb).mono ?_; (case hb => (first | exact Below.refl _ _ | exact (Below.refl _ _).drew | fail)); rintro e w1 ⟨q1, rfl, hS2, hX1⟩) | fail)
  obtain ⟨hQ1, hlo1, hb1⟩ := hX1.out
  have hS3 := hcel.out w1 hb1
  have HQ1 := Hid.mk' hQ1
  clear hS1 hS2 hX1 C1 hQ1
  go_upto_region 12 with fail
  go_wp2_with fail
  go_region_held3 (fun w' => w'.cell? ⟨B, 2, none⟩ = some (ptr g) ∧ w'.cell? ⟨B, 0, none⟩ = some (ptr p) ∧ w'.cell? ⟨B, 3, none⟩ = some (ptr m) ∧ w'.cell? ⟨m, 1, none⟩ = some (nu l.at_) ∧ w'.cell? ⟨m, 2, none⟩ = some (nu l.n) ∧ w'.cell? ⟨X, 1, none⟩ = some (nu n)) (first | assumption | exact hS3 | go_keep) (first | (go_at_call 4; with_reducible refine (cE.out _).mono ?_; rintro e w' ⟨rfl, hw⟩; subst w') | (go_at_call 8; with_reducible refine (C2.out _ ?hb).mono ?_; (case hb => (first | exact hb1 | exact hb1.drew | fail)); rintro e w2 ⟨q2, rfl, hS4, hX2⟩) | fail)
  have hX2' : Pl w2 q2 p ⟨l.at_, l.n, ep, 0, 0, false⟩ ∧ w1.heap.size ≤ q2 ∧ Below w1.heap.size w1 w2 := by
    obtain ⟨h1, h2, h3⟩ := hX2.out
    exact ⟨h1, h2, by first | exact h3 | exact ⟨h3.os, h3.tape, h3.output, h3.size, h3.block⟩⟩
  obtain ⟨hP2, hlo2, hb12⟩ := hX2'
  have hb02 := below_fromS hb1 hb12
  have hE2 := HE.out.below (HS0.out.below HH.out hb02).bel
  have C5 := Hid.mk' (cQ.out w2 hE2)
  have HP2 := Hid.mk' hP2
  have HB02 := Hid.mk' hb02
  have HB12 := Hid.mk' hb12
  clear hS3 hS4 hX2 C2 hP2 hb12 hb02 hE2 hcel cE
  go_wp2_with fail
  refine C5.out.mono ?_
  rintro e w3 ⟨rfl, hb23⟩
  have hb03 := below_fromS HB02.out hb23
  have hP3 : Pl w3 q2 p ⟨l.at_, l.n, ep, 0, 0, false⟩ := (hb23.block q2 HP2.out.lt).trans HP2.out
  have hQ3 : Ql w3 q1 g ⟨l.at_, l.n, ep, 0, 0, false⟩ := ((below_fromS HB12.out hb23).block q1 HQ1.out.lt).trans HQ1.out
  have hne : q2 ≠ q1 := fun e => by
    have h1 := HQ1.out.lt
    omega
  obtain ⟨⟨e1, e2⟩, hSR⟩ := HS0.out.renew HH.out hb03 hP3 hQ3 (Nat.le_trans hb1.size hlo2) hlo1 hne
  obtain ⟨b0, b1, b2, b3, bf⟩ := wl_cells e1
  obtain ⟨y0, y1, y2, y3, yf⟩ := wl_cells e2
  have HSR := Hid.mk' hSR
  clear C5 cQ hb23 hb03 hP3 hQ3 hSR e1 e2 hb1
  go_wp2
  go_ret
  exact ⟨rfl, _, _, _, _, _, _, _, HSR.out, hfit.out, hsm.out, Nat.le_add_right _ _, .inr (Nat.zero_le _), rfl⟩

set_option maxRecDepth 100000 in
set_option maxHeartbeats 8000000 in
theorem does_app {Rep : World → Nat → (Nat → Prop) → Dsk → Prop} (H : Says Rep) (SF : FrameW) (w wr : World) (B p q g m : Nat) (F G : Nat → Prop) (d : Dsk) (l : Lg) (τ : Nat → Nat) (k n : Int) (pv : Value) (x : List UInt8) (hS : Sw Rep w wr B p q g m F G d l d l τ) (hE : Er.Handle w) (ht : d.tr.length ≤ 100000) (hr : l.recs ≤ 100000) (hf : Fit l d) (hs : Small d) (hk : -9223372036854775808 ≤ k ∧ k ≤ 9223372036854775807) (hn : -9223372036854775808 ≤ n ∧ n ≤ 9223372036854775807) (hm : k % 7 < 3) (hv : RdB w pv x) (hz : Pk.Nz pv) (hx : x.length ≤ 10000) :
    Calls Tryz.prog 11 #[ptr B, .agg (actC k n pv)] wr fun e w' => e = .returned (.bool true) ∧ Nx Rep w w' B p g d l := by
  have hpv : ∃ a c z, pv = .slice a c z := by
    obtain ⟨a, c, h, _⟩ := hv
    exact ⟨a, _, c, h⟩
  obtain ⟨pa, pc, pz, rfl⟩ := hpv
  obtain ⟨hS0, hX, hX6⟩ := hS.boxed H (actC k n (.slice pa pc pz))
  obtain ⟨X, hXe⟩ : ∃ X, wr.heap.size = X := ⟨_, rfl⟩
  rw [hXe] at hX hX6
  obtain ⟨w0, hw0⟩ : ∃ w0, wr.alloc (.cells (actC k n (.slice pa pc pz)) 48) = w0 := ⟨_, rfl⟩
  have cK := pick_any k 7 w0 (by decide) (by decide) hk
  rw [show ((7 : Nat) : Int) = 7 from rfl] at cK
  rw [hw0] at hX hS0
  obtain ⟨x0, x1, x2⟩ := actc hX
  obtain ⟨b0, b1, b2, b3, bf⟩ := hS0.cells
  have hXl : X < w0.heap.size := (Array.getElem?_eq_some_iff.1 hX).1
  obtain ⟨σ, hσ⟩ : ∃ σ, later wr τ 6 = σ := ⟨_, rfl⟩
  rw [hσ] at hS0 hX6
  have HH := Hid.mk' H
  have HS0 := Hid.mk' hS0
  obtain ⟨K, hK⟩ : ∃ K : Int, k % 7 = K := ⟨_, rfl⟩
  rw [hK] at cK hm
  have hK0 : 0 ≤ K := by omega
  have j3 : (K == 3) = false := by simp; omega
  have j4 : (K == 4) = false := by simp; omega
  have j5 : (K == 5) = false := by simp; omega
  have j6 : (K == 6) = false := by simp; omega
  have HPV : Hid (RdB w (.slice pa pc pz) x) := hv
  obtain ⟨len, hlen⟩ : ∃ len, x.length = len := ⟨_, rfl⟩
  have HL := Hid.mk' hlen
  have C1 : Hid (Calls Tryz.prog 22 #[.slice pa pc pz] w0 fun e w' => ∃ gb cap, e = .returned (.slice (some ⟨gb, 0, none⟩) len cap) ∧ (len + 16 ≤ cap ∧ cap ≤ maxLen) ∧ Hid (w'.ownsRow w0.heap.size 5 1 (.slice (some ⟨gb, 0, none⟩) (len + 16) cap) (len + 16) ((x ++ mksB 16).map by1) ∧ Below w0.heap.size w0 w')) := by
    refine (lentB_any _ x w0 (hv.below hS0.bel) (by omega)).mono ?_
    rintro e w' ⟨gb, cap, rfl, h1, h2, h3, h4⟩
    rw [hlen] at h1 h3 ⊢
    exact ⟨gb, cap, rfl, ⟨h1, h2⟩, h3, h4⟩
  obtain ⟨A, hA⟩ : ∃ A, app l d x = A := ⟨_, rfl⟩
  have hAf := app_fit hf x
  have hAs := hs.app l x
  have hAle := app_le l d x
  rw [hA] at hAf hAs hAle
  have HFIN : Hid (Fit A.2.2 A.2.1 ∧ Small A.2.1 ∧ A.2.1.tr.length ≤ d.tr.length + 3 ∧ (A.2.2.recs ≤ l.recs + 1 ∨ A.2.2.recs ≤ 4096) ∧ A.2.1.n = d.n) := ⟨hAf.1, hAs, hAf.2.1, .inl hAf.2.2.1, hAf.2.2.2.2.2.2⟩
  have C2 : Hid (∀ wx σ1 v, Sw Rep w wx B p q g m F G d l d l σ1 → RdB wx v x → Pk.Nz v → Calls Tryz.prog 23 #[ptr q, v] wx fun e w' => e = .returned (errE A.1) ∧ ∃ F', Sw Rep w w' B p q g m F' G A.2.1 A.2.2 d l (later wx σ1 1) ∧ Keep (fun k => k = q ∨ F k) wx w') := fun wx σ1 v h h1 h2 => by
    have hqF : ¬ F q := fun hc => by have := h.tf q hc; rw [h.tq] at this; cases this
    refine (append_any HH.out SF wx p q F d l v x h.rep h.pl hqF hf (by omega) (by omega) h1 h2).mono ?_
    rintro e w' ⟨rfl, hL⟩
    rw [hA] at hL ⊢
    obtain ⟨F', r1, r2, r3, r4⟩ := hL
    exact ⟨rfl, F', h.app1 HH.out r1 r2 r3 r4, r3⟩
  have C3 : Hid (∀ wx σ1 F' d' l', Sw Rep w wx B p q g m F' G d' l' d l σ1 → Calls Tryz.prog 24 #[ptr m, .slice pa pc pz] wx fun e w' => e = .returned (nu (A.1 : Int)) ∧ ∃ G', Sw Rep w w' B p q g m F' G' d' l' A.2.1 A.2.2 (later wx σ1 2) ∧ Keep (fun k => k = m ∨ G k) wx w') := fun wx σ1 F' d' l' h => by
    have hqF : ¬ G m := fun hc => by have := h.tg m hc; rw [h.tm] at this; cases this
    refine (rlAppend w.heap.size wx g m G d l _ x h.ref h.ql hqF hf (by omega) (by omega) (HPV.out.below h.bel) hz (by omega)).mono ?_
    rintro e w' ⟨rfl, hL⟩
    rw [hA] at hL ⊢
    obtain ⟨G', r1, r2, r3, r4⟩ := hL
    exact ⟨rfl, G', h.app2 HH.out r1 r2 r3 r4, r3⟩
  have cQ : Hid (∀ wx, Er.Handle wx → Calls Tryz.prog 10 #[errE A.1, nu (A.1 : Int)] wx fun e w' => e = .returned (.bool true) ∧ Below wx.heap.size wx w') := fun wx hg => plainL A.1 hAle wx hg
  have cB : Hid (∀ wx gb cap base, RdB wx (.slice pa pc pz) x → len + 16 ≤ cap → cap ≤ maxLen → wx.ownsRow base 5 1 (.slice (some ⟨gb, 0, none⟩) (len + 16) cap) (len + 16) ((x ++ mksB 16).map by1) → gb < wx.heap.size → Calls Tryz.prog 25 #[.slice (some ⟨gb, 0, none⟩) len cap, .slice pa pc pz] wx fun e w' => e = .returned (.bool true) ∧ Below wx.heap.size wx w') := fun wx gb cap base h1 h2 h3 h4 h5 => by
    have := keptB_any (.slice pa pc pz) x gb cap base wx h1 (by omega) (by rw [hlen]; exact h2) h3 (by rw [hlen]; exact h4) h5
    rw [hlen] at this
    exact this
  have HE := Hid.mk' hE
  have HX6 := Hid.mk' hX6
  have HHX := Hid.mk' hX
  unfold actC at hw0 ⊢
  clear hS hf hs hk hm hX hS0 hσ hX6 H SF hE ht hr hv hz hA hAf hAs hAle hK hlen
  go_enter Tryz.func11, Tryz.ntmps11
  go_wp2_with fail
  refine cK.mono ?_
  rintro e w' ⟨rfl, hw⟩
  subst w'
  clear hw0 cK
  go_wp2_with fail
  refine C1.out.mono ?_
  rintro e w1 ⟨gb, cap, rfl, ⟨hc1, hc2⟩, hR1⟩
  obtain ⟨ho1, hb1⟩ := hR1.out
  have hS1 := HS0.out.fresh HH.out hb1 6
  have hgb := ho1.lt gb rfl
  have hm6 : later w0 σ 6 gb = 6 := later_new hgb.1
  have hX1 : later w0 σ 6 X = 6 := (later_old hXl).trans HX6.out
  obtain ⟨σ1, hσ1⟩ : ∃ σ1, later w0 σ 6 = σ1 := ⟨_, rfl⟩
  rw [hσ1] at hS1 hm6 hX1
  obtain ⟨b0, b1, b2, b3, bf⟩ := hS1.cells
  have hxc1 : w1.heap[X]? = some (.cells #[nu k, nu n, .slice pa pc pz] 48) := (hb1.block X hXl).trans HHX.out
  have hgl1 : gb < w1.heap.size := hgb.2
  have hXl1 : X < w1.heap.size := (Array.getElem?_eq_some_iff.1 hxc1).1
  have hrd : RdB w1 (.slice (some ⟨gb, 0, none⟩) len cap) x := by
    have := rdB_lent (l := x) (g := gb) (cap := cap) (base := w0.heap.size) (w := w1) (by rw [HL.out]; exact ho1) (by rw [HL.out]; exact hc1) hc2 hgl1
    rw [HL.out] at this
    exact this
  have D2 := Hid.mk' (C2.out w1 σ1 _ hS1 hrd (.inr ⟨_, _, _, rfl⟩))
  have HO1 := Hid.mk' ho1
  have HM6 := Hid.mk' hm6
  have HX1 := Hid.mk' hX1
  have HXC := Hid.mk' hxc1
  have HS1 := Hid.mk' hS1
  have hlow : w.heap.size ≤ gb := Nat.le_trans HS0.out.bel.size hgb.1
  have HC2 := Hid.mk' hc2
  unfold maxLen at hc2
  clear hS1 hb1 ho1 hR1 C1 C2 hrd hgb hσ1 hm6 hX1 hxc1 x0 x1 x2 hXl
  generalize hen : errE A.1 = en at *
  go_wp2_with fail
  refine D2.out.mono ?_
  rintro e w2 ⟨rfl, F2, hS2, hk2⟩
  have hne2 : ∀ k, σ1 k = 6 → ¬ (k = q ∨ F k) := fun k h6 hc => by
    rcases hc with rfl | hc
    · have := HS1.out.tq; rw [h6] at this; cases this
    · have := HS1.out.tf k hc; rw [h6] at this; cases this
  have hO2 := hk2.own HO1.out (fun b hb => by
    have hb' : gb = b := by simpa [Value.ownBlock] using hb
    rw [← hb']
    exact hne2 gb HM6.out)
  have hX2 := hk2.at HXC.out (hne2 X HX1.out)
  have hg2 : later w1 σ1 1 gb = 6 := (later_old hgl1).trans HM6.out
  have hXm2 : later w1 σ1 1 X = 6 := (later_old hXl1).trans HX1.out
  obtain ⟨σ2, hσ2⟩ : ∃ σ2, later w1 σ1 1 = σ2 := ⟨_, rfl⟩
  rw [hσ2] at hS2 hg2 hXm2
  have hgl2 := Nat.lt_of_lt_of_le hgl1 hk2.size
  have hXl2 := Nat.lt_of_lt_of_le hXl1 hk2.size
  have HQ : Hid (∀ W, Below w2.heap.size w2 W → (W.cell? ⟨B, 3, none⟩ = some (ptr m) ∧ W.cell? ⟨X, 2, none⟩ = some (.slice pa pc pz))) := fun W hW => ⟨(hS2.below HH.out hW).cells.2.2.2.1, (hW.cell (p := ⟨X, 2, none⟩) hXl2).trans (actc hX2).2.2⟩
  have D3 : Hid (∀ wx, Below w2.heap.size w2 wx → Calls Tryz.prog 24 #[ptr m, .slice pa pc pz] wx fun e w' => e = .returned (nu (A.1 : Int)) ∧ (w'.cell? ⟨B, 3, none⟩ = some (ptr m) ∧ w'.cell? ⟨X, 2, none⟩ = some (.slice pa pc pz)) ∧ Hid (∃ G' σ3, Sw Rep w w' B p q g m F2 G' A.2.1 A.2.2 A.2.1 A.2.2 σ3 ∧ w'.ownsRow w0.heap.size 5 1 (.slice (some ⟨gb, 0, none⟩) (len + 16) cap) (len + 16) ((x ++ mksB 16).map by1) ∧ w'.heap[X]? = some (.cells #[nu k, nu n, .slice pa pc pz] 48) ∧ σ3 gb = 6)) := fun wx hb => by
    have hSx := hS2.below HH.out hb
    refine (C3.out wx σ2 F2 _ _ hSx).mono ?_
    rintro e w' ⟨rfl, G', hS3, hk3⟩
    have hne3 : ∀ k, σ2 k = 6 → ¬ (k = m ∨ G k) := fun k h6 hc => by
      rcases hc with rfl | hc
      · have := hSx.tm; rw [h6] at this; cases this
      · have := hSx.tg k hc; rw [h6] at this; cases this
    have hO3 := hk3.own (ownB hO2 hb) (fun b hb => by
      have hb' : gb = b := by simpa [Value.ownBlock] using hb
      rw [← hb']
      exact hne3 gb hg2)
    have hX3 := hk3.at ((hb.block X hXl2).trans hX2) (hne3 X hXm2)
    exact ⟨rfl, ⟨hS3.cells.2.2.2.1, (actc hX3).2.2⟩, G', _, hS3, hO3, hX3, (later_old (Nat.lt_of_lt_of_le hgl2 hb.size)).trans hg2⟩
  have D4 : Hid (∀ wx, Hid (∃ G' σ3, Sw Rep w wx B p q g m F2 G' A.2.1 A.2.2 A.2.1 A.2.2 σ3 ∧ wx.ownsRow w0.heap.size 5 1 (.slice (some ⟨gb, 0, none⟩) (len + 16) cap) (len + 16) ((x ++ mksB 16).map by1) ∧ wx.heap[X]? = some (.cells #[nu k, nu n, .slice pa pc pz] 48) ∧ σ3 gb = 6) → ∀ w', Below wx.heap.size wx w' → (w'.cell? ⟨B, 3, none⟩ = some (ptr m) ∧ w'.cell? ⟨X, 2, none⟩ = some (.slice pa pc pz)) ∧ Hid (∃ G' σ3, Sw Rep w w' B p q g m F2 G' A.2.1 A.2.2 A.2.1 A.2.2 σ3 ∧ w'.ownsRow w0.heap.size 5 1 (.slice (some ⟨gb, 0, none⟩) (len + 16) cap) (len + 16) ((x ++ mksB 16).map by1) ∧ w'.heap[X]? = some (.cells #[nu k, nu n, .slice pa pc pz] 48) ∧ σ3 gb = 6)) := fun wx h w' hb => by
    obtain ⟨G', σ3, h1, h2, h3, h4⟩ := h.out
    have h3' := (hb.block X (Array.getElem?_eq_some_iff.1 h3).1).trans h3
    exact ⟨⟨(h1.below HH.out hb).cells.2.2.2.1, (actc h3').2.2⟩, G', σ3, h1.below HH.out hb, ownB h2 hb, h3', h4⟩
  have D5 : Hid (∀ wx, Hid (∃ G' σ3, Sw Rep w wx B p q g m F2 G' A.2.1 A.2.2 A.2.1 A.2.2 σ3 ∧ wx.ownsRow w0.heap.size 5 1 (.slice (some ⟨gb, 0, none⟩) (len + 16) cap) (len + 16) ((x ++ mksB 16).map by1) ∧ wx.heap[X]? = some (.cells #[nu k, nu n, .slice pa pc pz] 48) ∧ σ3 gb = 6) → Er.Handle wx ∧ RdB wx (.slice pa pc pz) x ∧ gb < wx.heap.size) := fun wx h => by
    obtain ⟨G', σ3, h1, h2, h3, h4⟩ := h.out
    exact ⟨HE.out.below h1.bel, HPV.out.below h1.bel, (h2.lt gb rfl).2⟩
  have hS5 := HQ.out w2 (Below.refl _ _)
  clear hS2 hO2 hX2 hk2 hne2 HXC HS1 HO1 D2 C3 HQ hσ2 hg2 hXm2 hgl1 hXl1 hgl2 hXl2 b0 b1 b2 b3 bf
  go_upto_region 20 with fail
  go_wp2_with fail
  go_region_held3 (fun w' => w'.cell? ⟨B, 3, none⟩ = some (ptr m) ∧ w'.cell? ⟨X, 2, none⟩ = some (.slice pa pc pz)) (first | assumption | exact hS5 | go_keep) (first | (go_at_call 24; with_reducible refine (D3.out _ ?hb).mono ?_; (case hb => (first | exact Below.refl _ _ | exact (Below.refl _ _).drew | fail)); rintro e w3 ⟨rfl, hS6, hQ3⟩) | (go_at_call 10; with_reducible refine (cQ.out _ (D5.out _ hQ3).1).mono ?_; rintro e w4 ⟨rfl, hb4⟩; obtain ⟨hS7, hQ4⟩ := D4.out _ hQ3 _ hb4; clear hb4) | (go_at_call 25; with_reducible refine (cB.out _ gb cap w0.heap.size (D5.out _ hQ4).2.1 hc1 HC2.out (by obtain ⟨_, _, _, h2, _⟩ := hQ4.out; exact h2) (D5.out _ hQ4).2.2).mono ?_; rintro e w5 ⟨rfl, hb5⟩; obtain ⟨hS8, hQ5⟩ := D4.out _ hQ4 _ hb5; clear hb5) | fail)
  obtain ⟨G3, σ3, hW5, hO5, hX5, hg5⟩ := hQ5.out
  have HL5 : Hid (∃ xs, Sw Rep w w5 B p q g m F2 G3 A.2.1 A.2.2 A.2.1 A.2.2 σ3 ∧ w5.ownsRow w0.heap.size 5 1 (.slice (some ⟨gb, 0, none⟩) (len + 16) cap) (len + 16) xs) := ⟨_, hW5, hO5⟩
  have HG5 : Hid (6 ≤ σ3 gb ∧ w.heap.size ≤ gb) := ⟨by rw [hg5]; decide, hlow⟩
  clear hS5 hS6 hS7 hS8 hQ3 hQ4 hQ5 hW5 hO5 hX5 hg5 hlow D3 D4 D5 cB cQ hXe
  rename World => w9
  go_wp2
  go_loopw [11] (fun iv wx => ∃ j : Nat, j ≤ len ∧ iv = nu (j : Int) ∧ Hid (∃ xs, Sw Rep w wx B p q g m F2 G3 A.2.1 A.2.2 A.2.1 A.2.2 σ3 ∧ wx.ownsRow w0.heap.size 5 1 (.slice (some ⟨gb, 0, none⟩) (len + 16) cap) (len + 16) xs)) (fun iv _ => len - (intOf iv).toNat)
  case atStart => exact ⟨0, Nat.zero_le _, rfl, HL5⟩
  case round =>
    obtain ⟨j, hj, rfl, hLp⟩ := hrel
    obtain ⟨xs, hW, hO⟩ := hLp.out
    by_cases hjl : j < len
    · obtain ⟨⟨u, _, hu⟩, hfz⟩ := Pk.own_cellS hO j (by omega)
      have hjI : (j : Int) < (len : Int) := by omega
      have hj0 : (0 : Int) ≤ (j : Int) := by omega
      have HN : Hid (∃ xs, Sw Rep w (wr.setCell ⟨gb, j, none⟩ (.int .u8 238)) B p q g m F2 G3 A.2.1 A.2.2 A.2.1 A.2.2 σ3 ∧ (wr.setCell ⟨gb, j, none⟩ (.int .u8 238)).ownsRow w0.heap.size 5 1 (.slice (some ⟨gb, 0, none⟩) (len + 16) cap) (len + 16) xs) := ⟨_, hW.keep HH.out ((Keep.refl (fun k => k = gb) wr).setCell (p := ⟨gb, j, none⟩) (.inl rfl) _) (fun k hk => by rw [hk]; exact HG5.out), own_set hO j (.int .u8 238)⟩
      clear hLp hW hO HL5
      go_wp2
      go_roundw
      case rel => exact ⟨j + 1, by omega, by go_num, HN⟩
      case measure => simp [intOf]; omega
    · obtain rfl : j = len := by omega
      have HW := Hid.mk' hW
      clear hLp hW hO HL5
      go_wp2
      go_ret
      exact ⟨rfl, _, _, _, _, _, _, _, HW.out, HFIN.out⟩
end Lo
end Go.Proofs.YthdibodmnpcekaaGreatDoor
