/- Any script of acts on both disks. -/
import Derived.Test.YtlgjnefieflmbaaDoorArePl
namespace Go.Proofs.YtlgjnefieflmbaaDoor
set_option linter.ambiguousOpen false
open Go.RowKit
namespace Ae
open Sm Ft Dk Pk
set_option linter.unusedSimpArgs false
set_option linter.unusedVariables false

/-- An act. -/
structure Actn where
  k : Int
  a : Int
  n : Int
  ep : Nat
  p : List UInt8

def Actn.fits (x : Actn) : Prop := (-9223372036854775808 ≤ x.k ∧ x.k ≤ 9223372036854775807) ∧ (-9223372036854775808 ≤ x.a ∧ x.a ≤ 9223372036854775807) ∧ (-9223372036854775808 ≤ x.n ∧ x.n ≤ 9223372036854775807) ∧ x.ep < 4294967296 ∧ x.p.length ≤ 140737488351232

/-- A list of acts lies here. -/
def RdN (w : World) (v : Value) (L : List Actn) : Prop :=
  ∃ a cap, v = .slice a L.length cap ∧ L.length ≤ cap ∧ cap ≤ maxLen ∧ (0 < L.length → ∃ g o, a = some ⟨g, o, none⟩ ∧ g < w.heap.size ∧ ∀ (i : Nat) (x : Actn), L[i]? = some x → w.cell? ⟨g, o + i * 5, none⟩ = some (nu x.k) ∧ w.cell? ⟨g, o + i * 5 + 1, none⟩ = some (nu x.a) ∧ w.cell? ⟨g, o + i * 5 + 2, none⟩ = some (nu x.n) ∧ w.cell? ⟨g, o + i * 5 + 3, none⟩ = some (.int .u32 (x.ep : Int)) ∧ ∃ u, w.cell? ⟨g, o + i * 5 + 4, none⟩ = some u ∧ RdB w u x.p ∧ Pk.Nz u)

/-- At any time of a script. -/
def Go (Rep : World → Nat → (Nat → Prop) → Dsk → Prop) (w wr : World) (p g i : Nat) : Prop := ∃ F G d, Dp Rep w wr p g F G d d ∧ Nb d ∧ d.tr.length ≤ 4097 * i

set_option maxRecDepth 100000 in
set_option maxHeartbeats 8000000 in
theorem areaPlays_yes {Rep : World → Nat → (Nat → Prop) → Dsk → Prop} (H : Says Rep) (SW : ∀ (w : World) (p : Nat) (F : Nat → Prop) (d : Dsk), Rep w p F d → Calls Tryd.prog 17 #[ptr p] w fun e w' => e = .returned (nu (d.tr.length : Int)) ∧ Below w.heap.size w w') (SV : SaveC Rep) (LD : LoadC Rep) (n : Int) (sv : Value) (L : List Actn) (w : World) (h1 : 1 ≤ n) (h2 : n ≤ 4096) (hR : RdN w sv L) (hF : ∀ x ∈ L, x.fits) (hE : Er.Handle w) :
    Calls Tryd.prog 3 #[nu n, sv] w fun e w' => e = .returned (.bool true) ∧ Below w.heap.size w w' := by
  obtain ⟨N, hN⟩ : ∃ N, L.length = N := ⟨_, rfl⟩
  obtain ⟨av, cv, rfl, hc1, hc2, hcell⟩ := hR
  have HC := Hid.mk' hcell
  have HN := Hid.mk' hN
  rw [hN] at hc1 ⊢
  unfold maxLen at hc2
  clear hcell
  have c1 := Hid.mk' (H.newYes n w h1 h2)
  have c2 : Hid (∀ wx, Calls Tryd.prog 8 #[nu n] wx fun e w' => e = .returned (.tuple #[ptr wx.heap.size, nu 0]) ∧ RDk w' wx.heap.size wx.heap.size (.slice none 0 0) ⟨n, -1, []⟩ ∧ Below wx.heap.size wx w') := fun wx => rNew_yes n wx h1 h2
  have cQ0 : Hid (∀ wx, Er.Handle wx → Calls Tryd.prog 9 #[.nilIface, nu 0] wx fun e w' => e = .returned (.bool true) ∧ Below wx.heap.size wx w') := fun wx hg => plainL 0 (by decide) wx hg
  have HH := Hid.mk' H
  have HE := Hid.mk' hE
  have HF := Hid.mk' hF
  have hnb : Hid (Nb ⟨n, -1, []⟩) := ⟨h1, h2, by show -1 ≤ -1; decide, by show -1 ≤ 9223372036854775807; decide, fun r hr => by simp at hr⟩
  clear hF hE H
  go_enter Tryd.func3, Tryd.ntmps3
  go_wp2_with fail
  refine c1.out.mono ?_
  rintro e w1 ⟨p, F, rfl, hR1, hF1, hb1⟩
  have HR1 := Hid.mk' hR1
  have HF1 := Hid.mk' hF1
  have HB1 := Hid.mk' hb1
  clear hR1 hF1 hb1 c1
  go_wp2_with fail
  refine (c2.out _).mono ?_
  rintro e w2 ⟨rfl, hD2, hb2⟩
  have hS2 : Dp Rep w w2 p w1.heap.size F (rfp w1.heap.size (.slice none 0 0)) ⟨n, -1, []⟩ ⟨n, -1, []⟩ := by
    refine ⟨HH.out.keep HR1.out (Keep.of_below (F := fun _ => False) hb2) (fun _ _ h => h), ⟨_, ⟨hD2.blk, own_mono hD2.row HB1.out.size, Nat.le_trans HB1.out.size hD2.lo, hD2.ne⟩, rfl, Nat.le_trans HB1.out.size hb2.size⟩, fun k hf hc => ?_, HF1.out, below_fromS HB1.out hb2⟩
    have h3 := HH.out.lt HR1.out k hf
    rcases hc with rfl | hc
    · omega
    · simp [Value.ownBlock] at hc
  have HS2 := Hid.mk' hS2
  have C3 := Hid.mk' (cQ0.out w2 (HE.out.below hS2.bel))
  clear hD2 hb2 hS2 c2
  go_wp2_with fail
  refine C3.out.mono ?_
  rintro e w3 ⟨rfl, hb3⟩
  have HG3 : Hid (Go Rep w w3 p w1.heap.size 0) := ⟨_, _, _, HS2.out.below HH.out hb3, hnb.out, Nat.le_refl _⟩
  clear hb3 C3 HS2 HR1 HF1 HB1 cQ0
  by_cases g1 : 2000 < N
  · have g1I : (2000 : Int) < (N : Int) := by omega
    go_wp2
    go_ret
    obtain ⟨F', G', d', hS, _⟩ := HG3.out
    exact ⟨rfl, hS.bel⟩
  have g1I : ¬ (2000 : Int) < (N : Int) := by omega
  obtain ⟨g, hg⟩ : ∃ g, w1.heap.size = g := ⟨_, rfl⟩
  rw [hg] at HG3
  rw [hg]
  clear hg
  go_wp2
  go_loopw [9, 10, 11] (fun iv _ _ wr => ∃ k : Nat, k ≤ N ∧ iv = nu (k : Int) ∧ Hid (Go Rep w wr p g k)) (fun iv _ _ _ => N - (intOf iv).toNat)
  case atStart => exact ⟨0, Nat.zero_le _, rfl, HG3⟩
  case round =>
    obtain ⟨i, hi, rfl, hG⟩ := hrel
    clear HG3
    obtain ⟨F4, G4, d4, hS4, hN4, ht4⟩ := hG.out
    by_cases hin : i < N
    · obtain ⟨x, hx⟩ : ∃ x, L[i]? = some x := ⟨L[i]'(by have := HN.out; omega), List.getElem?_eq_getElem _⟩
      obtain ⟨gx, o, rfl, hgx, hc⟩ := HC.out (by have := HN.out; omega)
      obtain ⟨q0, q1, q2, q3, u, q4, hru, hzu⟩ := hc i x hx
      have hb := hS4.bel
      rw [← hb.cell (p := ⟨gx, o + i * 5, none⟩) hgx] at q0
      rw [← hb.cell (p := ⟨gx, o + i * 5 + 1, none⟩) hgx] at q1
      rw [← hb.cell (p := ⟨gx, o + i * 5 + 2, none⟩) hgx] at q2
      rw [← hb.cell (p := ⟨gx, o + i * 5 + 3, none⟩) hgx] at q3
      rw [← hb.cell (p := ⟨gx, o + i * 5 + 4, none⟩) hgx] at q4
      have hfx := HF.out x (List.mem_of_getElem? hx)
      have HRU := Hid.mk' hru
      have HZU := Hid.mk' hzu
      obtain ⟨ua, uc, rfl, hu1, hu2, _⟩ := hru
      have hiI : (i : Int) < (N : Int) := by omega
      have hi0 : (0 : Int) ≤ (i : Int) := by omega
      clear hc hx hb HC
      have hb0 : Below wr.heap.size wr (wr.alloc (.cells (actC x.k x.a x.n x.ep (.slice ua x.p.length uc)) 35)) := (Below.refl _ _).alloc (Nat.le_refl _) _
      have hX0 : (wr.alloc (.cells (actC x.k x.a x.n x.ep (.slice ua x.p.length uc)) 35)).heap[wr.heap.size]? = some (.cells (actC x.k x.a x.n x.ep (.slice ua x.p.length uc)) 35) := heap_alloc_new _ _
      have hS0 := hS4.below HH.out hb0
      obtain ⟨w0, hw0⟩ : ∃ w0, wr.alloc (.cells (actC x.k x.a x.n x.ep (.slice ua x.p.length uc)) 35) = w0 := ⟨_, rfl⟩
      rw [hw0] at hX0 hS0
      have hXF : ¬ F4 wr.heap.size := fun hc => by have := HH.out.lt hS4.rep _ hc; omega
      have hXG : ¬ G4 wr.heap.size := fun hc => by have := (hS4.ref.lt _ hc).2; omega
      have hXl : wr.heap.size < w0.heap.size := (Array.getElem?_eq_some_iff.1 hX0).1
      obtain ⟨x0, x1, x2, x3, x4⟩ := actc hX0
      have cK := pick_any x.k 4 w0 (by decide) (by decide) hfx.1
      obtain ⟨K, hK⟩ : ∃ K : Int, x.k % 4 = K := ⟨_, rfl⟩
      rw [show ((4 : Nat) : Int) = 4 from rfl, hK] at cK
      have hK4 : 0 ≤ K ∧ K < 4 := by omega
      unfold actC at hw0
      by_cases hk2 : K = 2
      · subst hk2
        obtain ⟨c, hc⟩ : ∃ c, wrN d4 x.a x.p = c := ⟨_, rfl⟩
        have hcv := conv_rd (HRU.out.below hS0.bel)
        have hcl := wrN_le d4 x.a x.p
        rw [hc] at hcl
        have C1 : Hid (∀ wx, Below w0.heap.size w0 wx → Calls Tryd.prog 11 #[ptr p, nu x.a, .string (tx x.p)] wx fun e w' => e = .returned (errE c) ∧ w'.cell? ⟨wr.heap.size, 1, none⟩ = some (nu x.a) ∧ Hid (∃ F5, Dp Rep w w' p g F5 G4 (wrD d4 x.a x.p) d4 ∧ w'.heap[wr.heap.size]? = some (.cells (actC x.k x.a x.n x.ep (.slice ua x.p.length uc)) 35))) := fun wx hb => by
          have hSx := hS0.below HH.out hb
          refine (HH.out.write wx p F4 d4 x.a x.p hSx.rep (by omega) hfx.2.1 (by have := hfx.2.2.2.2; unfold maxLen; omega)).mono ?_
          rintro e w' ⟨rfl, F5, r1, r2, r3⟩
          have hX1 := r2.at ((hb.block _ hXl).trans hX0) hXF
          exact ⟨by rw [hc], (actc hX1).2.1, F5, hSx.turn1 HH.out r1 r2 r3, hX1⟩
        have C2 : Hid (∀ wx, Hid (∃ F5, Dp Rep w wx p g F5 G4 (wrD d4 x.a x.p) d4 ∧ wx.heap[wr.heap.size]? = some (.cells (actC x.k x.a x.n x.ep (.slice ua x.p.length uc)) 35)) → Calls Tryd.prog 12 #[ptr g, nu x.a, .string (tx x.p)] wx fun e w' => e = .returned (nu (c : Int)) ∧ w'.cell? ⟨wr.heap.size, 1, none⟩ = some (nu x.a) ∧ Hid (∃ F5 G5 d5, Dp Rep w w' p g F5 G5 d5 d5 ∧ Nb d5 ∧ d5.tr.length ≤ 4097 * (i + 1) ∧ w'.heap[wr.heap.size]? = some (.cells (actC x.k x.a x.n x.ep (.slice ua x.p.length uc)) 35))) := fun wx h => by
          obtain ⟨F5, hSx, hXx⟩ := h.out
          refine (rwrite w.heap.size wx g G4 d4 x.a x.p hSx.ref (by omega) (by have := hfx.2.2.2.2; unfold maxLen; omega) ⟨hN4.lo, hN4.hi⟩).mono ?_
          rintro e w' ⟨rfl, G5, r1, r2, r3⟩
          have hX1 := r2.at hXx hXG
          exact ⟨by rw [hc], (actc hX1).2.1, F5, G5, _, hSx.turn2 HH.out r1 r2 r3, hN4.wr _ _, by have := wrD_tr d4 x.a x.p; omega, hX1⟩
        have C3 : Hid (∀ wx, Hid (∃ F5 G5 d5, Dp Rep w wx p g F5 G5 d5 d5 ∧ Nb d5 ∧ d5.tr.length ≤ 4097 * (i + 1) ∧ wx.heap[wr.heap.size]? = some (.cells (actC x.k x.a x.n x.ep (.slice ua x.p.length uc)) 35)) → Calls Tryd.prog 9 #[errE c, nu (c : Int)] wx fun e w' => e = .returned (.bool true) ∧ w'.cell? ⟨wr.heap.size, 1, none⟩ = some (nu x.a) ∧ Hid (∃ F5 G5 d5, Dp Rep w w' p g F5 G5 d5 d5 ∧ Nb d5 ∧ d5.tr.length ≤ 4097 * (i + 1) ∧ w'.heap[wr.heap.size]? = some (.cells (actC x.k x.a x.n x.ep (.slice ua x.p.length uc)) 35))) := fun wx h => by
          obtain ⟨F5, G5, d5, hSx, hNx, htx, hXx⟩ := h.out
          refine (plainL c hcl wx (HE.out.below hSx.bel)).mono ?_
          rintro e w' ⟨rfl, hb⟩
          have hX1 := (hb.block _ (Array.getElem?_eq_some_iff.1 hXx).1).trans hXx
          exact ⟨rfl, (actc hX1).2.1, F5, G5, d5, hSx.below HH.out hb, hNx, htx, hX1⟩
        clear hS4 hK hS0 hX0 hc hcl
        generalize tx x.p = f at *
        generalize hen : errE c = en at *
        go_wp2_with fail
        refine cK.mono ?_
        rintro e w' ⟨rfl, hw⟩
        subst w'
        clear hw0 cK
        go_upto_region 16 with fail
        go_wp2_with fail
        go_region_held3 (fun w' => w'.cell? ⟨wr.heap.size, 1, none⟩ = some (nu x.a)) (first | assumption | exact x1 | go_keep) (first | (go_at_call 11; with_reducible refine (C1.out _ ?hb).mono ?_; (case hb => (first | exact Below.refl _ _ | exact (Below.refl _ _).drew | fail)); rintro e w1' ⟨rfl, hS1, hQ1⟩) | (go_at_call 12; with_reducible refine (C2.out _ hQ1).mono ?_; rintro e w2' ⟨rfl, hS2, hQ2⟩) | (go_at_call 9; with_reducible refine (C3.out _ hQ2).mono ?_; rintro e w5 ⟨rfl, hS3, hQ5⟩) | fail)
        clear hS1 hQ1 hS2 hQ2 hS3 C1 C2 C3 x0 x1 x2 x3 x4 hcv
        obtain ⟨F5, G5, d5, hS5, hN5, ht5, hX5⟩ := hQ5.out
        obtain ⟨y0, y1, y2, y3, y4⟩ := actc hX5
        have hX5l : wr.heap.size < w5.heap.size := (Array.getElem?_eq_some_iff.1 hX5).1
        obtain ⟨tv, hD5, hG5, _⟩ := id hS5.ref
        obtain ⟨k0, k1, k2⟩ := hD5.cells
        obtain ⟨tva, tvc, htv, htv1, htv2, _⟩ := Nm.own_shape hD5.row
        unfold maxLen at htv2
        subst htv
        have hg5l : g < w5.heap.size := hS5.ref.num.2
        have hst : Hid (∀ wx, Below w5.heap.size w5 wx → (Below w5.heap.size w5 wx ∧ wx.cell? ⟨wr.heap.size, 1, none⟩ = some (nu x.a) ∧ wx.cell? ⟨wr.heap.size, 2, none⟩ = some (nu x.n) ∧ wx.cell? ⟨g, 1, none⟩ = some (.slice tva d5.tr.length tvc))) := fun wx hb => ⟨hb, (hb.cell (p := ⟨wr.heap.size, 1, none⟩) hX5l).trans y1, (hb.cell (p := ⟨wr.heap.size, 2, none⟩) hX5l).trans y2, (hb.cell (p := ⟨g, 1, none⟩) hg5l).trans k1⟩
        have cL : Hid (∀ wx, (Below w5.heap.size w5 wx ∧ wx.cell? ⟨wr.heap.size, 1, none⟩ = some (nu x.a) ∧ wx.cell? ⟨wr.heap.size, 2, none⟩ = some (nu x.n) ∧ wx.cell? ⟨g, 1, none⟩ = some (.slice tva d5.tr.length tvc)) → Calls Tryd.prog 16 #[ptr p, ptr g, nu x.a, nu x.n] wx fun e w' => e = .returned (.bool true) ∧ (Below w5.heap.size w5 w' ∧ w'.cell? ⟨wr.heap.size, 1, none⟩ = some (nu x.a) ∧ w'.cell? ⟨wr.heap.size, 2, none⟩ = some (nu x.n) ∧ w'.cell? ⟨g, 1, none⟩ = some (.slice tva d5.tr.length tvc))) := fun wx h => (lawload_any HH.out LD w wx p g F5 G5 d5 x.a x.n (hS5.below HH.out h.1) HE.out hN5 (by omega) hfx.2.1 hfx.2.2.1).mono (by
          rintro e w' ⟨rfl, hb⟩
          exact ⟨rfl, hst.out _ (below_fromS h.1 hb)⟩)
        have cWr : Hid (∀ wx, (Below w5.heap.size w5 wx ∧ wx.cell? ⟨wr.heap.size, 1, none⟩ = some (nu x.a) ∧ wx.cell? ⟨wr.heap.size, 2, none⟩ = some (nu x.n) ∧ wx.cell? ⟨g, 1, none⟩ = some (.slice tva d5.tr.length tvc)) → Calls Tryd.prog 17 #[ptr p] wx fun e w' => e = .returned (nu (d5.tr.length : Int)) ∧ (Below w5.heap.size w5 w' ∧ w'.cell? ⟨wr.heap.size, 1, none⟩ = some (nu x.a) ∧ w'.cell? ⟨wr.heap.size, 2, none⟩ = some (nu x.n) ∧ w'.cell? ⟨g, 1, none⟩ = some (.slice tva d5.tr.length tvc))) := fun wx h => (SW wx p F5 d5 (hS5.below HH.out h.1).rep).mono (by
          rintro e w' ⟨rfl, hb⟩
          exact ⟨rfl, hst.out _ (below_fromS h.1 hb)⟩)
        have hS50 := hst.out w5.drew (Below.refl _ _).drew
        have hll : ((d5.tr.length : Int) == (d5.tr.length : Int)) = true := by simp
        have HG5 : Hid (∀ W, Below w5.heap.size w5 W → Go Rep w W p g (i + 1)) := fun W hW => ⟨F5, G5, d5, hS5.below HH.out hW, hN5, by omega⟩
        clear hS5 hN5 hX5 hQ5 hD5 hG5 k0 k1 k2 y0 y1 y2 y3 y4 hst
        go_upto_region 21 with fail
        go_wp2_with fail
        go_region_held3 (fun w' => Below w5.heap.size w5 w' ∧ w'.cell? ⟨wr.heap.size, 1, none⟩ = some (nu x.a) ∧ w'.cell? ⟨wr.heap.size, 2, none⟩ = some (nu x.n) ∧ w'.cell? ⟨g, 1, none⟩ = some (.slice tva d5.tr.length tvc)) (first | assumption | fail) (first | (go_at_call 16; with_reducible refine (cL.out _ (by first | assumption | fail)).mono ?_; rintro e w6 ⟨rfl, hS6⟩) | (go_at_call 17; with_reducible refine (cWr.out _ (by first | assumption | fail)).mono ?_; rintro e w7 ⟨rfl, hS7⟩) | fail)
        have HG7 := Hid.mk' (HG5.out w7 hS7.1)
        clear hS50 hS6 hS7 cL cWr HG5
        go_wp2
        go_roundw
        case rel => exact ⟨i + 1, by omega, by go_num, HG7⟩
        case measure => simp [intOf]; omega
      by_cases hk3 : K = 3
      · subst hk3
        have C1 := Hid.mk' (HH.out.cut w0 p F4 d4 x.n hS0.rep hfx.2.2.1)
        have C2 : Hid (∀ wx F', Dp Rep w wx p g F' G4 ⟨d4.n, max x.n (-1), d4.tr⟩ d4 → _) := fun wx F' h => rcut w.heap.size wx g G4 d4 x.n h.ref
        clear hS4 hK
        go_wp2_with fail
        refine cK.mono ?_
        rintro e w' ⟨rfl, hw⟩
        subst w'
        clear hw0 cK
        go_wp2_with fail
        refine C1.out.mono ?_
        rintro e w1' ⟨⟨u1, rfl⟩, F5, r1, r2, r3⟩
        have hS1 := hS0.turn1 HH.out r1 r2 r3
        have hX1 := r2.at hX0 hXF
        have D2 := Hid.mk' (C2.out w1' F5 hS1)
        obtain ⟨x0, x1, x2, x3, x4⟩ := actc hX1
        have HS1 := Hid.mk' hS1
        clear r1 r2 r3 hS1 C1 C2
        go_wp2_with fail
        refine D2.out.mono ?_
        rintro e w5 ⟨⟨u2, rfl⟩, r1, r2⟩
        have hQ5 : Hid (∃ F5 G5 d5, Dp Rep w w5 p g F5 G5 d5 d5 ∧ Nb d5 ∧ d5.tr.length ≤ 4097 * (i + 1) ∧ w5.heap[wr.heap.size]? = some (.cells (actC x.k x.a x.n x.ep (.slice ua x.p.length uc)) 35)) := ⟨F5, G4, _, HS1.out.turn2 HH.out r1 r2 (Goes.refl _ _), hN4.cut _ (by omega) (by have := hfx.2.2.1; omega), by show d4.tr.length ≤ _; omega, r2.at hX1 hXG⟩
        clear r1 r2 D2 HS1 hX1 hX0 hS0 x0 x1 x2 x3 x4
        obtain ⟨F5, G5, d5, hS5, hN5, ht5, hX5⟩ := hQ5.out
        obtain ⟨y0, y1, y2, y3, y4⟩ := actc hX5
        have hX5l : wr.heap.size < w5.heap.size := (Array.getElem?_eq_some_iff.1 hX5).1
        obtain ⟨tv, hD5, hG5, _⟩ := id hS5.ref
        obtain ⟨k0, k1, k2⟩ := hD5.cells
        obtain ⟨tva, tvc, htv, htv1, htv2, _⟩ := Nm.own_shape hD5.row
        unfold maxLen at htv2
        subst htv
        have hg5l : g < w5.heap.size := hS5.ref.num.2
        have hst : Hid (∀ wx, Below w5.heap.size w5 wx → (Below w5.heap.size w5 wx ∧ wx.cell? ⟨wr.heap.size, 1, none⟩ = some (nu x.a) ∧ wx.cell? ⟨wr.heap.size, 2, none⟩ = some (nu x.n) ∧ wx.cell? ⟨g, 1, none⟩ = some (.slice tva d5.tr.length tvc))) := fun wx hb => ⟨hb, (hb.cell (p := ⟨wr.heap.size, 1, none⟩) hX5l).trans y1, (hb.cell (p := ⟨wr.heap.size, 2, none⟩) hX5l).trans y2, (hb.cell (p := ⟨g, 1, none⟩) hg5l).trans k1⟩
        have cL : Hid (∀ wx, (Below w5.heap.size w5 wx ∧ wx.cell? ⟨wr.heap.size, 1, none⟩ = some (nu x.a) ∧ wx.cell? ⟨wr.heap.size, 2, none⟩ = some (nu x.n) ∧ wx.cell? ⟨g, 1, none⟩ = some (.slice tva d5.tr.length tvc)) → Calls Tryd.prog 16 #[ptr p, ptr g, nu x.a, nu x.n] wx fun e w' => e = .returned (.bool true) ∧ (Below w5.heap.size w5 w' ∧ w'.cell? ⟨wr.heap.size, 1, none⟩ = some (nu x.a) ∧ w'.cell? ⟨wr.heap.size, 2, none⟩ = some (nu x.n) ∧ w'.cell? ⟨g, 1, none⟩ = some (.slice tva d5.tr.length tvc))) := fun wx h => (lawload_any HH.out LD w wx p g F5 G5 d5 x.a x.n (hS5.below HH.out h.1) HE.out hN5 (by omega) hfx.2.1 hfx.2.2.1).mono (by
          rintro e w' ⟨rfl, hb⟩
          exact ⟨rfl, hst.out _ (below_fromS h.1 hb)⟩)
        have cWr : Hid (∀ wx, (Below w5.heap.size w5 wx ∧ wx.cell? ⟨wr.heap.size, 1, none⟩ = some (nu x.a) ∧ wx.cell? ⟨wr.heap.size, 2, none⟩ = some (nu x.n) ∧ wx.cell? ⟨g, 1, none⟩ = some (.slice tva d5.tr.length tvc)) → Calls Tryd.prog 17 #[ptr p] wx fun e w' => e = .returned (nu (d5.tr.length : Int)) ∧ (Below w5.heap.size w5 w' ∧ w'.cell? ⟨wr.heap.size, 1, none⟩ = some (nu x.a) ∧ w'.cell? ⟨wr.heap.size, 2, none⟩ = some (nu x.n) ∧ w'.cell? ⟨g, 1, none⟩ = some (.slice tva d5.tr.length tvc))) := fun wx h => (SW wx p F5 d5 (hS5.below HH.out h.1).rep).mono (by
          rintro e w' ⟨rfl, hb⟩
          exact ⟨rfl, hst.out _ (below_fromS h.1 hb)⟩)
        have hS50 := hst.out w5.drew (Below.refl _ _).drew
        have hll : ((d5.tr.length : Int) == (d5.tr.length : Int)) = true := by simp
        have HG5 : Hid (∀ W, Below w5.heap.size w5 W → Go Rep w W p g (i + 1)) := fun W hW => ⟨F5, G5, d5, hS5.below HH.out hW, hN5, by omega⟩
        clear hS5 hN5 hX5 hQ5 hD5 hG5 k0 k1 k2 y0 y1 y2 y3 y4 hst
        go_upto_region 21 with fail
        go_wp2_with fail
        go_region_held3 (fun w' => Below w5.heap.size w5 w' ∧ w'.cell? ⟨wr.heap.size, 1, none⟩ = some (nu x.a) ∧ w'.cell? ⟨wr.heap.size, 2, none⟩ = some (nu x.n) ∧ w'.cell? ⟨g, 1, none⟩ = some (.slice tva d5.tr.length tvc)) (first | assumption | fail) (first | (go_at_call 16; with_reducible refine (cL.out _ (by first | assumption | fail)).mono ?_; rintro e w6 ⟨rfl, hS6⟩) | (go_at_call 17; with_reducible refine (cWr.out _ (by first | assumption | fail)).mono ?_; rintro e w7 ⟨rfl, hS7⟩) | fail)
        have HG7 := Hid.mk' (HG5.out w7 hS7.1)
        clear hS50 hS6 hS7 cL cWr HG5
        go_wp2
        go_roundw
        case rel => exact ⟨i + 1, by omega, by go_num, HG7⟩
        case measure => simp [intOf]; omega
      · have hj2 : (K == 2) = false := by simp; omega
        have hj3 : (K == 3) = false := by simp; omega
        have C1 := Hid.mk' (lawsave_any HH.out SV w w0 p g F4 G4 d4 x.k x.a x.n x.ep _ x.p hS0 HE.out hN4 (by omega) hfx.2.1 hfx.2.2.1 hfx.2.2.2.1 HRU.out HZU.out hfx.2.2.2.2)
        have hXk : Hid (w0.heap[wr.heap.size]? = some (.cells (actC x.k x.a x.n x.ep (.slice ua x.p.length uc)) 35)) := hX0
        have hsv := save_tr hN4 x.a x.n x.ep x.p
        have hsn := hN4.save x.a x.n x.ep x.p
        have HSV : Hid ((save d4 x.a x.n x.ep x.p).2.tr.length ≤ 4097 * (i + 1) ∧ Nb (save d4 x.a x.n x.ep x.p).2) := ⟨by omega, hsn⟩
        unfold actC at C1
        clear hS4 hK hS0 hX0 hsv hsn
        go_wp2_with fail
        refine cK.mono ?_
        rintro e w' ⟨rfl, hw⟩
        subst w'
        clear hw0 cK
        go_wp2_with fail
        refine C1.out.mono ?_
        rintro e w5 ⟨rfl, hk5, F5, G5, hS5⟩
        have hQ5 : Hid (∃ F5 G5 d5, Dp Rep w w5 p g F5 G5 d5 d5 ∧ Nb d5 ∧ d5.tr.length ≤ 4097 * (i + 1) ∧ w5.heap[wr.heap.size]? = some (.cells (actC x.k x.a x.n x.ep (.slice ua x.p.length uc)) 35)) := ⟨F5, G5, _, hS5, HSV.out.2, HSV.out.1, hk5.at hXk.out (fun hc => by rcases hc with hc | hc; exact hXF hc; exact hXG hc)⟩
        clear hk5 hS5 C1 HSV hXk x0 x1 x2 x3 x4
        obtain ⟨F5, G5, d5, hS5, hN5, ht5, hX5⟩ := hQ5.out
        obtain ⟨y0, y1, y2, y3, y4⟩ := actc hX5
        have hX5l : wr.heap.size < w5.heap.size := (Array.getElem?_eq_some_iff.1 hX5).1
        obtain ⟨tv, hD5, hG5, _⟩ := id hS5.ref
        obtain ⟨k0, k1, k2⟩ := hD5.cells
        obtain ⟨tva, tvc, htv, htv1, htv2, _⟩ := Nm.own_shape hD5.row
        unfold maxLen at htv2
        subst htv
        have hg5l : g < w5.heap.size := hS5.ref.num.2
        have hst : Hid (∀ wx, Below w5.heap.size w5 wx → (Below w5.heap.size w5 wx ∧ wx.cell? ⟨wr.heap.size, 1, none⟩ = some (nu x.a) ∧ wx.cell? ⟨wr.heap.size, 2, none⟩ = some (nu x.n) ∧ wx.cell? ⟨g, 1, none⟩ = some (.slice tva d5.tr.length tvc))) := fun wx hb => ⟨hb, (hb.cell (p := ⟨wr.heap.size, 1, none⟩) hX5l).trans y1, (hb.cell (p := ⟨wr.heap.size, 2, none⟩) hX5l).trans y2, (hb.cell (p := ⟨g, 1, none⟩) hg5l).trans k1⟩
        have cL : Hid (∀ wx, (Below w5.heap.size w5 wx ∧ wx.cell? ⟨wr.heap.size, 1, none⟩ = some (nu x.a) ∧ wx.cell? ⟨wr.heap.size, 2, none⟩ = some (nu x.n) ∧ wx.cell? ⟨g, 1, none⟩ = some (.slice tva d5.tr.length tvc)) → Calls Tryd.prog 16 #[ptr p, ptr g, nu x.a, nu x.n] wx fun e w' => e = .returned (.bool true) ∧ (Below w5.heap.size w5 w' ∧ w'.cell? ⟨wr.heap.size, 1, none⟩ = some (nu x.a) ∧ w'.cell? ⟨wr.heap.size, 2, none⟩ = some (nu x.n) ∧ w'.cell? ⟨g, 1, none⟩ = some (.slice tva d5.tr.length tvc))) := fun wx h => (lawload_any HH.out LD w wx p g F5 G5 d5 x.a x.n (hS5.below HH.out h.1) HE.out hN5 (by omega) hfx.2.1 hfx.2.2.1).mono (by
          rintro e w' ⟨rfl, hb⟩
          exact ⟨rfl, hst.out _ (below_fromS h.1 hb)⟩)
        have cWr : Hid (∀ wx, (Below w5.heap.size w5 wx ∧ wx.cell? ⟨wr.heap.size, 1, none⟩ = some (nu x.a) ∧ wx.cell? ⟨wr.heap.size, 2, none⟩ = some (nu x.n) ∧ wx.cell? ⟨g, 1, none⟩ = some (.slice tva d5.tr.length tvc)) → Calls Tryd.prog 17 #[ptr p] wx fun e w' => e = .returned (nu (d5.tr.length : Int)) ∧ (Below w5.heap.size w5 w' ∧ w'.cell? ⟨wr.heap.size, 1, none⟩ = some (nu x.a) ∧ w'.cell? ⟨wr.heap.size, 2, none⟩ = some (nu x.n) ∧ w'.cell? ⟨g, 1, none⟩ = some (.slice tva d5.tr.length tvc))) := fun wx h => (SW wx p F5 d5 (hS5.below HH.out h.1).rep).mono (by
          rintro e w' ⟨rfl, hb⟩
          exact ⟨rfl, hst.out _ (below_fromS h.1 hb)⟩)
        have hS50 := hst.out w5.drew (Below.refl _ _).drew
        have hll : ((d5.tr.length : Int) == (d5.tr.length : Int)) = true := by simp
        have HG5 : Hid (∀ W, Below w5.heap.size w5 W → Go Rep w W p g (i + 1)) := fun W hW => ⟨F5, G5, d5, hS5.below HH.out hW, hN5, by omega⟩
        clear hS5 hN5 hX5 hQ5 hD5 hG5 k0 k1 k2 y0 y1 y2 y3 y4 hst
        go_upto_region 21 with fail
        go_wp2_with fail
        go_region_held3 (fun w' => Below w5.heap.size w5 w' ∧ w'.cell? ⟨wr.heap.size, 1, none⟩ = some (nu x.a) ∧ w'.cell? ⟨wr.heap.size, 2, none⟩ = some (nu x.n) ∧ w'.cell? ⟨g, 1, none⟩ = some (.slice tva d5.tr.length tvc)) (first | assumption | fail) (first | (go_at_call 16; with_reducible refine (cL.out _ (by first | assumption | fail)).mono ?_; rintro e w6 ⟨rfl, hS6⟩) | (go_at_call 17; with_reducible refine (cWr.out _ (by first | assumption | fail)).mono ?_; rintro e w7 ⟨rfl, hS7⟩) | fail)
        have HG7 := Hid.mk' (HG5.out w7 hS7.1)
        clear hS50 hS6 hS7 cL cWr HG5
        go_wp2
        go_roundw
        case rel => exact ⟨i + 1, by omega, by go_num, HG7⟩
        case measure => simp [intOf]; omega
    · obtain rfl : i = N := by omega
      obtain ⟨tv, hD5, hG5, _⟩ := id hS4.ref
      obtain ⟨k0, k1, k2⟩ := hD5.cells
      obtain ⟨tva, tvc, htv, htv1, htv2, _⟩ := Nm.own_shape hD5.row
      have hRv := Hid.mk' (own_rdR hD5.row)
      unfold maxLen at htv2
      subst htv
      have hg5l : g < wr.heap.size := hS4.ref.num.2
      have hst : Hid (∀ wx, Below wr.heap.size wr wx → (Below wr.heap.size wr wx ∧ wx.cell? ⟨g, 1, none⟩ = some (.slice tva d4.tr.length tvc))) := fun wx hb => ⟨hb, (hb.cell (p := ⟨g, 1, none⟩) hg5l).trans k1⟩
      have cT : Hid (∀ wx, (Below wr.heap.size wr wx ∧ wx.cell? ⟨g, 1, none⟩ = some (.slice tva d4.tr.length tvc)) → Calls Tryd.prog 19 #[ptr p] wx fun e w' => ∃ at_ ct, e = .returned (.slice at_ d4.tr.length ct) ∧ Hid (RdR w' (.slice at_ d4.tr.length ct) d4.tr) ∧ (Below wr.heap.size wr w' ∧ w'.cell? ⟨g, 1, none⟩ = some (.slice tva d4.tr.length tvc))) := fun wx h => (HH.out.trail wx p F4 d4 (hS4.below HH.out h.1).rep (by omega)).mono (by
        rintro e w' ⟨t, rfl, ho, hb⟩
        obtain ⟨at_, ct, rfl, _⟩ := Nm.own_shape ho
        exact ⟨at_, ct, rfl, own_rdR ho, hst.out _ (below_fromS h.1 hb)⟩)
      have cS : Hid (∀ wx at_ ct, Hid (RdR wx (.slice at_ d4.tr.length ct) d4.tr) → (Below wr.heap.size wr wx ∧ wx.cell? ⟨g, 1, none⟩ = some (.slice tva d4.tr.length tvc)) → Calls Tryd.prog 18 #[.slice at_ d4.tr.length ct, .slice tva d4.tr.length tvc] wx fun e w' => e = .returned (.bool true) ∧ (Below wr.heap.size wr w' ∧ w'.cell? ⟨g, 1, none⟩ = some (.slice tva d4.tr.length tvc))) := fun wx at_ ct hT h => (sameRaws_eq _ _ d4.tr wx hT.out (hRv.out.below h.1)).mono (by
        rintro e w' ⟨rfl, hb⟩
        exact ⟨rfl, hst.out _ (below_fromS h.1 hb)⟩)
      have hS50 := hst.out wr.drew (Below.refl _ _).drew
      have HBW := Hid.mk' hS4.bel
      clear hS4 hN4 hD5 hG5 k0 k1 k2 hst hRv hG HC
      go_upto_region 23 with fail
      go_wp2_with fail
      go_region_held3 (fun w' => Below wr.heap.size wr w' ∧ w'.cell? ⟨g, 1, none⟩ = some (.slice tva d4.tr.length tvc)) (first | assumption | fail) (first | (go_at_call 19; with_reducible refine (cT.out _ (by first | assumption | fail)).mono ?_; rintro e w6 ⟨at_, ct, rfl, hT6, hS6⟩) | (go_at_call 18; with_reducible refine (cS.out _ _ _ hT6 (by first | assumption | fail)).mono ?_; rintro e w7 ⟨rfl, hS7⟩) | fail)
      all_goals
        have HB7 := Hid.mk' (below_fromS HBW.out hS7.1)
        clear hS50 hS6 hS7 cT cS
        go_wp2
        go_ret
        exact ⟨rfl, HB7.out⟩

set_option maxRecDepth 100000 in
theorem areaPlays_no {Rep : World → Nat → (Nat → Prop) → Dsk → Prop} (H : Says Rep) (n : Int) (sv : Value) (w : World) (h : ¬ (1 ≤ n ∧ n ≤ 4096)) (hE : Er.Handle w) :
    Calls Tryd.prog 3 #[nu n, sv] w fun e w' => e = .returned (.bool true) ∧ Below w.heap.size w w' := by
  have c1 := Hid.mk' (H.newNo n w h)
  have c2 : Hid (∀ wx, Calls Tryd.prog 8 #[nu n] wx fun e w' => e = .returned (.tuple #[.pointer none, nu 1]) ∧ w' = wx) := fun wx => rNew_no n wx h
  have cQ : Hid (∀ wx, Below w.heap.size w wx → Calls Tryd.prog 9 #[noE 1, nu 1] wx fun e w' => e = .returned (.bool true) ∧ Below wx.heap.size wx w') := fun wx hb => plainL 1 (by decide) wx (hE.below hb)
  clear H hE h
  go_enter Tryd.func3, Tryd.ntmps3
  go_wp2_with fail
  refine c1.out.mono ?_
  rintro e w1 ⟨rfl, hb1⟩
  have HB1 := Hid.mk' hb1
  clear hb1
  go_wp2_with fail
  refine (c2.out _).mono ?_
  rintro e w' ⟨rfl, hw⟩
  subst w'
  go_wp2_with fail
  refine (cQ.out _ HB1.out).mono ?_
  rintro e w2 ⟨rfl, hb2⟩
  have HB2 := Hid.mk' (below_fromS HB1.out hb2)
  clear hb2
  go_wp2
  go_ret
  exact ⟨rfl, HB2.out⟩
end Ae
end Go.Proofs.YtlgjnefieflmbaaDoor
