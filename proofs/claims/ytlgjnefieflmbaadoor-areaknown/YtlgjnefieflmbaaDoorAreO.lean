/- The old image, or the new one, wherever the power fails. -/
import Derived.Test.YtlgjnefieflmbaaDoorAreW
namespace Go.Proofs.YtlgjnefieflmbaaDoor
set_option linter.ambiguousOpen false
open Go.RowKit
namespace Ae
open Sm Ft Dk Pk
set_option linter.unusedSimpArgs false
set_option linter.unusedVariables false

/-- A disk that was made in this call. -/
structure Od (Rep : World → Nat → (Nat → Prop) → Dsk → Prop) (wb wr : World) (p : Nat) (F : Nat → Prop) (d : Dsk) : Prop where
  rep : Rep wr p F d
  fl : ∀ k, F k → wb.heap.size ≤ k
  bel : Below wb.heap.size wb wr

section
variable {Rep : World → Nat → (Nat → Prop) → Dsk → Prop} {wb wr w' : World} {p : Nat} {F F' : Nat → Prop} {d d' : Dsk}

theorem Od.below (H : Says Rep) (h : Od Rep wb wr p F d) (hb : Below wr.heap.size wr w') : Od Rep wb w' p F d :=
  ⟨H.keep h.rep (Keep.of_below (F := fun _ => False) hb) (fun _ _ h => h), h.fl, below_fromS h.bel hb⟩

theorem Od.turn (H : Says Rep) (h : Od Rep wb wr p F d) (hr : Rep w' p F' d') (hk : Keep F wr w') (hg : Goes wr F F') : Od Rep wb w' p F' d' := by
  refine ⟨hr, fun k hf => ?_, h.bel.trans (hk.below (fun k hk hc => by have := h.fl k hc; omega) h.bel.size)⟩
  rcases hg k hf with h1 | h1
  · exact h.fl k h1
  · exact Nat.le_trans h.bel.size h1

theorem Od.rd (h : Od Rep wb wr p F d) {v : Value} {x : List UInt8} (hv : RdB wb v x) : ∀ w', Keep F wr w' → RdB w' v x := fun w' hk =>
  hv.below (h.bel.trans (hk.below (fun k hk hc => by have := h.fl k hc; omega) h.bel.size))
end

theorem plc {w : World} {X : Nat} {a n : Int} {ep : Nat} {pv : Value} (h : w.heap[X]? = some (.cells (plC a n ep pv) 50)) : w.cell? ⟨X, 0, none⟩ = some (nu a) ∧ w.cell? ⟨X, 1, none⟩ = some (nu n) ∧ w.cell? ⟨X, 2, none⟩ = some (.int .u32 (ep : Int)) ∧ w.cell? ⟨X, 3, none⟩ = some pv := by
  simp [World.cell?, h]

theorem nz_take {a : Option Addr} {n c k : Nat} (h : Nz (.slice a n c)) (hk : k ≤ n) : Nz (.slice a k c) := by
  rcases h with h | ⟨ad, m, c', h⟩
  · cases h
    have : k = 0 := by omega
    subst this
    exact .inl rfl
  · cases h
    exact .inr ⟨_, _, _, rfl⟩

set_option maxRecDepth 100000 in
set_option maxHeartbeats 8000000 in
theorem areaOne_yes {Rep : World → Nat → (Nat → Prop) → Dsk → Prop} (H : Says Rep) (SV : SaveC Rep) (LD : LoadC Rep) (w : World) (a n c : Int) (ep : Nat) (v v2 : Value) (x y : List UInt8) (hv : RdB w v x) (hz : Nz v) (hv2 : RdB w v2 y) (hz2 : Nz v2) (ha : -9223372036854775808 ≤ a ∧ a ≤ 9223372036854775807) (hn : -9223372036854775808 ≤ n ∧ n ≤ 9223372036854775807) (hc : -9223372036854775808 ≤ c ∧ c ≤ 9223372036854775807) (hep : ep < 4294967296) (hE : Er.Handle w) :
    Calls Tryd.prog 5 #[.agg (plC a n ep v), v2, nu c] w fun e w' => e = .returned (.bool true) ∧ Below w.heap.size w w' := by
  have HV := Hid.mk' hv
  have HV2 := Hid.mk' hv2
  obtain ⟨xa, xc, rfl, hx1, hx2, _⟩ := hv
  obtain ⟨ya, yc, rfl, hy1, hy2, _⟩ := hv2
  unfold maxLen at hx2 hy2
  -- the place
  have c1 : Hid (∀ wx, Calls Tryd.prog 20 #[.agg (plC a n ep (.slice xa x.length xc))] wx fun e w' => e = .returned (.agg (plC (a % 8) (1 + n % 12) ep (.slice xa (min x.length ((1 + n % 12).toNat * 256)) xc))) ∧ Below wx.heap.size wx w') := fun wx => right_any wx a n ep xa x.length xc ha hn hx1 (by unfold maxLen; omega)
  obtain ⟨A, hA, hA1⟩ : ∃ A : Nat, a % 8 = A ∧ A < 8 := ⟨(a % 8).toNat, by omega, by omega⟩
  obtain ⟨M, hM, hM1, hM2⟩ : ∃ M : Nat, 1 + n % 12 = M ∧ 1 ≤ M ∧ M ≤ 12 := ⟨(1 + n % 12).toNat, by omega, by omega, by omega⟩
  rw [hA, hM, Int.toNat_natCast] at c1
  obtain ⟨K, hK⟩ : ∃ K, min x.length (M * 256) = K := ⟨_, rfl⟩
  obtain ⟨K2, hK2⟩ : ∃ K2, min y.length (M * 256) = K2 := ⟨_, rfl⟩
  rw [hK] at c1
  have hrx : Hid (RdB w (.slice xa K xc) (x.take K)) := HV.out.take K (by omega)
  have hry : Hid (RdB w (.slice ya K2 yc) (y.take K2)) := HV2.out.take K2 (by omega)
  have hzx : Hid (Nz (.slice xa K xc)) := nz_take hz (by omega)
  have hzy : Hid (Nz (.slice ya K2 yc)) := nz_take hz2 (by omega)
  have hlx : (x.take K).length = K := by rw [List.length_take]; omega
  have hly : (y.take K2).length = K2 := by rw [List.length_take]; omega
  have hKM : K ≤ M * 256 := by omega
  have hK2M : K2 ≤ M * 256 := by omega
  have hKc : K2 ≤ yc := by omega
  have hwm : IntKind.i64.wrap ((M : Int) * 256) = (M : Int) * 256 := by rw [IntKind.wrap_i64]; omega
  have hmin : ∀ wx, (Builtin.min_ #[3, 3] 3 #[.int .i64 (y.length : Int), .int .i64 ((M : Int) * 256)]).run Tryd.prog wx = .ok (.int .i64 (K2 : Int)) wx := fun wx => by
    rw [min_twoA]
    congr 2
    split <;> omega
  have hsl : ∀ wx, (Instr.slice 33 (.slice ya y.length yc) none (some (.int .i64 (K2 : Int))) none).run Tryd.prog wx = .ok (.slice ya K2 yc) wx := fun wx => slice_to ya y.length yc K2 hKc wx
  obtain ⟨X, hX⟩ : ∃ X, x.take K = X := ⟨_, rfl⟩
  obtain ⟨Y, hY⟩ : ∃ Y, y.take K2 = Y := ⟨_, rfl⟩
  rw [hX] at hrx hlx
  rw [hY] at hry hly
  obtain ⟨q, hq⟩ : ∃ q, (pcs Y).length + 1 = q := ⟨_, rfl⟩
  have hq2 : (K2 + 255) / 256 + 1 = q := by rw [← hq, pcs_count, hly]
  -- both saves
  have h0 : Nb ⟨40, -1, []⟩ := ⟨by decide, by decide, by decide, by decide, fun r hr => by simp at hr⟩
  have hm : may ⟨40, -1, []⟩ (A : Int) (M : Int) = true := decide_eq_true (by show (0 : Int) ≤ A ∧ (1 : Int) ≤ M ∧ (A : Int) + 1 + 2 * M ≤ 40; omega)
  obtain ⟨e1, e2, e3, e4⟩ := save_on (ep := ep) (x := X) hm (by rw [hlx]; omega) rfl
  have hI1 := save_img (d := ⟨40, -1, []⟩) (a := A) (n := M) (x := X) hep (by decide) e1
  have hN1 := h0.save A M ep X
  have ht1 : (save ⟨40, -1, []⟩ A M ep X).2.tr.length ≤ 0 + 4097 := save_tr h0 A M ep X
  obtain ⟨d1, hd1⟩ : ∃ d1, (save ⟨40, -1, []⟩ A M ep X).2 = d1 := ⟨_, rfl⟩
  rw [hd1] at hI1 hN1 ht1 e2 e3
  have HS1 : Hid (save ⟨40, -1, []⟩ A M ep X = (0, d1)) := Prod.ext e1 hd1
  have HI1 := Hid.mk' hI1
  have HN1 := Hid.mk' hN1
  obtain ⟨ep2, hep2⟩ : ∃ ep2, (ep + 1) % 4294967296 = ep2 := ⟨_, rfl⟩
  have hwe : IntKind.u32.wrap ((ep : Int) + 1) = (ep2 : Int) := by
    rw [IntKind.wrap_u32]
    omega
  have hpar : ep2 % 2 ≠ ep % 2 := by omega
  have hel2 : ep2 < 4294967296 := by omega
  have hd1n : d1.n ≤ 4096 := by rw [e3]; decide
  have hl2 : ¬ (M : Int) * 256 < (Y.length : Int) := by rw [hly]; omega
  -- the calls
  have HH := Hid.mk' H
  have HE := Hid.mk' hE
  have c2 : Hid (∀ wx, Calls Tryd.prog 21 #[nu 40] wx fun e w' => ∃ p F, e = .returned (ptr p) ∧ Rep w' p F ⟨40, -1, []⟩ ∧ (∀ k, F k → wx.heap.size ≤ k) ∧ Below wx.heap.size wx w') := fun wx => fresh_any H 40 wx (by decide) (by decide)
  have c3 : Hid (∀ wx, Calls Tryd.prog 22 #[] wx fun e w' => e = .returned (.bool true) ∧ Below wx.heap.size wx w') := fun wx => works_yes H SV LD wx
  have c4 : Hid (∀ (wb wx : World) (p : Nat) (F : Nat → Prop), Od Rep wb wx p F ⟨40, -1, []⟩ → Below w.heap.size w wb → Calls Tryd.prog 23 #[ptr p, nu A, nu M, .int .u32 (ep : Int), .slice xa K xc] wx fun e w' => e = .returned .nilIface ∧ ∃ G, Od Rep wb w' p G d1) := fun wb wx p F h hb => by
    have := SV wx p F ⟨40, -1, []⟩ A M ep _ X h.rep h0 (by decide) (by omega) (by omega) hep (h.rd (hrx.out.below hb)) hzx.out
    rw [HS1.out] at this
    refine this.mono ?_
    rintro e w' ⟨h1, G, r1, r2, r3⟩
    exact ⟨h1, G, h.turn HH.out r1 r2 r3⟩
  have c5 : Hid (∀ (wb wx : World) (p : Nat) (F : Nat → Prop) (k : Nat), Od Rep wb wx p F d1 → k ≤ 4097 → Calls Tryd.prog 13 #[ptr p, nu (k : Int)] wx fun e w' => (∃ u, e = .returned u) ∧ ∃ G, Od Rep wb w' p G ⟨d1.n, k, d1.tr⟩) := fun wb wx p F k h hk => by
    refine (H.cut wx p F d1 k h.rep (by omega)).mono ?_
    rintro e w' ⟨h1, G, r1, r2, r3⟩
    rw [show max (k : Int) (-1) = (k : Int) by omega] at r1
    exact ⟨h1, G, h.turn HH.out r1 r2 r3⟩
  have c6 : Hid (∀ (wb wx : World) (p : Nat) (F : Nat → Prop) (k : Nat), Od Rep wb wx p F ⟨d1.n, k, d1.tr⟩ → k ≤ 4097 → Below w.heap.size w wb → Calls Tryd.prog 23 #[ptr p, nu A, nu M, .int .u32 (ep2 : Int), .slice ya K2 yc] wx fun e w' => ∃ G d2, Nb d2 ∧ d2.tr.length ≤ 100000 ∧ Od Rep wb w' p G d2 ∧ ((q ≤ k ∧ e = .returned .nilIface ∧ Img d2 A M ep2 Y) ∨ (¬ q ≤ k ∧ e = .returned (noE 22) ∧ Img d2 A M ep X))) := fun wb wx p F k h hk hb => by
    have hNk : Nb ⟨d1.n, k, d1.tr⟩ := HN1.out.cut k (by omega) (by omega)
    have hIk : Img ⟨d1.n, k, d1.tr⟩ A M ep X := ⟨HI1.out.mayb, HI1.out.epl, HI1.out.len, HI1.out.big, HI1.out.head, HI1.out.body⟩
    have hsv := SV wx p F ⟨d1.n, k, d1.tr⟩ A M ep2 _ Y h.rep hNk (by show d1.tr.length + 5000 ≤ 1000000000; omega) (by omega) (by omega) hel2 (h.rd (hry.out.below hb)) hzy.out
    obtain ⟨s1, s2⟩ := save_cut (ep2 := ep2) (y := Y) hIk hd1n hl2 hpar (by show (0 : Int) ≤ k; omega)
    have hN2 := hNk.save A M ep2 Y
    have ht2 : (save ⟨d1.n, k, d1.tr⟩ A M ep2 Y).2.tr.length ≤ d1.tr.length + 4097 := save_tr hNk A M ep2 Y
    refine hsv.mono ?_
    rintro e w' ⟨h1, G, r1, r2, r3⟩
    refine ⟨G, _, hN2, by omega, h.turn HH.out r1 r2 r3, ?_⟩
    by_cases hqk : q ≤ k
    · have h3 := s1 (by rw [hq]; show (q : Int) ≤ k; omega)
      refine .inl ⟨hqk, by rw [h1, h3]; rfl, save_img hel2 hd1n h3⟩
    · obtain ⟨h3, h4⟩ := s2 (by rw [hq]; show ¬ (q : Int) ≤ k; omega)
      exact .inr ⟨hqk, by rw [h1, h3]; rfl, h4⟩
  have c7 : Hid (∀ (wb wx : World) (p : Nat) (F : Nat → Prop) (d2 : Dsk) (u : Value) (e' : Nat) (Z : List UInt8), Od Rep wb wx p F d2 → Nb d2 → d2.tr.length ≤ 100000 → Img d2 A M e' Z → RdB w u Z → Below w.heap.size w wb → Calls Tryd.prog 24 #[ptr p, nu A, nu M, .int .u32 (e' : Int), u] wx fun e w' => e = .returned (.bool true) ∧ Below wx.heap.size wx w') := fun wb wx p F d2 u e' Z h hN ht hI hu hb => is_any LD wx p F d2 A M e' u Z h.rep hN (by omega) hI ((hu.below hb).below h.bel)
  have c8 : Hid (∀ wx, Er.Handle wx → Calls Tryd.prog 9 #[noE 22, nu 22] wx fun e w' => e = .returned (.bool true) ∧ Below wx.heap.size wx w') := fun wx hg => plainL 22 (by decide) wx hg
  have hqb : q ≤ 4000 := by omega
  have c9 : Hid (∀ wx, Calls Tryd.prog 10 #[nu c, nu ((q : Int) + 1)] wx fun e w' => e = .returned (nu (c % ((q : Int) + 1))) ∧ w' = wx) := fun wx => pick_any c (q + 1) wx (by omega) (by omega) hc
  obtain ⟨k, hk, hkq⟩ : ∃ k : Nat, c % ((q : Int) + 1) = k ∧ k ≤ q := ⟨(c % ((q : Int) + 1)).toNat, by have := Int.emod_nonneg c (b := (q : Int) + 1) (by omega); omega, by have := Int.emod_lt_of_pos c (b := (q : Int) + 1) (by omega); have := Int.emod_nonneg c (b := (q : Int) + 1) (by omega); omega⟩
  rw [hk] at c9
  have hdq : ((K2 : Int) + 256 - 1) / 256 + 1 = (q : Int) := by omega
  clear H SV LD hE hc ha hn hk hz hz2 HV HV2 e1 e2 e3 hd1 hI1 hN1 hK hK2 hA hM hX hY hq h0 hm
  unfold plC at c1 ⊢
  go_enter Tryd.func5, Tryd.ntmps5
  go_wp2_with fail
  have hB0 : Hid (Below w.heap.size w (w.alloc (.cells #[nu a, nu n, .int .u32 (ep : Int), .slice xa x.length xc] 50))) := (Below.refl _ _).alloc (Nat.le_refl _) _
  refine (c1.out _).mono ?_
  rintro e w1 ⟨rfl, hb1⟩
  have hB1 := Hid.mk' (below_fromS hB0.out hb1)
  clear hb1 hB0 c1
  have hb0 : Below w1.heap.size w1 (w1.alloc (.cells (plC A M ep (.slice xa K xc)) 50)) := (Below.refl _ _).alloc (Nat.le_refl _) _
  have hX0 : (w1.alloc (.cells (plC A M ep (.slice xa K xc)) 50)).heap[w1.heap.size]? = some (.cells (plC A M ep (.slice xa K xc)) 50) := heap_alloc_new _ _
  obtain ⟨wb, hwb⟩ : ∃ wb, w1.alloc (.cells (plC A M ep (.slice xa K xc)) 50) = wb := ⟨_, rfl⟩
  rw [hwb] at hb0 hX0
  unfold plC at hwb
  have hXl : w1.heap.size < wb.heap.size := (Array.getElem?_eq_some_iff.1 hX0).1
  have HBb := Hid.mk' (below_fromS hB1.out hb0)
  have HX0 := Hid.mk' hX0
  obtain ⟨x0, x1, x2, x3⟩ := plc hX0
  clear hb0 hX0 hB1
  go_upto_region 2 with fail
  clear hwb
  go_wp2_with fail
  refine (c2.out _).mono ?_
  rintro e w2 ⟨p, F, rfl, r1, r2, r3⟩
  have HO2 : Hid (Od Rep wb w2 p F ⟨40, -1, []⟩) := ⟨r1, r2, r3⟩
  have C3 := Hid.mk' (c3.out w2)
  clear r1 r2 r3 c2 x0 x1 x2 x3
  go_wp2_with fail
  refine C3.out.mono ?_
  rintro e w3 ⟨rfl, hb⟩
  have HO3 := Hid.mk' (HO2.out.below HH.out hb)
  obtain ⟨x0, x1, x2, x3⟩ := plc ((HO3.out.bel.block _ hXl).trans HX0.out)
  have C4 := Hid.mk' (c4.out wb w3 p F HO3.out HBb.out)
  clear hb HO2 C3 c3
  go_wp2_with fail
  refine C4.out.mono ?_
  rintro e w4 ⟨rfl, G, hO4⟩
  have HO4 := Hid.mk' hO4
  obtain ⟨y0, y1, y2, y3⟩ := plc ((hO4.bel.block _ hXl).trans HX0.out)
  have C5 := Hid.mk' (c9.out w4)
  clear hO4 x0 x1 x2 x3 HO3 C4 c4
  go_wp2_with fail
  refine C5.out.mono ?_
  rintro e w5 ⟨rfl, rfl⟩
  have C6 := Hid.mk' (c5.out wb w5 p G k HO4.out (by omega))
  clear hdq C5 c5 c9 y0 y1 y2 y3
  go_wp2_with fail
  refine C6.out.mono ?_
  rintro e w6 ⟨⟨u, rfl⟩, G6, hO6⟩
  obtain ⟨y0, y1, y2, y3⟩ := plc ((hO6.bel.block _ hXl).trans HX0.out)
  have C7 := Hid.mk' (c6.out wb w6 p G6 k hO6 (by omega) HBb.out)
  clear hO6 C6 HO4 c6
  go_wp2_with fail
  refine C7.out.mono ?_
  rintro e w7 ⟨G7, d2, hN2, ht2, hO7, hor⟩
  have HO7 := Hid.mk' hO7
  have HN2 := Hid.mk' hN2
  clear hN2 hO7 C7 y0 y1 y2 y3
  rcases hor with ⟨hqk, rfl, hI⟩ | ⟨hqk, rfl, hI⟩
  · have hkq2 : ((k : Int) == (q : Int)) = true := by simp; omega
    obtain ⟨y0, y1, y2, y3⟩ := plc ((HO7.out.bel.block _ hXl).trans HX0.out)
    have C8 := Hid.mk' (c7.out wb w7 p G7 d2 _ ep2 Y HO7.out HN2.out ht2 hI hry.out HBb.out)
    clear hI c7 c8
    go_wp2_with fail
    refine C8.out.mono ?_
    rintro e w8 ⟨rfl, hb⟩
    have HB := Hid.mk' (below_fromS (below_fromS HBb.out HO7.out.bel) hb)
    clear hb C8 y0 y1 y2 y3
    go_wp2
    go_ret
    exact ⟨rfl, HB.out⟩
  · have hkq2 : ((k : Int) == (q : Int)) = false := by simp; omega
    have C8 := Hid.mk' (c8.out w7 (HE.out.below (below_fromS HBb.out HO7.out.bel)))
    have HI := Hid.mk' hI
    clear hI c8
    go_wp2_with fail
    refine C8.out.mono ?_
    rintro e w8 ⟨rfl, hb⟩
    have HO8 := Hid.mk' (HO7.out.below HH.out hb)
    obtain ⟨y0, y1, y2, y3⟩ := plc ((HO8.out.bel.block _ hXl).trans HX0.out)
    have C9 := Hid.mk' (c7.out wb w8 p G7 d2 _ ep X HO8.out HN2.out ht2 HI.out hrx.out HBb.out)
    clear hb c7 C8 HO7
    go_wp2_with fail
    refine C9.out.mono ?_
    rintro e w9 ⟨rfl, hb⟩
    have HB := Hid.mk' (below_fromS (below_fromS HBb.out HO8.out.bel) hb)
    clear hb C9 y0 y1 y2 y3
    go_wp2
    go_ret
    exact ⟨rfl, HB.out⟩
end Ae
end Go.Proofs.YtlgjnefieflmbaaDoor
