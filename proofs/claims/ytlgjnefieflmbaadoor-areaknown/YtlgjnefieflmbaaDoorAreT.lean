/- What was saved is told again, whatever is written outside of its place. -/
import Derived.Test.YtlgjnefieflmbaaDoorAreO
import Derived.Test.YtlgjnefieflmbaaDoorAreK
namespace Go.Proofs.YtlgjnefieflmbaaDoor
set_option linter.ambiguousOpen false
open Go.RowKit
namespace Ae
open Sm Ft Dk Pk
set_option linter.unusedSimpArgs false
set_option linter.unusedVariables false

/-- A raw write outside of a place leaves its image. -/
theorem Img.wr {d : Dsk} {a n : Int} {ep : Nat} {x : List UInt8} (h : Img d a n ep x) (i : Int) (s : List UInt8) (hi : ¬ (a ≤ i ∧ i ≤ a + 2 * n)) : Img (wrD d i s) a n ep x := by
  obtain ⟨m1, m2, m3⟩ := may_out h.mayb
  have hp := pcs_fit x n (by have := h.len; omega)
  by_cases hw : wrN d i s = 0
  · refine h.same (wrD_n d i s) ?_ fun k hk => ?_
    · rw [rdT_wrote d i s a hw (by omega), if_neg (by omega)]
    · obtain ⟨f1, f2⟩ := fst_in a n ep (pcs x).length m2 hp
      rw [rdT_wrote d i s _ hw (by omega), if_neg (by omega)]
  · rw [show wrD d i s = d by rw [wrD, if_neg hw]]
    exact h

theorem wr_on {d : Dsk} {i : Int} {s : List UInt8} (hd : d.left = -1) (h0 : 0 ≤ i) (h1 : i < d.n) : wrN d i s = (if 256 < s.length then 3 else 0) ∧ (wrD d i s).left = -1 := by
  constructor
  · rw [wrN, if_pos ⟨h0, h1⟩]
    split
    · rfl
    · rw [if_neg (by omega)]
  · unfold wrD
    split
    · show (if 0 < d.left then d.left - 1 else d.left) = -1
      rw [if_neg (by omega)]
      exact hd
    · exact hd

/-- At any time of the writes. -/
def Th (Rep : World → Nat → (Nat → Prop) → Dsk → Prop) (wb wr : World) (p k A M ep : Nat) (X : List UInt8) : Prop := ∃ F d, Od Rep wb wr p F d ∧ Nb d ∧ d.tr.length ≤ 5000 + k ∧ d.left = -1 ∧ d.n = 40 ∧ Img d A M ep X

set_option maxRecDepth 100000 in
set_option maxHeartbeats 8000000 in
theorem areaThere_yes {Rep : World → Nat → (Nat → Prop) → Dsk → Prop} (H : Says Rep) (SV : SaveC Rep) (LD : LoadC Rep) (w : World) (a n : Int) (ep : Nat) (v sv : Value) (x : List UInt8) (L : List Actn) (hv : RdB w v x) (hz : Nz v) (hR : RdN w sv L) (hF : ∀ x ∈ L, x.fits) (ha : -9223372036854775808 ≤ a ∧ a ≤ 9223372036854775807) (hn : -9223372036854775808 ≤ n ∧ n ≤ 9223372036854775807) (hep : ep < 4294967296) (hE : Er.Handle w) :
    Calls Tryd.prog 4 #[.agg (plC a n ep v), sv] w fun e w' => e = .returned (.bool true) ∧ Below w.heap.size w w' := by
  have HV := Hid.mk' hv
  obtain ⟨xa, xc, rfl, hx1, hx2, _⟩ := hv
  obtain ⟨N, hN⟩ : ∃ N, L.length = N := ⟨_, rfl⟩
  obtain ⟨av, cv, rfl, hc1, hc2, hcell⟩ := hR
  have HC := Hid.mk' hcell
  have HN := Hid.mk' hN
  have HF := Hid.mk' hF
  rw [hN] at hc1 ⊢
  unfold maxLen at hx2 hc2
  clear hcell hF
  -- the place
  have c1 : Hid (∀ wx, Calls Tryd.prog 20 #[.agg (plC a n ep (.slice xa x.length xc))] wx fun e w' => e = .returned (.agg (plC (a % 8) (1 + n % 12) ep (.slice xa (min x.length ((1 + n % 12).toNat * 256)) xc))) ∧ Below wx.heap.size wx w') := fun wx => right_any wx a n ep xa x.length xc ha hn hx1 (by unfold maxLen; omega)
  obtain ⟨A, hA, hA1⟩ : ∃ A : Nat, a % 8 = A ∧ A < 8 := ⟨(a % 8).toNat, by omega, by omega⟩
  obtain ⟨M, hM, hM1, hM2⟩ : ∃ M : Nat, 1 + n % 12 = M ∧ 1 ≤ M ∧ M ≤ 12 := ⟨(1 + n % 12).toNat, by omega, by omega, by omega⟩
  rw [hA, hM, Int.toNat_natCast] at c1
  obtain ⟨K, hK⟩ : ∃ K, min x.length (M * 256) = K := ⟨_, rfl⟩
  rw [hK] at c1
  have hrx : Hid (RdB w (.slice xa K xc) (x.take K)) := HV.out.take K (by omega)
  have hzx : Hid (Nz (.slice xa K xc)) := nz_take hz (by omega)
  have hlx : (x.take K).length = K := by rw [List.length_take]; omega
  have hKM : K ≤ M * 256 := by omega
  obtain ⟨X, hX⟩ : ∃ X, x.take K = X := ⟨_, rfl⟩
  rw [hX] at hrx hlx
  -- the save
  have h0 : Nb ⟨40, -1, []⟩ := ⟨by decide, by decide, by decide, by decide, fun r hr => by simp at hr⟩
  have hm : may ⟨40, -1, []⟩ (A : Int) (M : Int) = true := decide_eq_true (by show (0 : Int) ≤ A ∧ (1 : Int) ≤ M ∧ (A : Int) + 1 + 2 * M ≤ 40; omega)
  obtain ⟨e1, e2, e3, e4⟩ := save_on (ep := ep) (x := X) hm (by rw [hlx]; omega) rfl
  have hI1 := save_img (d := ⟨40, -1, []⟩) (a := A) (n := M) (x := X) hep (by decide) e1
  have hN1 := h0.save A M ep X
  have ht1 : (save ⟨40, -1, []⟩ A M ep X).2.tr.length ≤ 0 + 4097 := save_tr h0 A M ep X
  obtain ⟨d1, hd1⟩ : ∃ d1, (save ⟨40, -1, []⟩ A M ep X).2 = d1 := ⟨_, rfl⟩
  rw [hd1] at hI1 hN1 ht1 e2 e3
  have HS1 : Hid (save ⟨40, -1, []⟩ A M ep X = (0, d1)) := Prod.ext e1 hd1
  -- the calls
  have HH := Hid.mk' H
  have HE := Hid.mk' hE
  have c2 : Hid (∀ wx, Calls Tryd.prog 21 #[nu 40] wx fun e w' => ∃ p F, e = .returned (ptr p) ∧ Rep w' p F ⟨40, -1, []⟩ ∧ (∀ k, F k → wx.heap.size ≤ k) ∧ Below wx.heap.size wx w') := fun wx => fresh_any H 40 wx (by decide) (by decide)
  have c3 : Hid (∀ wx, Calls Tryd.prog 22 #[] wx fun e w' => e = .returned (.bool true) ∧ Below wx.heap.size wx w') := fun wx => works_yes H SV LD wx
  have c4 : Hid (∀ (wb wx : World) (p : Nat) (F : Nat → Prop), Od Rep wb wx p F ⟨40, -1, []⟩ → Below w.heap.size w wb → Calls Tryd.prog 23 #[ptr p, nu A, nu M, .int .u32 (ep : Int), .slice xa K xc] wx fun e w' => e = .returned .nilIface ∧ Th Rep wb w' p 0 A M ep X) := fun wb wx p F h hb => by
    have := SV wx p F ⟨40, -1, []⟩ A M ep _ X h.rep h0 (by decide) (by omega) (by omega) hep (h.rd (hrx.out.below hb)) hzx.out
    rw [HS1.out] at this
    refine this.mono ?_
    rintro e w' ⟨h1, G, r1, r2, r3⟩
    exact ⟨h1, G, d1, h.turn HH.out r1 r2 r3, hN1, by omega, e2, e3, hI1⟩
  have c5 : Hid (∀ (wb wx : World) (p k : Nat), Th Rep wb wx p k A M ep X → k ≤ 1000 → Below w.heap.size w wb → Calls Tryd.prog 24 #[ptr p, nu A, nu M, .int .u32 (ep : Int), .slice xa K xc] wx fun e w' => e = .returned (.bool true) ∧ Below wx.heap.size wx w' ∧ Th Rep wb w' p k A M ep X) := fun wb wx p k h hk hb => by
    obtain ⟨F, d, hO, hN, ht, h4, h5, hI⟩ := h
    refine (is_any LD wx p F d A M ep _ X hO.rep hN (by omega) hI ((hrx.out.below hb).below hO.bel)).mono ?_
    rintro e w' ⟨rfl, hb'⟩
    exact ⟨rfl, hb', F, d, hO.below HH.out hb', hN, ht, h4, h5, hI⟩
  have c6 : Hid (∀ (wb wx : World) (p k T : Nat) (s : List UInt8), Th Rep wb wx p k A M ep X → k ≤ 1000 → T < 40 → ¬ (A ≤ T ∧ T ≤ A + 2 * M) → s.length ≤ maxLen → Calls Tryd.prog 11 #[ptr p, nu T, .string (tx s)] wx fun e w' => e = .returned (if 256 < s.length then noE 3 else .nilIface) ∧ Th Rep wb w' p (k + 1) A M ep X) := fun wb wx p k T s h hk hT hTA hs => by
    obtain ⟨F, d, hO, hN, ht, h4, h5, hI⟩ := h
    obtain ⟨o1, o2⟩ := wr_on (d := d) (i := T) (s := s) h4 (by omega) (by rw [h5]; omega)
    refine (HH.out.write wx p F d T s hO.rep (by omega) (by omega) hs).mono ?_
    rintro e w' ⟨rfl, G, r1, r2, r3⟩
    refine ⟨?_, G, _, hO.turn HH.out r1 r2 r3, hN.wr _ _, by have := wrD_tr d T s; omega, o2, by rw [wrD_n]; exact h5, hI.wr _ _ (by omega)⟩
    rw [o1]
    split <;> rfl
  have c8 : Hid (∀ wx, Er.Handle wx → Calls Tryd.prog 9 #[noE 3, nu 3] wx fun e w' => e = .returned (.bool true) ∧ Below wx.heap.size wx w') := fun wx hg => plainL 3 (by decide) wx hg
  clear H SV LD hE ha hn hz HV e1 e2 e3 e4 hd1 hI1 hN1 hK hA hM hX h0 hm
  unfold plC at c1 ⊢
  go_enter Tryd.func4, Tryd.ntmps4
  go_wp2_with fail
  have hB0 : Hid (Below w.heap.size w (w.alloc (.cells #[nu a, nu n, .int .u32 (ep : Int), .slice xa x.length xc] 50))) := (Below.refl _ _).alloc (Nat.le_refl _) _
  refine (c1.out _).mono ?_
  rintro e w1 ⟨rfl, hb1⟩
  have hB1 := Hid.mk' (below_fromS hB0.out hb1)
  clear hb1 hB0 c1
  have hb0 : Below w1.heap.size w1 (w1.alloc (.cells (plC A M ep (.slice xa K xc)) 50)) := (Below.refl _ _).alloc (Nat.le_refl _) _
  have hX0 : (w1.alloc (.cells (plC A M ep (.slice xa K xc)) 50)).heap[w1.heap.size]? = some (.cells (plC A M ep (.slice xa K xc)) 50) := heap_alloc_new _ _
  obtain ⟨wb, hwb⟩ : ∃ wb, w1.alloc (.cells (plC A M ep (.slice xa K xc)) 50) = wb := ⟨_, rfl⟩
  rw [hwb] at hb0 hX0
  unfold plC at hwb
  have hXl : w1.heap.size < wb.heap.size := (Array.getElem?_eq_some_iff.1 hX0).1
  have HBb := Hid.mk' (below_fromS hB1.out hb0)
  have HX0 := Hid.mk' hX0
  clear hb0 hX0 hB1
  go_upto_region 2 with fail
  clear hwb
  go_wp2_with fail
  refine (c2.out _).mono ?_
  rintro e w2 ⟨p, F, rfl, r1, r2, r3⟩
  have HO2 : Hid (Od Rep wb w2 p F ⟨40, -1, []⟩) := ⟨r1, r2, r3⟩
  have C3 := Hid.mk' (c3.out w2)
  clear r1 r2 r3 c2
  go_wp2_with fail
  refine C3.out.mono ?_
  rintro e w3 ⟨rfl, hb⟩
  have HO3 := Hid.mk' (HO2.out.below HH.out hb)
  obtain ⟨x0, x1, x2, x3⟩ := plc ((HO3.out.bel.block _ hXl).trans HX0.out)
  have C4 := Hid.mk' (c4.out wb w3 p F HO3.out HBb.out)
  clear hb HO2 C3 c3
  go_wp2_with fail
  refine C4.out.mono ?_
  rintro e w4 ⟨rfl, hT4⟩
  have HT4 := Hid.mk' hT4
  obtain ⟨y0, y1, y2, y3⟩ := plc ((hT4.choose_spec.choose_spec.1.bel.block _ hXl).trans HX0.out)
  have C5 := Hid.mk' (c5.out wb w4 p 0 hT4 (by omega) HBb.out)
  clear hT4 x0 x1 x2 x3 HO3 C4 c4
  go_wp2_with fail
  refine C5.out.mono ?_
  rintro e w5 ⟨rfl, hb5, hT5⟩
  have HT5 := Hid.mk' hT5
  clear hb5 hT5 HT4 C5 y0 y1 y2 y3
  go_wp2
  go_loopw [7, 8, 9] (fun iv _ _ wr => ∃ k : Nat, k ≤ N ∧ k ≤ 100 ∧ iv = nu (k : Int) ∧ Hid (Th Rep wb wr p k A M ep X)) (fun iv _ _ _ => N - (intOf iv).toNat)
  case atStart => exact ⟨0, Nat.zero_le _, Nat.zero_le _, rfl, HT5⟩
  case round =>
    obtain ⟨i, hi, hi100, rfl, hT⟩ := hrel
    clear HT5
    have hbel : Below wb.heap.size wb wr := hT.out.choose_spec.choose_spec.1.bel
    obtain ⟨y0, y1, y2, y3⟩ := plc ((hbel.block _ hXl).trans HX0.out)
    have HBr := Hid.mk' (below_fromS HBb.out hbel)
    have hi0 : (0 : Int) ≤ (i : Int) := by omega
    clear hbel
    by_cases hin : i < N ∧ i < 100
    · have hin1 : (i : Int) < (N : Int) := by omega
      have hin2 : (i : Int) < 100 := by omega
      obtain ⟨u, hu⟩ : ∃ u, L[i]? = some u := ⟨L[i]'(by have := HN.out; omega), List.getElem?_eq_getElem _⟩
      obtain ⟨gx, o, rfl, hgx, hc⟩ := HC.out (by have := HN.out; omega)
      obtain ⟨_, q1, _, _, du, q4, hru, hzu⟩ := hc i u hu
      rw [← HBr.out.cell (p := ⟨gx, o + i * 5 + 1, none⟩) hgx] at q1
      rw [← HBr.out.cell (p := ⟨gx, o + i * 5 + 4, none⟩) hgx] at q4
      have hfx := HF.out u (List.mem_of_getElem? hu)
      have hcv := conv_rd (hru.below HBr.out)
      obtain ⟨ua, uc, rfl, hu1, hu2, _⟩ := hru
      have cK := pick_any u.a 40 wr (by decide) (by decide) hfx.2.1
      obtain ⟨T, hT1, hT2⟩ : ∃ T : Nat, u.a % 40 = T ∧ T < 40 := ⟨(u.a % 40).toNat, by omega, by omega⟩
      rw [show ((40 : Nat) : Int) = 40 from rfl, hT1] at cK
      have hw1 : IntKind.i64.wrap (2 * (M : Int)) = 2 * (M : Int) := by rw [IntKind.wrap_i64]; omega
      have CK := Hid.mk' cK
      have HSL : Hid (u.p.length ≤ maxLen) := by have := hfx.2.2.2.2; show u.p.length ≤ maxLen; unfold maxLen; omega
      clear hc hu HC cK hfx hT1
      by_cases hTA : A ≤ T ∧ T ≤ A + 2 * M
      · have t1 : (A : Int) ≤ (T : Int) := by omega
        have t2 : (T : Int) ≤ (A : Int) + 2 * (M : Int) := by omega
        go_wp2_with fail
        refine CK.out.mono ?_
        rintro e w' ⟨rfl, hw⟩
        subst w'
        clear CK
        go_wp2
        go_roundw
        case rel => exact ⟨i + 1, by omega, by omega, by go_num, by obtain ⟨F, d, h1, h2, h3, h4⟩ := hT.out; exact ⟨F, d, h1, h2, by omega, h4⟩⟩
        case measure => simp [intOf]; omega
      · have C6 := Hid.mk' (c6.out wb wr p i T u.p hT.out (by omega) hT2 hTA HSL.out)
        have HT9 : Hid (∀ w', Th Rep wb w' p (i + 1) A M ep X → Below w.heap.size w w') := fun w' h => by
          obtain ⟨F, d, h1, _⟩ := h
          exact below_fromS HBb.out h1.bel
        generalize hf : tx u.p = f at *
        clear hT
        by_cases hs : 256 < u.p.length
        · rw [if_pos hs] at C6
          rcases (show (¬ (A : Int) ≤ (T : Int)) ∨ ((A : Int) ≤ (T : Int) ∧ ¬ (T : Int) ≤ (A : Int) + 2 * (M : Int)) by omega) with t1 | ⟨t1, t2⟩
          all_goals
            go_wp2_with fail
            refine CK.out.mono ?_
            rintro e w' ⟨rfl, hw⟩
            subst w'
            clear CK
            go_wp2_with fail
            refine C6.out.mono ?_
            rintro e w6 ⟨rfl, hT6⟩
            have HT6 := Hid.mk' hT6
            have C8 := Hid.mk' (c8.out w6 (HE.out.below (HT9.out w6 hT6)))
            clear hT6 C6
            go_wp2_with fail
            refine C8.out.mono ?_
            rintro e w7 ⟨rfl, hb7⟩
            have HT7 : Hid (Th Rep wb w7 p (i + 1) A M ep X) := by
              obtain ⟨F, d, h1, h2⟩ := HT6.out
              exact ⟨F, d, h1.below HH.out hb7, h2⟩
            clear hb7 C8
            go_wp2
            go_roundw
            case rel => exact ⟨i + 1, by omega, by omega, by go_num, HT7⟩
            case measure => simp [intOf]; omega
        · rw [if_neg hs] at C6
          rcases (show (¬ (A : Int) ≤ (T : Int)) ∨ ((A : Int) ≤ (T : Int) ∧ ¬ (T : Int) ≤ (A : Int) + 2 * (M : Int)) by omega) with t1 | ⟨t1, t2⟩
          all_goals
            go_wp2_with fail
            refine CK.out.mono ?_
            rintro e w' ⟨rfl, hw⟩
            subst w'
            clear CK
            go_wp2_with fail
            refine C6.out.mono ?_
            rintro e w6 ⟨rfl, hT6⟩
            have HT6 := Hid.mk' hT6
            clear hT6 C6
            go_wp2
            go_roundw
            case rel => exact ⟨i + 1, by omega, by omega, by go_num, HT6⟩
            case measure => simp [intOf]; omega
    · have C5 := Hid.mk' (c5.out wb wr p i hT.out (by omega) HBb.out)
      clear hT c5 c6 c8
      rcases (show (¬ (i : Int) < (N : Int)) ∨ ((i : Int) < (N : Int) ∧ ¬ (i : Int) < 100) by omega) with t1 | ⟨t1, t2⟩
      all_goals
        go_wp2_with fail
        refine C5.out.mono ?_
        rintro e w5 ⟨rfl, hb5, _⟩
        have HB := Hid.mk' (below_fromS HBr.out hb5)
        clear hb5 C5
        go_wp2
        go_ret
        exact ⟨rfl, HB.out⟩
end Ae
end Go.Proofs.YtlgjnefieflmbaaDoor
