/- The document's header, Save and Load. -/
import Derived.Test.YtlgjnefieflmbaaDoorAreR
import Derived.Test.YtlgjnefieflmbaaDoorRefTk
import Derived.Test.YtlgjnefieflmbaaDoorRepR
namespace Go.Proofs.YtlgjnefieflmbaaDoor
set_option linter.ambiguousOpen false
open Go.RowKit
namespace Ae
open Sm Ft Dk Pk
set_option linter.unusedSimpArgs false
set_option linter.unusedVariables false

theorem below_h {w a b : World} {B : Nat} (h : Below B w a) (k : Below B a b) : Below B w b := h.trans k

set_option maxRecDepth 100000 in
set_option maxHeartbeats 2000000 in
theorem header_ref (ep : Nat) (v : Value) (x : List UInt8) (w : World) (hR : RdB w v x) (hep : ep < 4294967296) (hx : x.length < 4294967296) :
    Calls Tryd.prog 59 #[.int .u32 (ep : Int), v] w fun e w' => e = .returned (.string (tx (hdr ep x))) ∧ Below w.heap.size w w' := by
  have HR := Hid.mk' hR
  obtain ⟨n, hn⟩ : ∃ n, x.length = n := ⟨_, rfl⟩
  have c1 := Hid.mk' (four_any w.heap.size 0 (.slice none 0 0) [] ep w (World.ownsRow_nil _ _ _ _) (by decide) (Nat.le_refl _) hep)
  have cF : Hid (∀ (wx : World) (lv : Value) (l : List UInt8) (k y : Nat), wx.ownsRow w.heap.size 5 1 lv k (l.map by1) → k ≤ 1000 → w.heap.size ≤ wx.heap.size → y < 4294967296 → Calls Tryd.prog 77 #[lv, .int .u32 (y : Int)] wx fun e w' => ∃ r, e = .returned r ∧ w'.ownsRow w.heap.size 5 1 r (k + 4) ((l ++ Rc.lo y 4).map by1) ∧ Below w.heap.size wx w') := fun wx lv l k y h1 h2 h3 h4 => four_any w.heap.size k lv l y wx h1 h2 h3 h4
  have cO : Hid (∀ (wx : World) (u : Value) (l : List UInt8), RdB wx u l → Calls Tryd.prog 78 #[u] wx fun e w' => e = .returned (.int .u32 (crc l : Int)) ∧ w' = wx) := fun wx u l h => refof_any u l wx h
  obtain ⟨a, cap, rfl, hc1, hc2, _⟩ := id hR
  rw [hn] at HR hc1 hx ⊢
  have hN := Hid.mk' hn
  unfold maxLen at hc2
  have hwr : IntKind.u32.wrap (n : Int) = (n : Int) := by rw [IntKind.wrap_u32]; omega
  clear hR hn
  go_enter Tryd.func59, Tryd.ntmps59
  go_wp2_with fail
  refine c1.out.mono ?_
  rintro e w1 ⟨r1, rfl, ho1, hb1⟩
  have HO1 := Hid.mk' ho1
  have HB1 := Hid.mk' hb1
  have C2 := Hid.mk' (cF.out w1 r1 _ 4 n ho1 (by decide) hb1.size hx)
  obtain ⟨a1, k1, rfl, _⟩ := Nm.own_shape ho1
  clear ho1 hb1 c1
  go_wp2_with fail
  refine C2.out.mono ?_
  rintro e w2 ⟨r2, rfl, ho2, hb2⟩
  have HB2 := Hid.mk' (HB1.out.trans hb2)
  have C3 := Hid.mk' (cO.out w2 _ x (HR.out.below HB2.out))
  have C4 := Hid.mk' (cF.out w2 r2 _ 8 (crc x) ho2 (by decide) HB2.out.size (crc_lt x))
  obtain ⟨a2, k2, rfl, _⟩ := Nm.own_shape ho2
  clear ho2 hb2 C2 HO1 HB1
  go_wp2_with fail
  refine C3.out.mono ?_
  rintro e w' ⟨rfl, hw⟩
  subst w'
  go_wp2_with fail
  refine C4.out.mono ?_
  rintro e w3 ⟨r3, rfl, ho3, hb3⟩
  have HB3 := Hid.mk' (HB2.out.trans hb3)
  have hl3 : ((([] ++ Rc.lo ep 4) ++ Rc.lo n 4) ++ Rc.lo (crc x) 4) = hd12 ep x := by
    unfold hd12
    rw [hN.out]
    simp
  rw [hl3] at ho3
  have C5 := Hid.mk' (cO.out w3 r3 (hd12 ep x) (own_rd' ho3 (hd12_len ep x)))
  have C6 := Hid.mk' (cF.out w3 r3 _ 12 (crc (hd12 ep x)) ho3 (by decide) HB3.out.size (crc_lt _))
  obtain ⟨a3, k3, rfl, _⟩ := Nm.own_shape ho3
  clear ho3 hb3 C3 C4 HB2 hl3
  go_wp2_with fail
  refine C5.out.mono ?_
  rintro e w' ⟨rfl, hw⟩
  subst w'
  go_wp2_with fail
  refine C6.out.mono ?_
  rintro e w4 ⟨r4, rfl, ho4, hb4⟩
  have HB4 := Hid.mk' (HB3.out.trans hb4)
  have hcv := conv_rd (own_rd' (l := hdr ep x) ho4 (hdr_len ep x))
  obtain ⟨a4, k4, rfl, _⟩ := Nm.own_shape ho4
  clear ho4 hb4 C5 C6 HB3
  obtain ⟨f, hf⟩ : ∃ f, tx (hdr ep x) = f := ⟨_, rfl⟩
  rw [hf] at hcv
  have HF := Hid.mk' hf
  clear hf
  go_wp2
  go_ret
  exact ⟨by rw [HF.out]; rfl, HB4.out⟩

theorem min_twoA (a b : Int) (w : World) : (Builtin.min_ #[3, 3] 3 #[.int .i64 a, .int .i64 b]).run Tryd.prog w = .ok (.int .i64 (if b < a then b else a)) w := run_min_int2 ..

/-- What Save leaves. -/
def LeftS (base : Nat) (w w' : World) (g : Nat) (F : Nat → Prop) (d : Dsk) : Prop := ∃ G, RepR base w' g G d ∧ Keep F w w' ∧ Goes w F G

/-- At a round of the blocks' loop. -/
structure Wu (base : Nat) (w wr : World) (g : Nat) (F G : Nat → Prop) (d d' : Dsk) (b : Int) (bs : List (List UInt8)) (i : Nat) : Prop where
  rep : RepR base wr g G d'
  keep : Keep F w wr
  goes : Goes w F G
  ups : ups (b + (i : Int)) (bs.drop i) d' = ups b bs d
  n : d'.n = d.n
  tr : d'.tr.length ≤ d.tr.length + i
  lo : -1 ≤ d'.left ∧ d'.left ≤ 9223372036854775807

theorem ups_drop (b : Int) (bs : List (List UInt8)) (i : Nat) (t : List UInt8) (d : Dsk) (h : bs[i]? = some t) : ups (b + (i : Int)) (bs.drop i) d = if wrN d (b + (i : Int)) t = 0 then ups (b + ((i + 1 : Nat) : Int)) (bs.drop (i + 1)) (wrD d (b + (i : Int)) t) else (wrN d (b + (i : Int)) t, d) := by
  have hi : i < bs.length := (List.getElem?_eq_some_iff.1 h).1
  have e : bs.drop i = t :: bs.drop (i + 1) := by
    rw [List.drop_eq_getElem_cons hi]
    congr 1
    exact (List.getElem?_eq_some_iff.1 h).2
  rw [e, Ae.ups, show b + ((i + 1 : Nat) : Int) = b + (i : Int) + 1 by omega]

set_option maxRecDepth 100000 in
set_option maxHeartbeats 4000000 in
theorem save_ref (base : Nat) (w : World) (g : Nat) (F : Nat → Prop) (d : Dsk) (a n : Int) (ep : Nat) (v : Value) (x : List UInt8) (hR : RepR base w g F d) (hd : 1 ≤ d.n ∧ d.n ≤ 4096) (hl : -1 ≤ d.left ∧ d.left ≤ 9223372036854775807) (ht : d.tr.length + 5000 ≤ 1000000000) (hep : ep < 4294967296) (hv : ∀ w', Keep F w w' → RdB w' v x) :
    Calls Tryd.prog 36 #[ptr g, nu a, nu n, .int .u32 (ep : Int), v] w fun e w' => e = .returned (nu ((save d a n ep x).1 : Int)) ∧ LeftS base w w' g F (save d a n ep x).2 := by
  have c1 := Hid.mk' (may_ref w g d a n hR.num.1 hd)
  have HR := Hid.mk' hR
  have HV := Hid.mk' hv
  obtain ⟨N, hN⟩ : ∃ N, x.length = N := ⟨_, rfl⟩
  have HN := Hid.mk' hN
  obtain ⟨av, cv, hve, hc1, hc2, _⟩ := hv w (Keep.refl _ _)
  rw [hN] at hve hc1
  unfold maxLen at hc2
  subst hve
  cases hm : may d a n with
  | false =>
    rw [hm] at c1
    have hA : Hid (save d a n ep x = (1, d)) := by
      show _ = _
      rw [save, if_neg (by rw [hm]; decide)]
    clear hR hv hm
    go_enter Tryd.func36, Tryd.ntmps36
    go_wp2_with fail
    refine c1.out.mono ?_
    rintro e w' ⟨rfl, hw⟩
    subst w'
    go_wp2
    go_ret
    rw [hA.out]
    exact ⟨rfl, F, HR.out, Keep.refl _ _, Goes.refl _ _⟩
  | true =>
    rw [hm] at c1
    obtain ⟨m1, m2, m3⟩ := may_out hm
    by_cases hlen : n * 256 < (N : Int)
    · have hA : Hid (save d a n ep x = (3, d)) := by
        show _ = _
        rw [save, if_pos hm, hN, if_pos hlen]
      clear hR hv hm
      go_enter Tryd.func36, Tryd.ntmps36
      go_wp2_with fail
      refine c1.out.mono ?_
      rintro e w' ⟨rfl, hw⟩
      subst w'
      go_wp2
      go_ret
      rw [hA.out]
      exact ⟨rfl, F, HR.out, Keep.refl _ _, Goes.refl _ _⟩
    · have c2 := Hid.mk' (first_ref a n ep w (by omega) (by omega) hep)
      obtain ⟨b, hb⟩ : ∃ b : Int, fst a n ep = b := ⟨_, rfl⟩
      have hpf := pcs_fit x n (by rw [hN]; exact hlen)
      have hpl := pcs_count x
      obtain ⟨f1, f2⟩ := fst_in a n ep (pcs x).length m2 hpf
      rw [hb] at c2 f1 f2
      have hA : Hid (save d a n ep x = if (ups b (pcs x) d).1 = 0 then (wrN (ups b (pcs x) d).2 a (hdr ep x), wrD (ups b (pcs x) d).2 a (hdr ep x)) else ups b (pcs x) d) := by
        show _ = _
        rw [save, if_pos hm, hN, if_neg hlen, hb]
      have hpc : Hid (∀ i : Nat, 256 * i < N → (pcs x)[i]? = some ((x.drop (256 * i)).take 256)) := fun i hi => by
        rw [pcs_at, if_pos (by rw [hN]; exact hi)]
      have cW : Hid (∀ wx G d' i t, RepR base wx g G d' → d'.tr.length ≤ 1000000000 → t.length ≤ 256 → (-1 ≤ d'.left ∧ d'.left ≤ 9223372036854775807) → Calls Tryd.prog 12 #[ptr g, nu i, .string (tx t)] wx fun e w' => e = .returned (nu (wrN d' i t)) ∧ ∃ G', RepR base w' g G' (wrD d' i t) ∧ Keep G wx w' ∧ Goes wx G G') := fun wx G d' i t h1 h2 h3 h4 => rwrite base wx g G d' i t h1 h2 (by unfold maxLen; omega) h4
      have cH : Hid (∀ wx, Keep F w wx → Calls Tryd.prog 59 #[.int .u32 (ep : Int), .slice av N cv] wx fun e w' => e = .returned (.string (tx (hdr ep x))) ∧ Below wx.heap.size wx w') := fun wx hk => header_ref ep _ x wx (HV.out wx hk) hep (by omega)
      have hcnt : ((pcs x).length : Int) ≤ 4096 := by omega
      have hN2 : (N : Int) ≤ 1048576 := by omega
      rw [hN] at hpl
      clear hR hv hm hb
      go_enter Tryd.func36, Tryd.ntmps36
      go_wp2_with fail
      refine c1.out.mono ?_
      rintro e w' ⟨rfl, hw⟩
      subst w'
      go_wp2_with fail
      refine c2.out.mono ?_
      rintro e w' ⟨rfl, hw⟩
      subst w'
      clear c1 c2
      go_wp2
      go_loopw [11, 12, 13, 14] (fun bv kv _ _ wr => ∃ i : Nat, i ≤ (pcs x).length ∧ bv = nu (b + (i : Int)) ∧ kv = nu (256 * (i : Int)) ∧ Hid (∃ G d', Wu base w wr g F G d d' b (pcs x) i)) (fun _ kv _ _ _ => 256 * (pcs x).length + 256 - (intOf kv).toNat)
      case atStart => exact ⟨0, Nat.zero_le _, by simp, by simp, F, d, HR.out, Keep.refl _ _, Goes.refl _ _, by simp, rfl, Nat.le_refl _, hl⟩
      case round =>
        obtain ⟨i, hi, rfl, rfl, hrr⟩ := hrel
        obtain ⟨G, d', hw⟩ := hrr.out
        by_cases hlt : 256 * i < N
        · obtain ⟨t, htt⟩ : ∃ t, (pcs x)[i]? = some t := ⟨_, hpc.out i hlt⟩
          have hte : t = (x.drop (256 * i)).take 256 := by
            have := hpc.out i hlt
            rw [htt] at this
            exact Option.some.inj this
          have hil : i < (pcs x).length := (List.getElem?_eq_some_iff.1 htt).1
          obtain ⟨en, hen⟩ : ∃ en : Nat, min (256 * i + 256) N = en := ⟨_, rfl⟩
          have hmin : ∀ wx, (Builtin.min_ #[3, 3] 3 #[.int .i64 (256 * (i : Int) + 256), .int .i64 (N : Int)]).run Tryd.prog wx = .ok (.int .i64 (en : Int)) wx := fun wx => by
            rw [min_twoA]
            congr 2
            split <;> omega
          have hrd := HV.out wr hw.keep
          have hsl := fun wx => slice_midP av N cv (256 * i) en (by omega) (by omega) wx
          simp only [Int.natCast_mul, Int.cast_ofNat_Int] at hsl
          have hmd := rd_mid (a := av) (cap := cv) (l := x) (by rw [HN.out]; exact hrd) (256 * i) en (by omega) (by rw [HN.out]; omega)
          have hte2 : (x.drop (256 * i)).take (en - 256 * i) = t := by
            rw [hte]
            by_cases h2 : 256 * i + 256 ≤ N
            · rw [show en - 256 * i = 256 by omega]
            · rw [List.take_of_length_le (by rw [List.length_drop, HN.out]; omega), List.take_of_length_le (by rw [List.length_drop, HN.out]; omega)]
          rw [hte2] at hmd
          have hcv := conv_rd hmd
          have htl : t.length ≤ 256 := pcs_short x.length x (Nat.le_refl _) t (List.mem_of_getElem? htt)
          have hst := ups_drop b (pcs x) i t d' htt
          rw [hw.ups] at hst
          have C := Hid.mk' (cW.out wr G d' (b + (i : Int)) t hw.rep (by have := hw.tr; omega) htl hw.lo)
          have HWU := Hid.mk' hw
          have HST := Hid.mk' hst
          have hkI : 256 * (i : Int) < (N : Int) := by omega
          have hb0 : 0 ≤ b + (i : Int) ∧ b + (i : Int) ≤ 4096 := by omega
          clear hrr hw hrd hmd hte hte2 htt hst
          generalize tx t = f at *
          by_cases h0 : wrN d' (b + (i : Int)) t = 0
          · rw [h0] at C
            rw [if_pos h0] at HST
            go_wp2_with fail
            refine C.out.mono ?_
            rintro e w5 ⟨rfl, G', r1, r2, r3⟩
            have HN5 : Hid (∃ G d', Wu base w w5 g F G d d' b (pcs x) (i + 1)) := ⟨G', _, r1, keep_goes HWU.out.keep HWU.out.goes r2, goes_trans HWU.out.goes r3 HWU.out.keep.size, HST.out.symm, (wrD_n _ _ _).trans HWU.out.n, by have := wrD_tr d' (b + (i : Int)) t; have := HWU.out.tr; omega, wrD_left _ _ _ HWU.out.lo⟩
            clear r1 r2 r3 C hcv hsl hmin
            go_wp2
            go_roundw
            case rel => exact ⟨i + 1, by omega, by go_num, by go_num, HN5⟩
            case measure => simp [intOf]; omega
          · rw [if_neg h0] at HST
            obtain ⟨c, hc⟩ : ∃ c : Nat, wrN d' (b + (i : Int)) t = c := ⟨_, rfl⟩
            rw [hc] at C HST h0
            have hcz : ((c : Int) == 0) = false := by simp; omega
            have hDD : wrD d' (b + (i : Int)) t = d' := by
              unfold wrD
              rw [hc, if_neg h0]
            rw [hDD] at C
            clear hDD hc
            go_wp2_with fail
            refine C.out.mono ?_
            rintro e w5 ⟨rfl, G', r1, r2, r3⟩
            have HL : Hid (LeftS base w w5 g F d') := ⟨G', r1, keep_goes HWU.out.keep HWU.out.goes r2, goes_trans HWU.out.goes r3 HWU.out.keep.size⟩
            clear r1 r2 r3 C hcv hsl hmin
            go_wp2
            go_ret
            rw [hA.out, HST.out, if_neg h0]
            exact ⟨rfl, HL.out⟩
        · obtain rfl : i = (pcs x).length := by omega
          have hu : ups b (pcs x) d = (0, d') := by
            rw [← hw.ups, List.drop_length, Ae.ups]
          have hkI : ¬ 256 * ((pcs x).length : Int) < (N : Int) := by omega
          have C1 := Hid.mk' (cH.out wr hw.keep)
          have HWU := Hid.mk' hw
          rw [hu, if_pos rfl] at hA
          clear hrr hw hu
          have hhl := hdr_len ep x
          have C2 : Hid (∀ wx, Below wr.heap.size wr wx → _) := fun wx hb => cW.out wx G d' a (hdr ep x) (HWU.out.rep.below hb) (by have := HWU.out.tr; omega) (by rw [hhl]; decide) HWU.out.lo
          obtain ⟨f, hf⟩ : ∃ f, tx (hdr ep x) = f := ⟨_, rfl⟩
          rw [hf] at C1 C2
          clear hf hhl
          go_wp2_with fail
          refine C1.out.mono ?_
          rintro e w5 ⟨rfl, hb5⟩
          have C3 := Hid.mk' (C2.out w5 hb5)
          have HB5 := Hid.mk' hb5
          clear C1 C2 hb5
          go_wp2_with fail
          refine C3.out.mono ?_
          rintro e w6 ⟨rfl, G', r1, r2, r3⟩
          have HL : Hid (LeftS base w w6 g F (wrD d' a (hdr ep x))) := ⟨G', r1, keep_goes HWU.out.keep HWU.out.goes ((Keep.of_below HB5.out).trans r2 (fun _ _ h => h)), goes_trans HWU.out.goes (fun k hk => by
            rcases r3 k hk with h | h
            · exact .inl h
            · exact .inr (Nat.le_trans HB5.out.size h)) HWU.out.keep.size⟩
          clear r1 r2 r3 C3
          go_wp2
          go_ret
          rw [hA.out]
          exact ⟨rfl, HL.out⟩
end Ae
end Go.Proofs.YtlgjnefieflmbaaDoor
