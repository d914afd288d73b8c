/- AreG, AreH, AreI, AreJ, in one text. -/
import Derived.Test.YtlgjnefieflmbaaDoorPairA
import Derived.Test.YtlgjnefieflmbaaDoorCounts
import Derived.BigQuiet
import Derived.Test.YtlgjnefieflmbaaDoorMore13
/- The program's area: a number's four bytes, an area's first block, whether a place may be, the header. -/
namespace Go.Proofs.YtlgjnefieflmbaaDoor
set_option linter.ambiguousOpen false
open Go.RowKit
namespace Ae
open Sm Ft Dk Pk
set_option linter.unusedSimpArgs false
set_option linter.unusedVariables false

set_option maxRecDepth 100000 in
set_option maxHeartbeats 1000000 in
theorem put_p (base n : Nat) (lv : Value) (l : List UInt8) (v : Nat) (w : World) (hO : w.ownsRow base 5 1 lv n (l.map by1)) (hn : n ≤ 1000) (hb : base ≤ w.heap.size) (hv : v < 4294967296) :
    Calls Tryd.prog 70 #[lv, .int .u32 (v : Int)] w fun e w' => ∃ x, e = .returned x ∧ w'.ownsRow base 5 1 x (n + 4) ((l ++ Rc.lo v 4).map by1) ∧ Below base w w' := by
  obtain ⟨i0, ji, hz0, hz1, hz2⟩ := info_parts info_byte
  have hS : Hid ((l ++ Rc.lo v 4).map by1 = l.map by1 ++ [.int .u8 ((v : Int) % 256), .int .u8 ((v : Int) / 256 % 256), .int .u8 ((v : Int) / 65536 % 256), .int .u8 ((v : Int) / 16777216)]) := by
    show _ = _
    rw [List.map_append, lo4I v hv]
  have HO := Hid.mk' hO
  have hone : Hid (∀ x ∈ [Value.int .u8 ((v : Int) % 256), .int .u8 ((v : Int) / 256 % 256), .int .u8 ((v : Int) / 65536 % 256), .int .u8 ((v : Int) / 16777216)], x.oneCell' = true) := by
    intro x hx
    simp at hx
    rcases hx with rfl | rfl | rfl | rfl <;> rfl
  have hmx : Hid (n + 4 ≤ maxLen) := by show _ ≤ _; unfold maxLen; omega
  have hby : Hid ((n + 4) * 1 ≤ 140737488355328) := by show _ ≤ _; omega
  have hlt : Hid (∀ k, lv.ownBlock = some k → base ≤ k) := fun k hk => (hO.lt k hk).1
  clear hO
  go_enter Tryd.func70, Tryd.ntmps70
  go_wp2_with (at_builtin; refine wpList_append_own _ rfl _ _ 33 rfl base 5 i0 (.int .u8 0) 1 1 Tryd.underlying33 ji hz0 hz1 hz2 rfl (by decide) _ _ _ rfl (HO.out.alloc _) ⟨w.heap.size, 0, none⟩ 4 4 [.int .u8 ((v : Int) % 256), .int .u8 ((v : Int) / 256 % 256), .int .u8 ((v : Int) / 65536 % 256), .int .u8 ((v : Int) / 16777216)] rfl rfl (World.news_of_block (heap_alloc_new _ _)) hone.out hmx.out hby.out (by simp; omega) ?_; intro v' w4 hown4 hgrow _; rw [← hS.out] at hown4; have HO4 := Hid.mk' hown4; have HB4 : Hid (Below base w w4) := Below.grown ((Below.refl base w).alloc hb _) hgrow (by simp; omega) hlt.out; clear hown4 hgrow)
  go_ret
  exact ⟨_, rfl, HO4.out, HB4.out⟩

set_option maxRecDepth 100000 in
theorem number_p (s : List UInt8) (w : World) (hk : s.length = 4) :
    Calls Tryd.prog 62 #[.string (tx s)] w fun e w' => e = .returned (.int .u32 (num4 s 0 : Int)) ∧ ∃ n, w' = w.drewN n := by
  have i0 := fun wx => idx_at s 0 (by omega) wx
  have i1 := fun wx => idx_at s 1 (by omega) wx
  have i2 := fun wx => idx_at s 2 (by omega) wx
  have i3 := fun wx => idx_at s 3 (by omega) wx
  have hz : (tx s).size = s.length := rfl
  unfold by1 at i0 i1 i2 i3
  simp only [Int.cast_ofNat_Int] at i0 i1 i2 i3
  generalize tx s = f at *
  obtain ⟨b0, hb0⟩ : ∃ b, (byI s 0).toNat = b := ⟨_, rfl⟩
  obtain ⟨b1, hb1⟩ : ∃ b, (byI s 1).toNat = b := ⟨_, rfl⟩
  obtain ⟨b2, hb2⟩ : ∃ b, (byI s 2).toNat = b := ⟨_, rfl⟩
  obtain ⟨b3, hb3⟩ : ∃ b, (byI s 3).toNat = b := ⟨_, rfl⟩
  rw [hb0] at i0
  rw [hb1] at i1
  rw [hb2] at i2
  rw [hb3] at i3
  have l0 : b0 < 256 := by rw [← hb0]; exact byte_lt _
  have l1 : b1 < 256 := by rw [← hb1]; exact byte_lt _
  have l2 : b2 < 256 := by rw [← hb2]; exact byte_lt _
  have l3 : b3 < 256 := by rw [← hb3]; exact byte_lt _
  have hfin : Hid (bits .or .u32 (bits .or .u32 (bits .or .u32 (b0 : Int) ((b1 : Int) * 256)) ((b2 : Int) * 65536)) ((b3 : Int) * 16777216) = (num4 s 0 : Int)) := by
    show _ = _
    have e1 := or_mul32 b0 b1 8 256 (by decide) l0 (by omega)
    have e2 := or_mul32 (b0 + b1 * 256) b2 16 65536 (by decide) (by omega) (by omega)
    have e3 := or_mul32 (b0 + b1 * 256 + b2 * 65536) b3 24 16777216 (by decide) (by omega) (by omega)
    have e4 := num4_by s 0 (by omega)
    rw [hb0, hb1, hb2, hb3] at e4
    rw [show (256 : Int) = ((256 : Nat) : Int) from rfl, show (65536 : Int) = ((65536 : Nat) : Int) from rfl, show (16777216 : Int) = ((16777216 : Nat) : Int) from rfl, e1, e2, e3, e4]
    congr 1
    omega
  clear hb0 hb1 hb2 hb3 hz hk
  go_enter Tryd.func62, Tryd.ntmps62
  go_wp2_with fail
  go_quiet (fail)
  go_wp2
  go_ret
  exact ⟨ret_u4 hfin.out, _, rfl⟩

set_option maxRecDepth 100000 in
theorem first_p (a n : Int) (ep : Nat) (w : World) (ha : 0 ≤ a ∧ a ≤ 4096) (hn : 1 ≤ n ∧ n ≤ 4096) (hep : ep < 4294967296) :
    Calls Tryd.prog 45 #[nu a, nu n, .int .u32 (ep : Int)] w fun e w' => e = .returned (nu (fst a n ep)) ∧ Below w.heap.size w w' := by
  unfold fst
  obtain ⟨r, hr⟩ : ∃ r : Int, (ep : Int) % 2 = r := ⟨_, rfl⟩
  have hre : ((ep % 2 : Nat) : Int) = r := by omega
  rw [hre]
  have hr01 : r = 0 ∨ r = 1 := by omega
  have htm : (ep : Int).tmod 2 = r := by rw [Int.tmod_eq_emod_of_nonneg (by omega), hr]
  clear hr hre
  rcases hr01 with rfl | rfl
  · go_enter Tryd.func45, Tryd.ntmps45
    go_wp2
    go_ret
    exact ⟨ret_nu (by omega), (Below.refl _ _).alloc (Nat.le_refl _) _⟩
  · go_enter Tryd.func45, Tryd.ntmps45
    go_wp2
    go_ret
    exact ⟨ret_nu (by omega), (Below.refl _ _).alloc (Nat.le_refl _) _⟩

theorem half_le (x n : Int) (hn : 1 ≤ n) : (n ≤ x.tdiv 2) = (2 * n ≤ x) := by
  rcases Int.lt_or_le x 0 with h | h
  · have h1 : x.tdiv 2 ≤ 0 := by
      have e : x.tdiv 2 = -((-x).tdiv 2) := by rw [Int.neg_tdiv, Int.neg_neg]
      have : 0 ≤ (-x).tdiv 2 := Int.tdiv_nonneg (by omega) (by decide)
      omega
    exact propext ⟨fun h => by omega, fun h => by omega⟩
  · rw [Int.tdiv_eq_ediv_of_nonneg h]
    exact propext ⟨fun h => by omega, fun h => by omega⟩

set_option maxRecDepth 100000 in
theorem mayBe_p {Rep : World → Nat → (Nat → Prop) → Dsk → Prop} (H : Says Rep) (w : World) (p : Nat) (F : Nat → Prop) (d : Dsk) (a n : Int) (hR : Rep w p F d) (hd : 1 ≤ d.n ∧ d.n ≤ 4096) (ha : -9223372036854775808 ≤ a ∧ a ≤ 9223372036854775807) (hn : -9223372036854775808 ≤ n ∧ n ≤ 9223372036854775807) :
    Calls Tryd.prog 43 #[ptr p, nu a, nu n] w fun e w' => e = .returned (.bool (may d a n)) ∧ Below w.heap.size w w' := by
  have c1 := Hid.mk' (H.blocks w p F d hR)
  obtain ⟨r, hr⟩ : ∃ r, may d a n = r := ⟨_, rfl⟩
  rw [hr]
  unfold may at hr
  by_cases h1 : 0 ≤ a
  · by_cases h2 : 1 ≤ n
    · obtain ⟨q, hq⟩ : ∃ q, (d.n - 1 - a).tdiv 2 = q := ⟨_, rfl⟩
      have hm : r = decide (n ≤ q) := by
        rw [← hr, ← hq]
        refine decide_eq_decide.2 ?_
        rw [half_le _ _ h2]
        omega
      have hq0 : -9223372036854775808 ≤ q ∧ q ≤ 9223372036854775807 := by
        rcases Int.lt_or_le (d.n - 1 - a) 0 with h | h
        · have e : (d.n - 1 - a).tdiv 2 = -((-(d.n - 1 - a)).tdiv 2) := by rw [Int.neg_tdiv, Int.neg_neg]
          have e2 : (-(d.n - 1 - a)).tdiv 2 = (-(d.n - 1 - a)) / 2 := Int.tdiv_eq_ediv_of_nonneg (by omega)
          omega
        · rw [Int.tdiv_eq_ediv_of_nonneg h] at hq
          omega
      clear hr H hR
      subst hm
      go_enter Tryd.func43, Tryd.ntmps43
      go_wp2_with fail
      refine c1.out.mono ?_
      rintro e w1 ⟨rfl, hb⟩
      have HB := Hid.mk' hb
      clear hb c1
      go_wp2
      go_ret
      exact ⟨rfl, HB.out⟩
    · have hm : r = false := by rw [← hr]; exact decide_eq_false (by omega)
      clear hr H hR c1
      subst hm
      go_enter Tryd.func43, Tryd.ntmps43
      go_wp2
      go_ret
      exact ⟨rfl, Below.refl _ _⟩
  · have hm : r = false := by rw [← hr]; exact decide_eq_false (by omega)
    clear hr H hR c1
    subst hm
    go_enter Tryd.func43, Tryd.ntmps43
    go_wp2
    go_ret
    exact ⟨rfl, Below.refl _ _⟩

theorem make_b (k : Nat) (hk : k ≤ 1048576) (W : World) : ∃ o, (Instr.makeSlice 33 (.int .i64 0) (.int .i64 (k : Int))).run Tryd.prog W = .ok (.slice (some ⟨W.heap.size, 0, none⟩) 0 k) (W.alloc o) ∧ (W.alloc o).ownsRow W.heap.size 5 1 (.slice (some ⟨W.heap.size, 0, none⟩) 0 k) 0 [] := by
  obtain ⟨i0, ji, hz0, hz1, hz2⟩ := info_parts info_byte
  have h := run_make (P := Tryd.prog) W 33 5 i0 _ Tryd.underlying33 ji hz0 .i64 .i64 (0 : Int) (k : Int) (by omega) (by omega) (by rw [hz2]; omega) (by omega)
  rw [hz1, Int.toNat_natCast] at h
  refine ⟨_, h, ?_⟩
  have hl : (madeCells (Value.int .u8 0).cells (k * 1)).toList = List.replicate k (.int .u8 0) := by
    rw [Nat.mul_one]
    exact toList_madeCells_one _ _
  have hs : (madeCells (Value.int .u8 0).cells (k * 1)).size = k := by
    rw [← Array.length_toList, hl, List.length_replicate]
  refine ⟨rfl, .inr ⟨W.heap.size, k, _, rfl, Nat.le_refl _, heap_alloc_new _ _, Nat.zero_le _, by unfold maxLen; omega, ?_, ?_⟩⟩
  · rw [hs, Nat.mul_one]
  · simp

set_option maxRecDepth 100000 in
set_option maxHeartbeats 2000000 in
theorem header_p (ep : Nat) (v : Value) (x : List UInt8) (w : World) (hR : RdB w v x) (hep : ep < 4294967296) (hx : x.length < 4294967296) :
    Calls Tryd.prog 46 #[.int .u32 (ep : Int), v] w fun e w' => e = .returned (.string (tx (hdr ep x))) ∧ Below w.heap.size w w' := by
  have HR := Hid.mk' hR
  obtain ⟨n, hn⟩ : ∃ n, x.length = n := ⟨_, rfl⟩
  obtain ⟨o, hmk, hmo⟩ := make_b 16 (by decide) w
  have hbm : Below w.heap.size w (w.alloc o) := (Below.refl _ _).alloc (Nat.le_refl _) _
  have c1 := Hid.mk' (put_p w.heap.size 0 (.slice (some ⟨w.heap.size, 0, none⟩) 0 16) [] ep (w.alloc o) hmo (by decide) hbm.size hep)
  have HBM := Hid.mk' hbm
  have cF : Hid (∀ (wx : World) (lv : Value) (l : List UInt8) (k y : Nat), wx.ownsRow w.heap.size 5 1 lv k (l.map by1) → k ≤ 1000 → w.heap.size ≤ wx.heap.size → y < 4294967296 → Calls Tryd.prog 70 #[lv, .int .u32 (y : Int)] wx fun e w' => ∃ r, e = .returned r ∧ w'.ownsRow w.heap.size 5 1 r (k + 4) ((l ++ Rc.lo y 4).map by1) ∧ Below w.heap.size wx w') := fun wx lv l k y h1 h2 h3 h4 => put_p w.heap.size k lv l y wx h1 h2 h3 h4
  have cO : Hid (∀ (wx : World) (u : Value) (l : List UInt8), RdB wx u l → Calls Tryd.prog 71 #[u] wx fun e w' => e = .returned (.int .u32 (crc l : Int)) ∧ Below wx.heap.size wx w') := fun wx u l h => of_any u l wx h
  obtain ⟨a, cap, rfl, hc1, hc2, _⟩ := id hR
  rw [hn] at HR hc1 hx ⊢
  have hN := Hid.mk' hn
  unfold maxLen at hc2
  have hwr : IntKind.u32.wrap (n : Int) = (n : Int) := by rw [IntKind.wrap_u32]; omega
  simp only [Int.cast_ofNat_Int] at hmk
  clear hR hn hmo hbm
  go_enter Tryd.func46, Tryd.ntmps46
  go_wp2_with fail
  refine c1.out.mono ?_
  rintro e w1 ⟨r1, rfl, ho1, hb1⟩
  have hb1 := HBM.out.trans hb1
  have HO1 := Hid.mk' ho1
  have HB1 := Hid.mk' hb1
  have C2 := Hid.mk' (cF.out w1 r1 _ 4 n ho1 (by decide) hb1.size hx)
  obtain ⟨a1, k1, rfl, _⟩ := Nm.own_shape ho1
  clear ho1 hb1 c1 hmk HBM
  go_wp2_with fail
  refine C2.out.mono ?_
  rintro e w2 ⟨r2, rfl, ho2, hb2⟩
  have HB2 := Hid.mk' (HB1.out.trans hb2)
  have C3 := Hid.mk' (cO.out w2 _ x (HR.out.below HB2.out))
  have C4 : Hid (∀ wx, Below w2.heap.size w2 wx → _) := fun wx hx => cF.out wx r2 _ 8 (crc x) ((Keep.of_below (F := fun _ => False) hx).own ho2 (fun _ _ h => h)) (by decide) (Nat.le_trans HB2.out.size hx.size) (crc_lt x)
  obtain ⟨a2, k2, rfl, _⟩ := Nm.own_shape ho2
  clear ho2 hb2 C2 HO1 HB1
  go_wp2_with fail
  refine C3.out.mono ?_
  rintro e w2' ⟨rfl, hb⟩
  have C4' := Hid.mk' (C4.out w2' hb)
  have HB2' := Hid.mk' (HB2.out.trans (hb.mono HB2.out.size))
  clear hb C3 C4
  go_wp2_with fail
  refine C4'.out.mono ?_
  rintro e w3 ⟨r3, rfl, ho3, hb3⟩
  have HB3 := Hid.mk' (HB2'.out.trans hb3)
  have hl3 : ((([] ++ Rc.lo ep 4) ++ Rc.lo n 4) ++ Rc.lo (crc x) 4) = hd12 ep x := by
    unfold hd12
    rw [hN.out]
    simp
  rw [hl3] at ho3
  have C5 := Hid.mk' (cO.out w3 r3 (hd12 ep x) (own_rd' ho3 (hd12_len ep x)))
  have C6 : Hid (∀ wx, Below w3.heap.size w3 wx → _) := fun wx hx => cF.out wx r3 _ 12 (crc (hd12 ep x)) ((Keep.of_below (F := fun _ => False) hx).own ho3 (fun _ _ h => h)) (by decide) (Nat.le_trans HB3.out.size hx.size) (crc_lt _)
  obtain ⟨a3, k3, rfl, _⟩ := Nm.own_shape ho3
  clear ho3 hb3 C4' HB2 HB2' hl3
  go_wp2_with fail
  refine C5.out.mono ?_
  rintro e w3' ⟨rfl, hb⟩
  have C6' := Hid.mk' (C6.out w3' hb)
  have HB3' := Hid.mk' (HB3.out.trans (hb.mono HB3.out.size))
  clear hb C5 C6
  go_wp2_with fail
  refine C6'.out.mono ?_
  rintro e w4 ⟨r4, rfl, ho4, hb4⟩
  have HB4 := Hid.mk' (HB3'.out.trans hb4)
  have hcv := conv_rd (own_rd' (l := hdr ep x) ho4 (hdr_len ep x))
  obtain ⟨a4, k4, rfl, _⟩ := Nm.own_shape ho4
  clear ho4 hb4 C6' HB3 HB3'
  obtain ⟨f, hf⟩ : ∃ f, tx (hdr ep x) = f := ⟨_, rfl⟩
  rw [hf] at hcv
  have HF := Hid.mk' hf
  clear hf
  go_wp2
  go_ret
  exact ⟨by rw [HF.out]; rfl, HB4.out⟩
end Ae
end Go.Proofs.YtlgjnefieflmbaaDoor
/- The program's area: an image's blocks are written; they are gathered. -/
namespace Go.Proofs.YtlgjnefieflmbaaDoor
set_option linter.ambiguousOpen false
open Go.RowKit
namespace Ae
open Sm Ft Dk Pk
set_option linter.unusedSimpArgs false
set_option linter.unusedVariables false

/-- What a call leaves of the disk. -/
def LeftP (Rep : World → Nat → (Nat → Prop) → Dsk → Prop) (w w' : World) (p : Nat) (F : Nat → Prop) (d : Dsk) : Prop := ∃ G, Rep w' p G d ∧ Keep F w w' ∧ Goes w F G

/-- At a round of the blocks' loop: y is left to be written. -/
structure Wy (Rep : World → Nat → (Nat → Prop) → Dsk → Prop) (w wr : World) (p : Nat) (F G : Nat → Prop) (d d' : Dsk) (b : Int) (x y : List UInt8) (i : Nat) : Prop where
  rep : Rep wr p G d'
  keep : Keep F w wr
  goes : Goes w F G
  ups : ups (b + (i : Int)) (pcs y) d' = ups b (pcs x) d
  n : d'.n = d.n
  tr : d'.tr.length ≤ d.tr.length + i

theorem take_min (y : List UInt8) : y.take (min y.length 256) = y.take 256 := by
  rcases Nat.le_total y.length 256 with h | h
  · rw [show min y.length 256 = y.length by omega, List.take_length, List.take_of_length_le h]
  · rw [show min y.length 256 = 256 by omega]

theorem drop_min (y : List UInt8) : y.drop (min y.length 256) = y.drop 256 := by
  rcases Nat.le_total y.length 256 with h | h
  · rw [show min y.length 256 = y.length by omega, List.drop_length, List.drop_of_length_le h]
  · rw [show min y.length 256 = 256 by omega]

set_option maxRecDepth 100000 in
set_option maxHeartbeats 4000000 in
theorem lay_p {Rep : World → Nat → (Nat → Prop) → Dsk → Prop} (H : Says Rep) (w : World) (p : Nat) (F : Nat → Prop) (d : Dsk) (b : Int) (v : Value) (x : List UInt8) (hR : Rep w p F d) (ht : d.tr.length + 5000 ≤ 1000000000) (hb : 0 ≤ b) (hbn : b + ((pcs x).length : Int) ≤ 4096) (hv : ∀ w', Keep F w w' → RdB w' v x) :
    Calls Tryd.prog 44 #[ptr p, nu b, v] w fun e w' => e = .returned (errE (ups b (pcs x) d).1) ∧ LeftP Rep w w' p F (ups b (pcs x) d).2 := by
  have HR := Hid.mk' hR
  obtain ⟨U, hU⟩ : ∃ U, ups b (pcs x) d = U := ⟨_, rfl⟩
  have HU := Hid.mk' hU
  rw [hU]
  obtain ⟨C, hC⟩ : ∃ C, (pcs x).length = C := ⟨_, rfl⟩
  have hCx : (x.length + 255) / 256 = C := by rw [← hC, pcs_count]
  rw [hC] at hbn
  obtain ⟨N, hN⟩ : ∃ N, x.length = N := ⟨_, rfl⟩
  have HN := Hid.mk' hN
  rw [hN] at hCx
  have HV := Hid.mk' hv
  obtain ⟨av, cv, hve, hc1, hc2, _⟩ := hv w (Keep.refl _ _)
  rw [hN] at hve hc1
  unfold maxLen at hc2
  subst hve
  have cW : Hid (∀ wx G d' i t, Rep wx p G d' → d'.tr.length ≤ 1000000000 → 0 ≤ i ∧ i ≤ 4096 → t.length ≤ 256 → Calls Tryd.prog 11 #[ptr p, nu i, .string (tx t)] wx fun e w' => e = .returned (errE (wrN d' i t)) ∧ ∃ G', Rep w' p G' (wrD d' i t) ∧ Keep G wx w' ∧ Goes wx G G') := fun wx G d' i t h1 h2 h3 h4 => H.write wx p G d' i t h1 h2 (by omega) (by unfold maxLen; omega)
  clear hR hv hC hU H
  go_enter Tryd.func44, Tryd.ntmps44
  go_wp2
  go_loopw [1, 2, 7, 8] (fun bv dv _ _ wr => ∃ (i M cp : Nat) (aa : Option Addr) (y : List UInt8), i ≤ C ∧ M ≤ cp ∧ cp ≤ 9223372036854775807 ∧ bv = nu (b + (i : Int)) ∧ dv = .slice aa M cp ∧ Hid (y.length = M) ∧ Hid ((M + 255) / 256 + i = C) ∧ Hid (∀ w', Keep F w w' → RdB w' (.slice aa M cp) y) ∧ Hid (∃ G d', Wy Rep w wr p F G d d' b x y i)) (fun bv _ _ _ _ => (b + (C : Int) + 1 - intOf bv).toNat)
  case atStart => exact ⟨0, N, cv, av, x, by omega, hc1, by omega, by simp, rfl, HN.out, by show _ = _; omega, HV.out, F, d, HR.out, Keep.refl _ _, Goes.refl _ _, by simp, rfl, Nat.le_refl _⟩
  case round =>
    obtain ⟨i, M, cp, aa, y, hi, hm1, hm2, rfl, rfl, hy, hci, hrd, hrr⟩ := hrel
    obtain ⟨G, d', hw⟩ := hrr.out
    by_cases hpos : 0 < M
    · have hiC : i < C := by have := hci.out; omega
      have hyn : y ≠ [] := fun e => by have := hy.out; rw [e] at this; simp at this; omega
      obtain ⟨k, hk⟩ : ∃ k : Nat, min M 256 = k := ⟨_, rfl⟩
      have hmin : ∀ wx, (Builtin.min_ #[3, 3] 3 #[.int .i64 (M : Int), .int .i64 256]).run Tryd.prog wx = .ok (.int .i64 (k : Int)) wx := fun wx => by
        rw [min_twoA]
        congr 2
        split <;> omega
      have hsl := fun wx => slice_to aa M cp k (by omega) wx
      have hsf := fun wx => slice_from aa M cp k (by omega) hm1 wx
      obtain ⟨t, hte⟩ : ∃ t, y.take k = t := ⟨_, rfl⟩
      have hte2 : y.take 256 = t := by rw [← hte, ← hk, ← hy.out, take_min]
      have hde2 : y.drop k = y.drop 256 := by rw [← hk, ← hy.out, drop_min]
      have htl : t.length ≤ 256 := by rw [← hte2, List.length_take]; omega
      have hrw := hrd.out wr hw.keep
      have hry : RdB wr (.slice aa y.length cp) y := by rw [hy.out]; exact hrw
      have hcv := conv_rd (hry.take k (by rw [hy.out]; omega))
      rw [hte] at hcv
      have hrd2 : Hid (∀ w', Keep F w w' → RdB w' (.slice (further aa cp k) (M - k) (cp - k)) (y.drop 256)) := fun w' hk' => by
        have h1 : RdB w' (.slice aa y.length cp) y := by rw [hy.out]; exact hrd.out w' hk'
        have h2 := h1.drop k (by rw [hy.out]; omega)
        rw [hy.out, hde2] at h2
        exact h2
      have hy2 : Hid ((y.drop 256).length = M - k) := by
        show _ = _
        rw [List.length_drop, hy.out]
        omega
      have hci2 : Hid ((M - k + 255) / 256 + (i + 1) = C) := by
        show _ = _
        have := hci.out
        omega
      have hst : U = if wrN d' (b + (i : Int)) t = 0 then ups (b + ((i + 1 : Nat) : Int)) (pcs (y.drop 256)) (wrD d' (b + (i : Int)) t) else (wrN d' (b + (i : Int)) t, d') := by
        rw [← HU.out, ← hw.ups, pcs_cons y hyn, hte2, Ae.ups, show b + ((i + 1 : Nat) : Int) = b + (i : Int) + 1 by omega]
      have C1 := Hid.mk' (cW.out wr G d' (b + (i : Int)) t hw.rep (by have := hw.tr; omega) (by omega) htl)
      have HWU := Hid.mk' hw
      have HST := Hid.mk' hst
      have hbi : 0 ≤ b + (i : Int) ∧ b + (i : Int) ≤ 4096 := by omega
      have hMI : (0 : Int) < (M : Int) := by omega
      obtain ⟨a2, ha2⟩ : ∃ a2, further aa cp k = a2 := ⟨_, rfl⟩
      obtain ⟨M2, hM2⟩ : ∃ M2, M - k = M2 := ⟨_, rfl⟩
      obtain ⟨c2, hc2e⟩ : ∃ c2, cp - k = c2 := ⟨_, rfl⟩
      rw [ha2, hM2, hc2e] at hsf
      rw [ha2, hM2, hc2e] at hrd2
      rw [hM2] at hy2 hci2
      have hm3 : M2 ≤ c2 := by omega
      have hm4 : c2 ≤ 9223372036854775807 := by omega
      clear hrr hw hrw hry hte hte2 hde2 hst ha2 hM2 hc2e hk
      generalize tx t = f at *
      by_cases h0 : wrN d' (b + (i : Int)) t = 0
      · rw [h0, show errE 0 = .nilIface from rfl] at C1
        rw [if_pos h0] at HST
        go_wp2_with fail
        refine C1.out.mono ?_
        rintro e w5 ⟨rfl, G', r1, r2, r3⟩
        have HN5 : Hid (∃ G d', Wy Rep w w5 p F G d d' b x (y.drop 256) (i + 1)) := ⟨G', _, r1, keep_goes HWU.out.keep HWU.out.goes r2, goes_trans HWU.out.goes r3 HWU.out.keep.size, HST.out.symm.trans HU.out.symm, (wrD_n _ _ _).trans HWU.out.n, by have := wrD_tr d' (b + (i : Int)) t; have := HWU.out.tr; omega⟩
        clear r1 r2 r3 C1 hcv hsl hmin
        go_wp2
        go_roundw
        case rel => exact ⟨i + 1, M2, c2, a2, y.drop 256, by omega, hm3, hm4, by go_num, rfl, hy2, hci2, hrd2, HN5⟩
        case measure => simp [intOf]; omega
      · rw [if_neg h0] at HST
        obtain ⟨c, hc⟩ : ∃ c : Nat, wrN d' (b + (i : Int)) t = c := ⟨_, rfl⟩
        rw [hc] at C1 HST h0
        obtain ⟨c', rfl⟩ : ∃ c', c = c' + 1 := ⟨c - 1, by omega⟩
        rw [show errE (c' + 1) = noE ((c' + 1 : Nat) : Int) from rfl] at C1
        have hDD : wrD d' (b + (i : Int)) t = d' := by
          unfold wrD
          rw [hc, if_neg h0]
        rw [hDD] at C1
        obtain ⟨z, hz⟩ : ∃ z : Int, ((c' + 1 : Nat) : Int) = z := ⟨_, rfl⟩
        have HZ := Hid.mk' hz
        rw [hz] at C1
        clear hDD hc hz
        go_wp2_with fail
        refine C1.out.mono ?_
        rintro e w5 ⟨rfl, G', r1, r2, r3⟩
        have HL : Hid (LeftP Rep w w5 p F d') := ⟨G', r1, keep_goes HWU.out.keep HWU.out.goes r2, goes_trans HWU.out.goes r3 HWU.out.keep.size⟩
        clear r1 r2 r3 C1 hcv hsl hmin hsf
        go_wp2
        go_ret
        rw [HST.out]
        exact ⟨by rw [← HZ.out]; rfl, HL.out⟩
    · obtain rfl : M = 0 := by omega
      have hy0 : y = [] := List.eq_nil_of_length_eq_zero hy.out
      have hu : U = (0, d') := by
        rw [← HU.out, ← hw.ups, hy0, pcs_nil, Ae.ups]
      have HL : Hid (LeftP Rep w wr p F d') := ⟨G, hw.rep, hw.keep, hw.goes⟩
      have HUU := Hid.mk' hu
      clear hrr hw hu hrd
      go_wp2
      go_ret
      rw [HUU.out]
      exact ⟨rfl, HL.out⟩

/-- What gather answers. -/
def AnsG (A : Option (List UInt8)) (size : Nat) (w : World) (e : Ending) (w' : World) : Prop := ∃ x r, e = .returned (.tuple #[r, .nilIface]) ∧ w'.ownsRow w.heap.size 5 1 r x.length (x.map by1) ∧ Below w.heap.size w w' ∧ (A = some x ∨ A = none ∧ x.length < size)

set_option maxRecDepth 100000 in
set_option maxHeartbeats 4000000 in
theorem gather_p {Rep : World → Nat → (Nat → Prop) → Dsk → Prop} (H : Says Rep) (w : World) (p : Nat) (F : Nat → Prop) (d : Dsk) (b : Int) (size : Nat) (hR : Rep w p F d) (ht : d.tr.length ≤ 1000000000) (hd : d.n ≤ 4096) (hb : 0 ≤ b) (hbs : b * 256 + (size : Int) ≤ d.n * 256) (hsm : Small d) :
    Calls Tryd.prog 63 #[ptr p, nu b, nu (size : Int)] w (AnsG (lie d b size) size w) := by
  have cR : Hid (∀ wx (i : Int), Below w.heap.size w wx → 0 ≤ i ∧ i < d.n → Calls Tryd.prog 61 #[ptr p, nu i] wx fun e w' => e = .returned (.tuple #[.string (tx (rdT d i)), .nilIface]) ∧ Below wx.heap.size wx w') := fun wx i hb hi => by
    have := H.read wx p F d i (H.keep hR (Keep.of_below (F := fun _ => False) hb) (fun _ _ h => h)) ht (by omega)
    rw [show rdN d i = 0 by unfold rdN; rw [if_pos hi]] at this
    exact this
  have HSM := Hid.mk' hsm
  obtain ⟨o, hmk, hmo⟩ := make_b size (by omega) w
  have HMO := Hid.mk' hmo
  have HMB : Hid (Below w.heap.size w (w.alloc o)) := (Below.refl _ _).alloc (Nat.le_refl _) _
  clear hR H hsm hmo
  go_enter Tryd.func63, Tryd.ntmps63
  go_wp2
  go_loopw [1, 8, 9, 10, 11] (fun bv dv _ _ _ wr => ∃ (i : Nat) (m : Nat) (acc : List UInt8), i ≤ size + 1 ∧ m ≤ size ∧ bv = nu (b + (i : Int)) ∧ Hid (m < size → m = 256 * i) ∧ Hid (acc.length = m) ∧ Hid ((lie d (b + (i : Int)) (size - acc.length)).map (acc ++ ·) = lie d b size) ∧ Hid (wr.ownsRow w.heap.size 5 1 dv m (acc.map by1)) ∧ Hid (Below w.heap.size w wr)) (fun bv _ _ _ _ _ => (b + (size : Int) + 2 - intOf bv).toNat)
  case atStart => exact ⟨0, 0, [], by omega, Nat.zero_le _, by simp, fun _ => rfl, rfl, by show _ = _; simp, HMO.out, HMB.out⟩
  case round =>
    obtain ⟨i, m, acc, hi, hms, rfl, hm, hL, hE, hO, hB⟩ := hrel
    by_cases hlt : m < size
    · have hmi := hm.out hlt
      obtain ⟨k, hk⟩ : ∃ k : Nat, min (size - m) 256 = k := ⟨_, rfl⟩
      have hmin : ∀ wx, (Builtin.min_ #[3, 3] 3 #[.int .i64 ((size : Int) - (m : Int)), .int .i64 256]).run Tryd.prog wx = .ok (.int .i64 (k : Int)) wx := fun wx => by
        rw [min_twoA]
        congr 2
        split <;> omega
      have C := Hid.mk' (cR.out wr (b + (i : Int)) hB.out (by omega))
      obtain ⟨s, hse⟩ : ∃ s, rdT d (b + (i : Int)) = s := ⟨_, rfl⟩
      have hsl := HSM.out.read (b + (i : Int))
      rw [hse] at C hsl
      have hts : (tx s).size = s.length := rfl
      obtain ⟨ad, cd, hdv, _⟩ := Nm.own_shape hO.out
      subst hdv
      have hmI : (m : Int) < (size : Int) := by omega
      have hsz : (size : Int) ≤ 1048576 := by omega
      have hbi : 0 ≤ b + (i : Int) ∧ b + (i : Int) ≤ 4096 := by omega
      have hOx : Hid (∀ wx, Below wr.heap.size wr wx → wx.ownsRow w.heap.size 5 1 (.slice ad m cd) m (acc.map by1)) := fun wx hx => (Keep.of_below (F := fun _ => False) hx).own hO.out (fun _ _ h => h)
      by_cases hsh : s.length < k
      · have hno := lie_stop d b size acc i (by rw [hL.out]; exact hlt) (by rw [hse, hL.out, hk]; exact hsh) hE.out
        have HNO := Hid.mk' hno
        have hbyt : Hid (m + s.length ≤ 140737488355328) := by show _ ≤ _; omega
        have hmap : Hid ((acc ++ s).map by1 = acc.map by1 ++ s.map by1) := by show _ = _; rw [List.map_append]
        have hlen : Hid ((acc ++ s).length = m + s.length) := by show _ = _; rw [List.length_append, hL.out]
        have hsm2 : Hid (m + s.length < size) := by show _ < _; omega
        obtain ⟨f, hf⟩ : ∃ f, f = tx s := ⟨_, rfl⟩
        rw [← hf] at C hts
        have HF := Hid.mk' hf
        clear hse hno hE hk hmi hf
        have hshI : (f.size : Int) < (k : Int) := by omega
        go_wp2_with fail
        refine C.out.mono ?_
        rintro e w5 ⟨rfl, hb5⟩
        have HO5 := Hid.mk' (hOx.out w5 hb5)
        have HB5 : Hid (Below w.heap.size w w5) := hB.out.trans (hb5.mono hB.out.size)
        have HSZ := Hid.mk' HB5.out.size
        clear hb5 C
        go_wp2_with (at_builtin; refine wpList_append_text rfl _ _ rfl w.heap.size m _ f _ s rfl rfl HF.out HO5.out hbyt.out HSZ.out ?_; intro v' w4 ho4 hg4 _; rw [← hmap.out] at ho4; have HO4 := Hid.mk' ho4; have HB4 : Hid (Below w.heap.size w w4) := Below.grown HB5.out hg4 HSZ.out (fun j hj => (HO5.out.lt j hj).1); clear ho4 hg4)
        go_ret2
        exact ⟨acc ++ s, _, rfl, by rw [hlen.out]; exact HO4.out, HB4.out, .inr ⟨HNO.out, by rw [hlen.out]; exact hsm2.out⟩⟩
      · have hgo := lie_step d b size acc i (by rw [hL.out]; exact hlt) (by rw [hse, hL.out, hk]; exact hsh) hE.out
        rw [hse, hL.out, hk] at hgo
        have HGO : Hid ((lie d (b + ((i + 1 : Nat) : Int)) (size - (acc ++ s.take k).length)).map ((acc ++ s.take k) ++ ·) = lie d b size) := hgo
        have hct := fun wx => cutA s k (by omega) wx
        have hlen2 : Hid ((acc ++ s.take k).length = m + k) := by
          show _ = _
          rw [List.length_append, List.length_take, hL.out]
          omega
        have htk : (s.take k).length = k := by rw [List.length_take]; omega
        have hmap : Hid ((acc ++ s.take k).map by1 = acc.map by1 ++ (s.take k).map by1) := by show _ = _; rw [List.map_append]
        have hbyt : Hid (m + (s.take k).length ≤ 140737488355328) := by show _ ≤ _; omega
        obtain ⟨f2, hf2⟩ : ∃ f2, f2 = tx (s.take k) := ⟨_, rfl⟩
        rw [← hf2] at hct
        have HF2 := Hid.mk' hf2
        have HTK := Hid.mk' htk
        have hk2 : m + k ≤ size := by omega
        have HK3 : Hid (m + k < size → m + k = 256 * (i + 1)) := fun h => by omega
        have hi2 : i + 1 ≤ size + 1 := by omega
        clear hse hgo hE hk hf2 htk hmi
        generalize tx s = f at *
        have hshI : ¬ (f.size : Int) < (k : Int) := by omega
        go_wp2_with fail
        refine C.out.mono ?_
        rintro e w5 ⟨rfl, hb5⟩
        have HO5 := Hid.mk' (hOx.out w5 hb5)
        have HB5 : Hid (Below w.heap.size w w5) := hB.out.trans (hb5.mono hB.out.size)
        have HSZ := Hid.mk' HB5.out.size
        clear hb5 C
        go_wp2_with (at_builtin; refine wpList_append_text rfl _ _ rfl w.heap.size m _ f2 _ (s.take k) rfl rfl HF2.out HO5.out hbyt.out HSZ.out ?_; intro v' w4 ho4 hg4 _; rw [HTK.out] at ho4; rw [← hmap.out] at ho4; have HO4 := Hid.mk' ho4; have HB4 : Hid (Below w.heap.size w w4) := Below.grown HB5.out hg4 HSZ.out (fun j hj => (HO5.out.lt j hj).1); clear ho4 hg4)
        go_roundw
        case rel => exact ⟨i + 1, m + k, acc ++ s.take k, hi2, hk2, by go_num, HK3, hlen2, HGO, HO4, HB4⟩
        case measure => simp [intOf]; omega
    · have hyes := lie_done d b size acc i (by rw [hL.out]; exact hlt) hE.out
      have HY := Hid.mk' hyes
      obtain ⟨ad, cd, hdv, _⟩ := Nm.own_shape hO.out
      subst hdv
      have hmI : ¬ (m : Int) < (size : Int) := by omega
      clear hyes hE
      go_wp2
      go_ret2
      exact ⟨acc, _, rfl, by rw [hL.out]; exact hO.out, hB.out, .inl HY.out⟩
end Ae
end Go.Proofs.YtlgjnefieflmbaaDoor
/- The program's Save. -/
namespace Go.Proofs.YtlgjnefieflmbaaDoor
set_option linter.ambiguousOpen false
open Go.RowKit
namespace Ae
open Sm Ft Dk Pk
set_option linter.unusedSimpArgs false
set_option linter.unusedVariables false

theorem leftP_below {Rep : World → Nat → (Nat → Prop) → Dsk → Prop} {w a b : World} {p : Nat} {F : Nat → Prop} {d : Dsk} (hb : Below w.heap.size w a) (h : LeftP Rep a b p F d) : LeftP Rep w b p F d := by
  obtain ⟨G, h1, h3, h4⟩ := h
  exact ⟨G, h1, (Keep.of_below hb).trans h3 (fun _ _ h => h), fun k hk => by
    rcases h4 k hk with h5 | h5
    · exact .inl h5
    · exact .inr (Nat.le_trans hb.size h5)⟩

theorem leftP_same {Rep : World → Nat → (Nat → Prop) → Dsk → Prop} (H : Says Rep) {w w' : World} {p : Nat} {F : Nat → Prop} {d : Dsk} (hR : Rep w p F d) (hb : Below w.heap.size w w') : LeftP Rep w w' p F d :=
  ⟨F, H.keep hR (Keep.of_below (F := fun _ => False) hb) (fun _ _ h => h), Keep.of_below hb, Goes.refl _ _⟩

set_option maxRecDepth 100000 in
set_option maxHeartbeats 4000000 in
theorem save_any {Rep : World → Nat → (Nat → Prop) → Dsk → Prop} (H : Says Rep) : SaveC Rep := by
  intro w p F d a n ep v x hR hN ht ha hn hep hv hz
  show Calls _ _ _ _ fun e w' => e = .returned (errE (save d a n ep x).1) ∧ LeftP Rep w w' p F (save d a n ep x).2
  have c1 := Hid.mk' (mayBe_p H w p F d a n hR ⟨hN.n1, hN.n2⟩ ha hn)
  have HH := Hid.mk' H
  have HR := Hid.mk' hR
  have HV := Hid.mk' hv
  have hdn := hN.n2
  obtain ⟨N, hNN⟩ : ∃ N, x.length = N := ⟨_, rfl⟩
  obtain ⟨av, cv, hve, hc1, hc2, _⟩ := hv w (Keep.refl _ _)
  rw [hNN] at hve hc1
  unfold maxLen at hc2
  subst hve
  cases hm : may d a n with
  | false =>
    rw [hm] at c1
    have hA : Hid (save d a n ep x = (1, d)) := by
      show _ = _
      rw [save, if_neg (by rw [hm]; decide)]
    clear hR hv hm H hz hN
    go_enter Tryd.func23, Tryd.ntmps23
    go_wp2_with fail
    refine c1.out.mono ?_
    rintro e w1 ⟨rfl, hb⟩
    have HB := Hid.mk' hb
    clear hb c1
    go_wp2
    go_ret
    rw [hA.out]
    exact ⟨rfl, leftP_same HH.out HR.out HB.out⟩
  | true =>
    rw [hm] at c1
    obtain ⟨m1, m2, m3⟩ := may_out hm
    by_cases hlen : n * 256 < (N : Int)
    · have hA : Hid (save d a n ep x = (3, d)) := by
        show _ = _
        rw [save, if_pos hm, hNN, if_pos hlen]
      clear hR hv hm H hz hN
      go_enter Tryd.func23, Tryd.ntmps23
      go_wp2_with fail
      refine c1.out.mono ?_
      rintro e w1 ⟨rfl, hb⟩
      have HB := Hid.mk' hb
      clear hb c1
      go_wp2
      go_ret
      rw [hA.out]
      exact ⟨rfl, leftP_same HH.out HR.out HB.out⟩
    · have c2 : Hid (∀ wx, Calls Tryd.prog 45 #[nu a, nu n, .int .u32 (ep : Int)] wx fun e w' => e = .returned (nu (fst a n ep)) ∧ Below wx.heap.size wx w') := fun wx => first_p a n ep wx (by omega) (by omega) hep
      obtain ⟨b, hb⟩ : ∃ b : Int, fst a n ep = b := ⟨_, rfl⟩
      have hpf := pcs_fit x n (by rw [hNN]; exact hlen)
      obtain ⟨f1, f2⟩ := fst_in a n ep (pcs x).length m2 hpf
      rw [hb] at c2 f1 f2
      obtain ⟨U, hU⟩ : ∃ U, ups b (pcs x) d = U := ⟨_, rfl⟩
      have hA : Hid (save d a n ep x = if U.1 = 0 then (wrN U.2 a (hdr ep x), wrD U.2 a (hdr ep x)) else U) := by
        show _ = _
        rw [save, if_pos hm, hNN, if_neg hlen, hb, hU]
      have hpl : (pcs x).length ≤ 4096 := by omega
      have hut := (ups_n b (pcs x) d).2
      rw [hU] at hut
      have cL : Hid (∀ wx, Below w.heap.size w wx → Calls Tryd.prog 44 #[ptr p, nu b, .slice av N cv] wx fun e w' => e = .returned (errE U.1) ∧ LeftP Rep w w' p F U.2) := fun wx hx => by
        have := lay_p HH.out wx p F d b _ x (HH.out.keep HR.out (Keep.of_below (F := fun _ => False) hx) (fun _ _ h => h)) ht (by omega) (by omega) (fun w' hk => HV.out w' ((Keep.of_below hx).trans hk (fun _ _ h => h)))
        rw [hU] at this
        refine this.mono ?_
        rintro e w' ⟨rfl, hl⟩
        exact ⟨rfl, leftP_below hx hl⟩
      have cH : Hid (∀ wx, Keep F w wx → Calls Tryd.prog 46 #[.int .u32 (ep : Int), .slice av N cv] wx fun e w' => e = .returned (.string (tx (hdr ep x))) ∧ Below wx.heap.size wx w') := fun wx hk => header_p ep _ x wx (HV.out wx hk) hep (by omega)
      have hhl := hdr_len ep x
      have cW : Hid (∀ wx w4, LeftP Rep w wx p F U.2 → Below wx.heap.size wx w4 → Calls Tryd.prog 11 #[ptr p, nu a, .string (tx (hdr ep x))] w4 fun e w' => e = .returned (errE (wrN U.2 a (hdr ep x))) ∧ LeftP Rep w w' p F (wrD U.2 a (hdr ep x))) := fun wx w4 hl hx => by
        obtain ⟨G, g1, g2, g3⟩ := hl
        refine (HH.out.write w4 p G U.2 a (hdr ep x) (HH.out.keep g1 (Keep.of_below (F := fun _ => False) hx) (fun _ _ h => h)) (by omega) (by omega) (by rw [hhl]; decide)).mono ?_
        rintro e w' ⟨rfl, G', r1, r2, r3⟩
        exact ⟨rfl, G', r1, keep_goes g2 g3 ((Keep.of_below hx).trans r2 (fun _ _ h => h)), goes_trans g3 (fun k hk => by
          rcases r3 k hk with h | h
          · exact .inl h
          · exact .inr (Nat.le_trans hx.size h)) g2.size⟩
      obtain ⟨f, hf⟩ : ∃ f, tx (hdr ep x) = f := ⟨_, rfl⟩
      rw [hf] at cH cW
      clear hR hv hm hb H hz hN hU hut hf hhl
      by_cases h0 : U.1 = 0
      · rw [if_pos h0] at hA
        rw [h0, show errE 0 = .nilIface from rfl] at cL
        go_enter Tryd.func23, Tryd.ntmps23
        go_wp2_with fail
        refine c1.out.mono ?_
        rintro e w1 ⟨rfl, hb1⟩
        have HB1 := Hid.mk' hb1
        clear hb1 c1
        go_wp2_with fail
        refine (c2.out _).mono ?_
        rintro e w2 ⟨rfl, hb2⟩
        have HB2 : Hid (Below w.heap.size w w2) := HB1.out.trans (hb2.mono HB1.out.size)
        clear hb2 c2
        go_wp2_with fail
        refine (cL.out _ HB2.out).mono ?_
        rintro e w3 ⟨rfl, hl⟩
        have HL := Hid.mk' hl
        have C4 := Hid.mk' (cH.out w3 (by obtain ⟨_, _, hk, _⟩ := hl; exact hk))
        clear hl cL cH
        go_wp2_with fail
        refine C4.out.mono ?_
        rintro e w4 ⟨rfl, hb4⟩
        have C5 := Hid.mk' (cW.out w3 w4 HL.out hb4)
        clear hb4 C4 cW
        go_wp2_with fail
        refine C5.out.mono ?_
        rintro e w5 ⟨rfl, hl⟩
        have HL5 := Hid.mk' hl
        clear hl C5
        go_wp2
        go_ret
        rw [hA.out]
        exact ⟨rfl, HL5.out⟩
      · rw [if_neg h0] at hA
        obtain ⟨c', hc'⟩ : ∃ c', U.1 = c' + 1 := ⟨U.1 - 1, by omega⟩
        obtain ⟨z, hz⟩ : ∃ z : Int, ((c' + 1 : Nat) : Int) = z := ⟨_, rfl⟩
        have HZ : Hid (errE U.1 = noE z) := by
          show _ = _
          rw [hc', ← hz]
          rfl
        rw [HZ.out] at cL
        clear hc' hz h0
        go_enter Tryd.func23, Tryd.ntmps23
        go_wp2_with fail
        refine c1.out.mono ?_
        rintro e w1 ⟨rfl, hb1⟩
        have HB1 := Hid.mk' hb1
        clear hb1 c1
        go_wp2_with fail
        refine (c2.out _).mono ?_
        rintro e w2 ⟨rfl, hb2⟩
        have HB2 : Hid (Below w.heap.size w w2) := HB1.out.trans (hb2.mono HB1.out.size)
        clear hb2 c2
        go_wp2_with fail
        refine (cL.out _ HB2.out).mono ?_
        rintro e w3 ⟨rfl, hl⟩
        have HL := Hid.mk' hl
        clear hl cL cH cW
        go_wp2
        go_ret
        rw [hA.out, HZ.out]
        exact ⟨rfl, HL.out⟩
end Ae
end Go.Proofs.YtlgjnefieflmbaaDoor
/- The program's Load; what the laws ask of the program. -/
namespace Go.Proofs.YtlgjnefieflmbaaDoor
set_option linter.ambiguousOpen false
open Go.RowKit
namespace Ae
open Sm Ft Dk Pk
set_option linter.unusedSimpArgs false
set_option linter.unusedVariables false

/-- What Load answers. -/
def AnsQ (A : Nat × Nat × List UInt8) (w : World) (e : Ending) (w' : World) : Prop := ∃ r, e = .returned (.tuple #[.int .u32 (A.2.1 : Int), r, errE A.1]) ∧ w'.ownsRow w.heap.size 5 1 r A.2.2.length (A.2.2.map by1) ∧ Below w.heap.size w w'

theorem ansq_no {A : Nat × Nat × List UInt8} {w : World} {e : Ending} {w' : World} (c : Nat) (hA : A = (c, 0, [])) (he : e = .returned (.tuple #[.int .u32 0, .slice none 0 0, errE c])) (hb : Below w.heap.size w w') : AnsQ A w e w' := by
  subst hA
  exact ⟨_, he, World.ownsRow_nil _ _ _ _, hb⟩

theorem dnA {b : Nat} {w w' : World} (h : Below b w w') (n : Nat) : Below b w (w'.drewN n) := ⟨h.os, h.tape, h.output, h.size, h.block⟩

theorem cutM (l : List UInt8) (j k : Nat) (hj : j ≤ k) (h : k ≤ l.length) (w : World) : (Instr.slice 9 (.string (tx l)) (some (.int .i64 (j : Int))) (some (.int .i64 (k : Int))) none).run Tryd.prog w = .ok (.string (tx ((l.drop j).take (k - j)))) w := by
  have hs : (tx l).size = l.length := rfl
  have e : (tx l).extract j k = tx ((l.drop j).take (k - j)) := by
    apply ByteArray.ext
    apply Array.ext'
    simp [ByteArray.extract, ByteArray.copySlice, tx, List.take_drop, hj]
  simp [Instr.slice, Instr.sliceBounds, Instr.sliceBound, asIntOf, run_underlying Tryd.underlying9]
  rw [hs]
  simp only [h, hj, if_true, and_self]
  rw [e]

theorem num4_cut (s : List UInt8) (k : Nat) : num4 ((s.drop k).take 4) 0 = num4 s k := by
  unfold num4
  rw [List.drop_zero, List.take_take, Nat.min_self]

set_option maxRecDepth 100000 in
set_option maxHeartbeats 4000000 in
theorem load_any {Rep : World → Nat → (Nat → Prop) → Dsk → Prop} (H : Says Rep) : LoadC Rep := by
  intro w p F d a n hR hN ht ha hn
  show Calls _ _ _ _ (AnsQ (load d a n) w)
  have c1 := Hid.mk' (mayBe_p H w p F d a n hR ⟨hN.n1, hN.n2⟩ ha hn)
  have HH := Hid.mk' H
  have HR := Hid.mk' hR
  have HNb := Hid.mk' hN
  have hdn := hN.n2
  cases hm : may d a n with
  | false =>
    rw [hm] at c1
    have hA : Hid (load d a n = (1, 0, [])) := by
      show _ = _
      rw [load, if_neg (by rw [hm]; decide)]
    clear hR hm H hN
    go_enter Tryd.func38, Tryd.ntmps38
    go_wp2_with fail
    refine c1.out.mono ?_
    rintro e w1 ⟨rfl, hb⟩
    have HB := Hid.mk' hb
    clear hb c1
    go_wp2
    go_ret3
    exact ansq_no 1 hA.out rfl HB.out
  | true =>
    rw [hm] at c1
    obtain ⟨m1, m2, m3⟩ := may_out hm
    have c2 : Hid (∀ wx, Below w.heap.size w wx → Calls Tryd.prog 61 #[ptr p, nu a] wx fun e w' => e = .returned (.tuple #[.string (tx (rdT d a)), .nilIface]) ∧ Below wx.heap.size wx w') := fun wx hx => by
      have := HH.out.read wx p F d a (HH.out.keep HR.out (Keep.of_below (F := fun _ => False) hx) (fun _ _ h => h)) ht (by omega)
      rw [show rdN d a = 0 by unfold rdN; rw [if_pos (by omega)]] at this
      exact this
    obtain ⟨s, hs⟩ : ∃ s, rdT d a = s := ⟨_, rfl⟩
    rw [hs] at c2
    have hsl := hN.sm.read a
    rw [hs] at hsl
    have hL : load d a n = if s = [] then (10, 0, []) else if s.length ≠ 16 then (21, 0, []) else if n * 256 < (num4 s 4 : Int) then (21, 0, []) else told (num4 s 0) s (lie d (fst a n (num4 s 0)) (num4 s 4)) := by
      rw [load, if_pos hm, hs]
    have hsz : (tx s).size = s.length := rfl
    by_cases hnil : s = []
    · rw [if_pos hnil] at hL
      have HL := Hid.mk' hL
      rw [hnil] at c2
      clear hR hm hL hs H hN
      go_enter Tryd.func38, Tryd.ntmps38
      go_wp2_with fail
      refine c1.out.mono ?_
      rintro e w1 ⟨rfl, hb⟩
      have HB := Hid.mk' hb
      clear hb c1
      go_wp2_with fail
      refine (c2.out _ HB.out).mono ?_
      rintro e w2 ⟨rfl, hb⟩
      have HB2 : Hid (Below w.heap.size w w2) := HB.out.trans (hb.mono HB.out.size)
      clear hb c2
      go_wp2
      go_ret3
      exact ansq_no 10 HL.out rfl HB2.out
    rw [if_neg hnil] at hL
    have hne0 : (tx s).toList.isEmpty = false := by
      rw [tx_list]
      cases s with
      | nil => exact absurd rfl hnil
      | cons _ _ => rfl
    by_cases h16 : s.length ≠ 16
    · rw [if_pos h16] at hL
      have HL := Hid.mk' hL
      clear hR hm hL hs H hN
      generalize tx s = f at *
      have h16I : ((f.size : Int) == 16) = false := by simp; omega
      go_enter Tryd.func38, Tryd.ntmps38
      go_wp2_with fail
      refine c1.out.mono ?_
      rintro e w1 ⟨rfl, hb⟩
      have HB := Hid.mk' hb
      clear hb c1
      go_wp2_with fail
      refine (c2.out _ HB.out).mono ?_
      rintro e w2 ⟨rfl, hb⟩
      have HB2 : Hid (Below w.heap.size w w2) := HB.out.trans (hb.mono HB.out.size)
      clear hb c2
      go_wp2
      go_ret3
      exact ansq_no 21 HL.out rfl HB2.out
    rw [if_neg h16] at hL
    have h16' : s.length = 16 := by omega
    have k1 := fun wx => cutM s 0 4 (by omega) (by omega) wx
    have k2 := fun wx => cutM s 4 8 (by omega) (by omega) wx
    simp only [Int.cast_ofNat_Int, Nat.reduceSub] at k1 k2
    have c3 : Hid (∀ wx, Calls Tryd.prog 62 #[.string (tx ((s.drop 0).take 4))] wx fun e w' => e = .returned (.int .u32 (num4 s 0 : Int)) ∧ ∃ n, w' = wx.drewN n) := fun wx => by
      rw [← num4_cut s 0]
      exact number_p _ wx (by rw [List.length_take, List.length_drop]; omega)
    have c4 : Hid (∀ wx, Calls Tryd.prog 62 #[.string (tx ((s.drop 4).take 4))] wx fun e w' => e = .returned (.int .u32 (num4 s 4 : Int)) ∧ ∃ n, w' = wx.drewN n) := fun wx => by
      rw [← num4_cut s 4]
      exact number_p _ wx (by rw [List.length_take, List.length_drop]; omega)
    have hE := num4_lt s 0
    have hZ := num4_lt s 4
    obtain ⟨E, hEe⟩ : ∃ E, num4 s 0 = E := ⟨_, rfl⟩
    obtain ⟨Z, hZe⟩ : ∃ Z, num4 s 4 = Z := ⟨_, rfl⟩
    rw [hEe] at c3 hE hL
    rw [hZe] at c4 hZ hL
    have h16B : (((tx s).size : Int) == 16) = true := by rw [hsz, h16']; rfl
    generalize tx ((s.drop 0).take 4) = g1 at *
    generalize tx ((s.drop 4).take 4) = g2 at *
    by_cases hbig : n * 256 < (Z : Int)
    · rw [if_pos hbig] at hL
      have HL := Hid.mk' hL
      clear hR hm hL hs h16 h16' hEe hZe H hN
      generalize tx s = f at *
      go_enter Tryd.func38, Tryd.ntmps38
      go_wp2_with fail
      refine c1.out.mono ?_
      rintro e w1 ⟨rfl, hb⟩
      have HB := Hid.mk' hb
      clear hb c1
      go_wp2_with fail
      refine (c2.out _ HB.out).mono ?_
      rintro e w2 ⟨rfl, hb⟩
      have HB2 : Hid (Below w.heap.size w w2) := HB.out.trans (hb.mono HB.out.size)
      clear hb c2
      go_wp2_with fail
      go_quiet (first | (go_at_call 62; with_reducible exact Calls.quiet_of (c3.out _)) | (go_at_call 62; with_reducible exact Calls.quiet_of (c4.out _)))
      go_wp2
      go_ret3
      exact ansq_no 21 HL.out rfl (dnA HB2.out _)
    rw [if_neg hbig] at hL
    have c5 : Hid (∀ wx, Calls Tryd.prog 45 #[nu a, nu n, .int .u32 (E : Int)] wx fun e w' => e = .returned (nu (fst a n E)) ∧ Below wx.heap.size wx w') := fun wx => first_p a n E wx (by omega) (by omega) hE
    have hfi := fst_in a n E n.toNat m2 (by omega)
    obtain ⟨b, hb⟩ : ∃ b : Int, fst a n E = b := ⟨_, rfl⟩
    rw [hb] at c5 hfi hL
    obtain ⟨f1, f2⟩ := hfi
    have c6 : Hid (∀ wx, Below w.heap.size w wx → Calls Tryd.prog 63 #[ptr p, nu b, nu (Z : Int)] wx (AnsG (lie d b Z) Z wx)) := fun wx hx => gather_p HH.out wx p F d b Z (HH.out.keep HR.out (Keep.of_below (F := fun _ => False) hx) (fun _ _ h => h)) ht hdn (by omega) (by omega) HNb.out.sm
    have hZl : (Z : Int) ≤ 1048576 := by omega
    have c7 : Hid (∀ wx r x, x.length ≤ Z → RdB wx r x → Calls Tryd.prog 46 #[.int .u32 (E : Int), r] wx fun e w' => e = .returned (.string (tx (hdr E x))) ∧ Below wx.heap.size wx w') := fun wx r x h0 h1 => header_p E r x wx h1 hE (by omega)
    -- what is told of the bytes that were gathered
    have hT : Hid (∀ x, (lie d b Z = some x ∨ lie d b Z = none ∧ x.length < Z) → x.length ≤ Z ∧ (hdr E x = s → load d a n = (0, E, x)) ∧ (hdr E x ≠ s → load d a n = (21, 0, []))) := fun x hx => by
      rcases hx with hx | ⟨hx, hl⟩
      · have hxl := lie_len d Z b Z x (Nat.le_refl _) hx
        rw [hx, told] at hL
        exact ⟨by omega, fun e => by rw [hL, if_pos e], fun e => by rw [hL, if_neg e]⟩
      · rw [hx, told] at hL
        refine ⟨by omega, fun e => ?_, fun _ => hL⟩
        have := hdr_size E x (by omega)
        rw [e, hZe] at this
        omega
    have HTX : Hid (∀ y : List UInt8, ((tx s).toList == (tx y).toList) = decide (y = s)) := fun y => by
      rw [tx_list, tx_list]
      by_cases h : y = s
      · subst h
        simp
      · rw [decide_eq_false h]
        simp
        exact fun e => h e.symm
    clear hR hm hL hs h16 h16' hEe hZe H hN hb
    generalize tx s = f at *
    go_enter Tryd.func38, Tryd.ntmps38
    go_wp2_with fail
    refine c1.out.mono ?_
    rintro e w1 ⟨rfl, hb⟩
    have HB := Hid.mk' hb
    clear hb c1
    go_wp2_with fail
    refine (c2.out _ HB.out).mono ?_
    rintro e w2 ⟨rfl, hb⟩
    have HB2 : Hid (Below w.heap.size w w2) := HB.out.trans (hb.mono HB.out.size)
    clear hb c2
    go_wp2_with fail
    go_quiet (first | (go_at_call 62; with_reducible exact Calls.quiet_of (c3.out _)) | (go_at_call 62; with_reducible exact Calls.quiet_of (c4.out _)))
    clear c3 c4 k1 k2
    go_wp2_with fail
    refine (c5.out _).mono ?_
    rintro e w3 ⟨rfl, hb3⟩
    have HB3 : Hid (Below w.heap.size w w3) := (dnA HB2.out _).trans (hb3.mono (dnA HB2.out _).size)
    clear hb3 c5
    go_wp2_with fail
    refine (c6.out w3 HB3.out).mono ?_
    rintro e w4 ⟨x, r, rfl, ho, hb4, hx⟩
    have HB4 : Hid (Below w.heap.size w w4) := HB3.out.trans (hb4.mono HB3.out.size)
    obtain ⟨t0, t1, t2⟩ := hT.out x hx
    have C7 := Hid.mk' (c7.out w4 r x t0 (own_rd ho))
    have HO4 := Hid.mk' (own_mono ho HB3.out.size)
    obtain ⟨ar, kr, rfl, _⟩ := Nm.own_shape ho
    have hcmp := HTX.out (hdr E x)
    clear hb4 hx ho c7 c6 hT t0
    by_cases hq : hdr E x = s
    · have HL := Hid.mk' (t1 hq)
      rw [decide_eq_true hq] at hcmp
      clear t1 t2 hq
      generalize tx (hdr E x) = f2 at *
      go_wp2_with fail
      refine C7.out.mono ?_
      rintro e w5 ⟨rfl, hb5⟩
      have HB5 : Hid (Below w.heap.size w w5) := HB4.out.trans (hb5.mono HB4.out.size)
      have HO5 := Hid.mk' ((Keep.of_below (F := fun _ => False) hb5).own HO4.out (fun _ _ h => h))
      clear hb5 C7
      go_wp2
      go_ret3
      rw [HL.out]
      exact ⟨_, rfl, HO5.out, HB5.out⟩
    · have HL := Hid.mk' (t2 hq)
      rw [decide_eq_false hq] at hcmp
      clear t1 t2 hq
      generalize tx (hdr E x) = f2 at *
      go_wp2_with fail
      refine C7.out.mono ?_
      rintro e w5 ⟨rfl, hb5⟩
      have HB5 : Hid (Below w.heap.size w w5) := HB4.out.trans (hb5.mono HB4.out.size)
      clear hb5 C7
      go_wp2
      go_ret3
      exact ansq_no 21 HL.out rfl HB5.out

theorem save_p : SaveC Pd.Rep := save_any Pd.says

theorem load_p : LoadC Pd.Rep := load_any Pd.says
end Ae
end Go.Proofs.YtlgjnefieflmbaaDoor
