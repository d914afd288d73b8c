/- The program's area: a number's four bytes, an area's first block, whether a place may be, the header. -/
import Derived.Test.YtlgjnefieflmbaaDoorPairA
import Derived.Test.YtlgjnefieflmbaaDoorCounts
import Derived.BigQuiet
namespace Go.Proofs.YtlgjnefieflmbaaDoor
set_option linter.ambiguousOpen false
open Go.RowKit
namespace Ae
open Sm Ft Dk Pk
set_option linter.unusedSimpArgs false
set_option linter.unusedVariables false

set_option maxRecDepth 100000 in
set_option maxHeartbeats 1000000 in
theorem put_p (base n : Nat) (lv : Value) (l : List UInt8) (v : Nat) (w : World) (hO : w.ownsRow base 5 1 lv n (l.map by1)) (hn : n ≤ 1000) (hb : base ≤ w.heap.size) (hv : v < 4294967296) :
    Calls Tryd.prog 70 #[lv, .int .u32 (v : Int)] w fun e w' => ∃ x, e = .returned x ∧ w'.ownsRow base 5 1 x (n + 4) ((l ++ Rc.lo v 4).map by1) ∧ Below base w w' := by
  obtain ⟨i0, ji, hz0, hz1, hz2⟩ := info_parts info_byte
  have hS : Hid ((l ++ Rc.lo v 4).map by1 = l.map by1 ++ [.int .u8 ((v : Int) % 256), .int .u8 ((v : Int) / 256 % 256), .int .u8 ((v : Int) / 65536 % 256), .int .u8 ((v : Int) / 16777216)]) := by
    show _ = _
    rw [List.map_append, lo4I v hv]
  have HO := Hid.mk' hO
  have hone : Hid (∀ x ∈ [Value.int .u8 ((v : Int) % 256), .int .u8 ((v : Int) / 256 % 256), .int .u8 ((v : Int) / 65536 % 256), .int .u8 ((v : Int) / 16777216)], x.oneCell' = true) := by
    intro x hx
    simp at hx
    rcases hx with rfl | rfl | rfl | rfl <;> rfl
  have hmx : Hid (n + 4 ≤ maxLen) := by show _ ≤ _; unfold maxLen; omega
  have hby : Hid ((n + 4) * 1 ≤ 140737488355328) := by show _ ≤ _; omega
  have hlt : Hid (∀ k, lv.ownBlock = some k → base ≤ k) := fun k hk => (hO.lt k hk).1
  clear hO
  go_enter Tryd.func70, Tryd.ntmps70
  go_wp2_with (at_builtin; refine wpList_append_own _ rfl _ _ 33 rfl base 5 i0 (.int .u8 0) 1 1 Tryd.underlying33 ji hz0 hz1 hz2 rfl (by decide) _ _ _ rfl (HO.out.alloc _) ⟨w.heap.size, 0, none⟩ 4 4 [.int .u8 ((v : Int) % 256), .int .u8 ((v : Int) / 256 % 256), .int .u8 ((v : Int) / 65536 % 256), .int .u8 ((v : Int) / 16777216)] rfl rfl (World.news_of_block (heap_alloc_new _ _)) hone.out hmx.out hby.out (by simp; omega) ?_; intro v' w4 hown4 hgrow _; rw [← hS.out] at hown4; have HO4 := Hid.mk' hown4; have HB4 : Hid (Below base w w4) := Below.grown ((Below.refl base w).alloc hb _) hgrow (by simp; omega) hlt.out; clear hown4 hgrow)
  go_ret
  exact ⟨_, rfl, HO4.out, HB4.out⟩

set_option maxRecDepth 100000 in
theorem number_p (s : List UInt8) (w : World) (hk : s.length = 4) :
    Calls Tryd.prog 62 #[.string (tx s)] w fun e w' => e = .returned (.int .u32 (num4 s 0 : Int)) ∧ ∃ n, w' = w.drewN n := by
  have i0 := fun wx => idx_at s 0 (by omega) wx
  have i1 := fun wx => idx_at s 1 (by omega) wx
  have i2 := fun wx => idx_at s 2 (by omega) wx
  have i3 := fun wx => idx_at s 3 (by omega) wx
  have hz : (tx s).size = s.length := rfl
  unfold by1 at i0 i1 i2 i3
  simp only [Int.cast_ofNat_Int] at i0 i1 i2 i3
  generalize tx s = f at *
  obtain ⟨b0, hb0⟩ : ∃ b, (byI s 0).toNat = b := ⟨_, rfl⟩
  obtain ⟨b1, hb1⟩ : ∃ b, (byI s 1).toNat = b := ⟨_, rfl⟩
  obtain ⟨b2, hb2⟩ : ∃ b, (byI s 2).toNat = b := ⟨_, rfl⟩
  obtain ⟨b3, hb3⟩ : ∃ b, (byI s 3).toNat = b := ⟨_, rfl⟩
  rw [hb0] at i0
  rw [hb1] at i1
  rw [hb2] at i2
  rw [hb3] at i3
  have l0 : b0 < 256 := by rw [← hb0]; exact byte_lt _
  have l1 : b1 < 256 := by rw [← hb1]; exact byte_lt _
  have l2 : b2 < 256 := by rw [← hb2]; exact byte_lt _
  have l3 : b3 < 256 := by rw [← hb3]; exact byte_lt _
  have hfin : Hid (bits .or .u32 (bits .or .u32 (bits .or .u32 (b0 : Int) ((b1 : Int) * 256)) ((b2 : Int) * 65536)) ((b3 : Int) * 16777216) = (num4 s 0 : Int)) := by
    show _ = _
    have e1 := or_mul32 b0 b1 8 256 (by decide) l0 (by omega)
    have e2 := or_mul32 (b0 + b1 * 256) b2 16 65536 (by decide) (by omega) (by omega)
    have e3 := or_mul32 (b0 + b1 * 256 + b2 * 65536) b3 24 16777216 (by decide) (by omega) (by omega)
    have e4 := num4_by s 0 (by omega)
    rw [hb0, hb1, hb2, hb3] at e4
    rw [show (256 : Int) = ((256 : Nat) : Int) from rfl, show (65536 : Int) = ((65536 : Nat) : Int) from rfl, show (16777216 : Int) = ((16777216 : Nat) : Int) from rfl, e1, e2, e3, e4]
    congr 1
    omega
  clear hb0 hb1 hb2 hb3 hz hk
  go_enter Tryd.func62, Tryd.ntmps62
  go_wp2_with fail
  go_quiet (fail)
  go_wp2
  go_ret
  exact ⟨ret_u4 hfin.out, _, rfl⟩

set_option maxRecDepth 100000 in
theorem first_p (a n : Int) (ep : Nat) (w : World) (ha : 0 ≤ a ∧ a ≤ 4096) (hn : 1 ≤ n ∧ n ≤ 4096) (hep : ep < 4294967296) :
    Calls Tryd.prog 45 #[nu a, nu n, .int .u32 (ep : Int)] w fun e w' => e = .returned (nu (fst a n ep)) ∧ Below w.heap.size w w' := by
  unfold fst
  obtain ⟨r, hr⟩ : ∃ r : Int, (ep : Int) % 2 = r := ⟨_, rfl⟩
  have hre : ((ep % 2 : Nat) : Int) = r := by omega
  rw [hre]
  have hr01 : r = 0 ∨ r = 1 := by omega
  have htm : (ep : Int).tmod 2 = r := by rw [Int.tmod_eq_emod_of_nonneg (by omega), hr]
  clear hr hre
  rcases hr01 with rfl | rfl
  · go_enter Tryd.func45, Tryd.ntmps45
    go_wp2
    go_ret
    exact ⟨ret_nu (by omega), (Below.refl _ _).alloc (Nat.le_refl _) _⟩
  · go_enter Tryd.func45, Tryd.ntmps45
    go_wp2
    go_ret
    exact ⟨ret_nu (by omega), (Below.refl _ _).alloc (Nat.le_refl _) _⟩

theorem half_le (x n : Int) (hn : 1 ≤ n) : (n ≤ x.tdiv 2) = (2 * n ≤ x) := by
  rcases Int.lt_or_le x 0 with h | h
  · have h1 : x.tdiv 2 ≤ 0 := by
      have e : x.tdiv 2 = -((-x).tdiv 2) := by rw [Int.neg_tdiv, Int.neg_neg]
      have : 0 ≤ (-x).tdiv 2 := Int.tdiv_nonneg (by omega) (by decide)
      omega
    exact propext ⟨fun h => by omega, fun h => by omega⟩
  · rw [Int.tdiv_eq_ediv_of_nonneg h]
    exact propext ⟨fun h => by omega, fun h => by omega⟩

set_option maxRecDepth 100000 in
theorem mayBe_p {Rep : World → Nat → (Nat → Prop) → Dsk → Prop} (H : Says Rep) (w : World) (p : Nat) (F : Nat → Prop) (d : Dsk) (a n : Int) (hR : Rep w p F d) (hd : 1 ≤ d.n ∧ d.n ≤ 4096) (ha : -9223372036854775808 ≤ a ∧ a ≤ 9223372036854775807) (hn : -9223372036854775808 ≤ n ∧ n ≤ 9223372036854775807) :
    Calls Tryd.prog 43 #[ptr p, nu a, nu n] w fun e w' => e = .returned (.bool (may d a n)) ∧ Below w.heap.size w w' := by
  have c1 := Hid.mk' (H.blocks w p F d hR)
  obtain ⟨r, hr⟩ : ∃ r, may d a n = r := ⟨_, rfl⟩
  rw [hr]
  unfold may at hr
  by_cases h1 : 0 ≤ a
  · by_cases h2 : 1 ≤ n
    · obtain ⟨q, hq⟩ : ∃ q, (d.n - 1 - a).tdiv 2 = q := ⟨_, rfl⟩
      have hm : r = decide (n ≤ q) := by
        rw [← hr, ← hq]
        refine decide_eq_decide.2 ?_
        rw [half_le _ _ h2]
        omega
      have hq0 : -9223372036854775808 ≤ q ∧ q ≤ 9223372036854775807 := by
        rcases Int.lt_or_le (d.n - 1 - a) 0 with h | h
        · have e : (d.n - 1 - a).tdiv 2 = -((-(d.n - 1 - a)).tdiv 2) := by rw [Int.neg_tdiv, Int.neg_neg]
          have e2 : (-(d.n - 1 - a)).tdiv 2 = (-(d.n - 1 - a)) / 2 := Int.tdiv_eq_ediv_of_nonneg (by omega)
          omega
        · rw [Int.tdiv_eq_ediv_of_nonneg h] at hq
          omega
      clear hr H hR
      subst hm
      go_enter Tryd.func43, Tryd.ntmps43
      go_wp2_with fail
      refine c1.out.mono ?_
      rintro e w1 ⟨rfl, hb⟩
      have HB := Hid.mk' hb
      clear hb c1
      go_wp2
      go_ret
      exact ⟨rfl, HB.out⟩
    · have hm : r = false := by rw [← hr]; exact decide_eq_false (by omega)
      clear hr H hR c1
      subst hm
      go_enter Tryd.func43, Tryd.ntmps43
      go_wp2
      go_ret
      exact ⟨rfl, Below.refl _ _⟩
  · have hm : r = false := by rw [← hr]; exact decide_eq_false (by omega)
    clear hr H hR c1
    subst hm
    go_enter Tryd.func43, Tryd.ntmps43
    go_wp2
    go_ret
    exact ⟨rfl, Below.refl _ _⟩

theorem make_b (k : Nat) (hk : k ≤ 1048576) (W : World) : ∃ o, (Instr.makeSlice 33 (.int .i64 0) (.int .i64 (k : Int))).run Tryd.prog W = .ok (.slice (some ⟨W.heap.size, 0, none⟩) 0 k) (W.alloc o) ∧ (W.alloc o).ownsRow W.heap.size 5 1 (.slice (some ⟨W.heap.size, 0, none⟩) 0 k) 0 [] := by
  obtain ⟨i0, ji, hz0, hz1, hz2⟩ := info_parts info_byte
  have h := run_make (P := Tryd.prog) W 33 5 i0 _ Tryd.underlying33 ji hz0 .i64 .i64 (0 : Int) (k : Int) (by omega) (by omega) (by rw [hz2]; omega) (by omega)
  rw [hz1, Int.toNat_natCast] at h
  refine ⟨_, h, ?_⟩
  have hl : (madeCells (Value.int .u8 0).cells (k * 1)).toList = List.replicate k (.int .u8 0) := by
    rw [Nat.mul_one]
    exact toList_madeCells_one _ _
  have hs : (madeCells (Value.int .u8 0).cells (k * 1)).size = k := by
    rw [← Array.length_toList, hl, List.length_replicate]
  refine ⟨rfl, .inr ⟨W.heap.size, k, _, rfl, Nat.le_refl _, heap_alloc_new _ _, Nat.zero_le _, by unfold maxLen; omega, ?_, ?_⟩⟩
  · rw [hs, Nat.mul_one]
  · simp

set_option maxRecDepth 100000 in
set_option maxHeartbeats 2000000 in
theorem header_p (ep : Nat) (v : Value) (x : List UInt8) (w : World) (hR : RdB w v x) (hep : ep < 4294967296) (hx : x.length < 4294967296) :
    Calls Tryd.prog 46 #[.int .u32 (ep : Int), v] w fun e w' => e = .returned (.string (tx (hdr ep x))) ∧ Below w.heap.size w w' := by
  have HR := Hid.mk' hR
  obtain ⟨n, hn⟩ : ∃ n, x.length = n := ⟨_, rfl⟩
  obtain ⟨o, hmk, hmo⟩ := make_b 16 (by decide) w
  have hbm : Below w.heap.size w (w.alloc o) := (Below.refl _ _).alloc (Nat.le_refl _) _
  have c1 := Hid.mk' (put_p w.heap.size 0 (.slice (some ⟨w.heap.size, 0, none⟩) 0 16) [] ep (w.alloc o) hmo (by decide) hbm.size hep)
  have HBM := Hid.mk' hbm
  have cF : Hid (∀ (wx : World) (lv : Value) (l : List UInt8) (k y : Nat), wx.ownsRow w.heap.size 5 1 lv k (l.map by1) → k ≤ 1000 → w.heap.size ≤ wx.heap.size → y < 4294967296 → Calls Tryd.prog 70 #[lv, .int .u32 (y : Int)] wx fun e w' => ∃ r, e = .returned r ∧ w'.ownsRow w.heap.size 5 1 r (k + 4) ((l ++ Rc.lo y 4).map by1) ∧ Below w.heap.size wx w') := fun wx lv l k y h1 h2 h3 h4 => put_p w.heap.size k lv l y wx h1 h2 h3 h4
  have cO : Hid (∀ (wx : World) (u : Value) (l : List UInt8), RdB wx u l → Calls Tryd.prog 71 #[u] wx fun e w' => e = .returned (.int .u32 (crc l : Int)) ∧ Below wx.heap.size wx w') := fun wx u l h => of_any u l wx h
  obtain ⟨a, cap, rfl, hc1, hc2, _⟩ := id hR
  rw [hn] at HR hc1 hx ⊢
  have hN := Hid.mk' hn
  unfold maxLen at hc2
  have hwr : IntKind.u32.wrap (n : Int) = (n : Int) := by rw [IntKind.wrap_u32]; omega
  simp only [Int.cast_ofNat_Int] at hmk
  clear hR hn hmo hbm
  go_enter Tryd.func46, Tryd.ntmps46
  go_wp2_with fail
  refine c1.out.mono ?_
  rintro e w1 ⟨r1, rfl, ho1, hb1⟩
  have hb1 := HBM.out.trans hb1
  have HO1 := Hid.mk' ho1
  have HB1 := Hid.mk' hb1
  have C2 := Hid.mk' (cF.out w1 r1 _ 4 n ho1 (by decide) hb1.size hx)
  obtain ⟨a1, k1, rfl, _⟩ := Nm.own_shape ho1
  clear ho1 hb1 c1 hmk HBM
  go_wp2_with fail
  refine C2.out.mono ?_
  rintro e w2 ⟨r2, rfl, ho2, hb2⟩
  have HB2 := Hid.mk' (HB1.out.trans hb2)
  have C3 := Hid.mk' (cO.out w2 _ x (HR.out.below HB2.out))
  have C4 : Hid (∀ wx, Below w2.heap.size w2 wx → _) := fun wx hx => cF.out wx r2 _ 8 (crc x) ((Keep.of_below (F := fun _ => False) hx).own ho2 (fun _ _ h => h)) (by decide) (Nat.le_trans HB2.out.size hx.size) (crc_lt x)
  obtain ⟨a2, k2, rfl, _⟩ := Nm.own_shape ho2
  clear ho2 hb2 C2 HO1 HB1
  go_wp2_with fail
  refine C3.out.mono ?_
  rintro e w2' ⟨rfl, hb⟩
  have C4' := Hid.mk' (C4.out w2' hb)
  have HB2' := Hid.mk' (HB2.out.trans (hb.mono HB2.out.size))
  clear hb C3 C4
  go_wp2_with fail
  refine C4'.out.mono ?_
  rintro e w3 ⟨r3, rfl, ho3, hb3⟩
  have HB3 := Hid.mk' (HB2'.out.trans hb3)
  have hl3 : ((([] ++ Rc.lo ep 4) ++ Rc.lo n 4) ++ Rc.lo (crc x) 4) = hd12 ep x := by
    unfold hd12
    rw [hN.out]
    simp
  rw [hl3] at ho3
  have C5 := Hid.mk' (cO.out w3 r3 (hd12 ep x) (own_rd' ho3 (hd12_len ep x)))
  have C6 : Hid (∀ wx, Below w3.heap.size w3 wx → _) := fun wx hx => cF.out wx r3 _ 12 (crc (hd12 ep x)) ((Keep.of_below (F := fun _ => False) hx).own ho3 (fun _ _ h => h)) (by decide) (Nat.le_trans HB3.out.size hx.size) (crc_lt _)
  obtain ⟨a3, k3, rfl, _⟩ := Nm.own_shape ho3
  clear ho3 hb3 C4' HB2 HB2' hl3
  go_wp2_with fail
  refine C5.out.mono ?_
  rintro e w3' ⟨rfl, hb⟩
  have C6' := Hid.mk' (C6.out w3' hb)
  have HB3' := Hid.mk' (HB3.out.trans (hb.mono HB3.out.size))
  clear hb C5 C6
  go_wp2_with fail
  refine C6'.out.mono ?_
  rintro e w4 ⟨r4, rfl, ho4, hb4⟩
  have HB4 := Hid.mk' (HB3'.out.trans hb4)
  have hcv := conv_rd (own_rd' (l := hdr ep x) ho4 (hdr_len ep x))
  obtain ⟨a4, k4, rfl, _⟩ := Nm.own_shape ho4
  clear ho4 hb4 C6' HB3 HB3'
  obtain ⟨f, hf⟩ : ∃ f, tx (hdr ep x) = f := ⟨_, rfl⟩
  rw [hf] at hcv
  have HF := Hid.mk' hf
  clear hf
  go_wp2
  go_ret
  exact ⟨by rw [HF.out]; rfl, HB4.out⟩
end Ae
end Go.Proofs.YtlgjnefieflmbaaDoor
