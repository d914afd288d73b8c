/- EventKnown. -/
import Derived.Test.YtnllplholfhbdaaDoorEbackK
import Derived.Test.YtnllplholfhbdaaDoorNoF
import Derived.Test.YtnllplholfhbdaaDoorKnwE
namespace Go.Proofs.YtnllplholfhbdaaDoor
set_option linter.ambiguousOpen false
open Go.RowKit
namespace Ev
open Pk Sm Ft
set_option linter.unusedSimpArgs false
set_option linter.unusedVariables false

theorem enc_yes (R : Says) (e : Evt) (l : List UInt8) (h1 : mayE e = true) (h2 : 0 ≤ e.s.scopes ∧ e.s.scopes < 18446744073709551616) (h3 : encE e = l) (wx : World) : Calls Tryd.prog 8 #[.agg e.arr] wx fun x w' => ∃ v, x = .returned (.tuple #[v, .nilIface]) ∧ w'.ownsRow wx.heap.size 5 1 v l.length (l.map by1) ∧ Below wx.heap.size wx w' := back_enc R l e h1 h2 h3 wx

theorem login_enc : encE loginE = [0, 3, 1, 0, 0, 0, 3, 97, 110, 110, 0, 7, 1, 0, 172, 2, 0] := by
  simp [loginE, encE, encS, sv, txt, sev_lt, sev300]

theorem tick_enc : encE ⟨2, ⟨0, 0, 0, 0, 0, [], [], 0, 0, 0, 0, 0⟩, 0, 5⟩ = [2, 5] := by
  simp [encE, sv, sev_lt]

theorem child_may : mayE childE = true := by decide +kernel

theorem login_may : mayE loginE = true := by decide +kernel

set_option maxRecDepth 100000 in
set_option maxHeartbeats 16000000 in
theorem known_yes (R : Says) (w : World) (hg : Er.Handle w) : Calls Tryd.prog 6 #[] w fun e w' => e = .returned (.bool true) ∧ Below w.heap.size w w' := by
  have cLg := Hid.mk' (login_c w)
  rw [login_arr] at cLg
  have cCh : Hid (∀ wx, Calls Tryd.prog 20 #[] wx fun e w' => e = .returned (.agg #[nu 0, nu 31, nu 1048576, nu 31, nu 1048575, nu 2, .string ⟨#[97, 98, 99, 100, 101, 102, 103, 104, 105, 106, 107, 108, 109, 110, 111, 112, 113, 114, 115, 116, 117, 118, 119, 120, 121, 122, 48, 49, 50, 51, 52, 53]⟩, .string ⟨#[97, 98, 99, 100, 101, 102, 103, 104, 105, 106, 107, 108, 109, 110, 111, 112, 113, 114, 115, 116, 117, 118, 119, 120, 121, 122, 48, 49, 50, 51, 52, 53]⟩, .int .u64 18446744073709551615, nu 2, nu 1099511627476, nu 1099511627776, nu 6, nu 0, nu 0]) ∧ Below wx.heap.size wx w') := fun wx => by
    have := child_c wx
    rw [child_arr] at this
    exact this
  have cE1 : Hid (∀ wx, Calls Tryd.prog 8 #[.agg #[nu 0, nu 3, nu 1, nu 0, nu 0, nu 0, .string ⟨#[97, 110, 110]⟩, .string ⟨#[]⟩, .int .u64 7, nu 1, nu 0, nu 300, nu 0, nu 0, nu 0]] wx fun x w' => ∃ v, x = .returned (.tuple #[v, .nilIface]) ∧ w'.ownsRow wx.heap.size 5 1 v 17 ([0, 3, 1, 0, 0, 0, 3, 97, 110, 110, 0, 7, 1, 0, 172, 2, 0].map by1) ∧ Below wx.heap.size wx w') := fun wx => enc_yes R loginE _ login_may (by decide) login_enc wx
  have cE2 : Hid (∀ wx, Calls Tryd.prog 8 #[.agg #[nu 2, nu 0, nu 0, nu 0, nu 0, nu 0, .string ⟨#[]⟩, .string ⟨#[]⟩, .int .u64 0, nu 0, nu 0, nu 0, nu 0, nu 0, nu 5]] wx fun x w' => ∃ v, x = .returned (.tuple #[v, .nilIface]) ∧ w'.ownsRow wx.heap.size 5 1 v 2 ([2, 5].map by1) ∧ Below wx.heap.size wx w') := fun wx => enc_yes R ⟨2, ⟨0, 0, 0, 0, 0, [], [], 0, 0, 0, 0, 0⟩, 0, 5⟩ _ (by decide +kernel) (by decide) tick_enc wx
  obtain ⟨L, hL⟩ : ∃ L, encE childE = L := ⟨_, rfl⟩
  have cE3 : Hid (∀ wx, Calls Tryd.prog 8 #[.agg #[nu 0, nu 31, nu 1048576, nu 31, nu 1048575, nu 2, .string ⟨#[97, 98, 99, 100, 101, 102, 103, 104, 105, 106, 107, 108, 109, 110, 111, 112, 113, 114, 115, 116, 117, 118, 119, 120, 121, 122, 48, 49, 50, 51, 52, 53]⟩, .string ⟨#[97, 98, 99, 100, 101, 102, 103, 104, 105, 106, 107, 108, 109, 110, 111, 112, 113, 114, 115, 116, 117, 118, 119, 120, 121, 122, 48, 49, 50, 51, 52, 53]⟩, .int .u64 18446744073709551615, nu 2, nu 1099511627476, nu 1099511627776, nu 6, nu 0, nu 0]] wx fun x w' => ∃ v, x = .returned (.tuple #[v, .nilIface]) ∧ w'.ownsRow wx.heap.size 5 1 v L.length (L.map by1) ∧ Below wx.heap.size wx w') := fun wx => enc_yes R childE L child_may (by decide) hL wx
  have cD : Hid (∀ wx u, RdB wx u L → Calls Tryd.prog 14 #[u] wx fun x w' => x = .returned (.tuple #[.agg #[nu 0, nu 31, nu 1048576, nu 31, nu 1048575, nu 2, .string ⟨#[97, 98, 99, 100, 101, 102, 103, 104, 105, 106, 107, 108, 109, 110, 111, 112, 113, 114, 115, 116, 117, 118, 119, 120, 121, 122, 48, 49, 50, 51, 52, 53]⟩, .string ⟨#[97, 98, 99, 100, 101, 102, 103, 104, 105, 106, 107, 108, 109, 110, 111, 112, 113, 114, 115, 116, 117, 118, 119, 120, 121, 122, 48, 49, 50, 51, 52, 53]⟩, .int .u64 18446744073709551615, nu 2, nu 1099511627476, nu 1099511627776, nu 6, nu 0, nu 0], .nilIface]) ∧ Below wx.heap.size wx w') := fun wx u h => by
    have := R.decode wx u L h (by rw [← hL]; exact Nat.le_trans (enc_len childE child_may (by decide)) (by decide))
    rw [← hL, dec_enc childE child_may (by decide)] at this
    exact this
  have cW : Hid (∀ wx, Calls Tryd.prog 16 #[] wx fun e w' => e = .returned (.bool true) ∧ Below wx.heap.size wx w') := fun wx => works_yes R wx
  have cS : Hid (∀ wx v1 v2 l, RdB wx v1 l → RdB wx v2 l → Calls Tryd.prog 10 #[v1, v2] wx fun e w' => e = .returned (.bool true) ∧ Below wx.heap.size wx w') := fun wx v1 v2 l h1 h2 => sameB_eq v1 v2 l wx h1 h2
  have cN : Hid (∀ (k : Nat) wx, k < 19 → Er.Handle wx → Calls Tryd.prog 21 #[nu (k : Int)] wx fun e w' => e = .returned (.bool true) ∧ Below wx.heap.size wx w') := fun k wx hk h => no_any R k hk wx h
  have cP : Hid (∀ (n : Nat) wx, n ≤ 24 → Er.Handle wx → Calls Tryd.prog 9 #[errE n, nu (n : Int)] wx fun e w' => e = .returned (.bool true) ∧ Below wx.heap.size wx w') := fun n wx hn h => plainV n hn wx h
  have hns := fun wx => evt_nsame childE wx
  simp only [child_arr] at hns
  have HG := Hid.mk' hg
  clear hL hg
  go_enter Tryd.func6, Tryd.ntmps6
  go_wp2_with fail
  refine cLg.out.mono ?_
  rintro e x1 ⟨rfl, hb1⟩
  have HB1 := Hid.mk' hb1
  clear hb1 cLg
  go_wp2_with fail
  refine (cE1.out _).mono ?_
  rintro e x2 ⟨v2, rfl, ho2, hb2⟩
  have HB2 := Hid.mk' (HB1.out.trans (hb2.mono HB1.out.size))
  have HA2 := Hid.mk' (own_rd (l := [0, 3, 1, 0, 0, 0, 3, 97, 110, 110, 0, 7, 1, 0, 172, 2, 0]) ho2)
  obtain ⟨a2, c2, rfl, _⟩ := Nm.own_shape ho2
  clear hb2 ho2 HB1 cE1
  go_wp2_with fail
  refine (cE2.out _).mono ?_
  rintro e x3 ⟨v3, rfl, ho3, hb3⟩
  have HB3 := Hid.mk' (HB2.out.trans (hb3.mono HB2.out.size))
  have HA3 := Hid.mk' (HA2.out.below hb3)
  have HC3 := Hid.mk' (own_rd (l := [2, 5]) ho3)
  obtain ⟨a3, c3, rfl, _⟩ := Nm.own_shape ho3
  clear hb3 ho3 HB2 HA2 cE2
  go_wp2_with fail
  refine (cCh.out _).mono ?_
  rintro e x4 ⟨rfl, hb4⟩
  have HB4 := Hid.mk' (HB3.out.trans (hb4.mono HB3.out.size))
  have HA4 := Hid.mk' (HA3.out.below hb4)
  have HC4 := Hid.mk' (HC3.out.below hb4)
  clear hb4 HB3 HA3 HC3
  go_wp2_with fail
  refine (cE3.out _).mono ?_
  rintro e x5 ⟨v5, rfl, ho5, hb5⟩
  have HB5 := Hid.mk' (HB4.out.trans (hb5.mono HB4.out.size))
  have HA5 := Hid.mk' (HA4.out.below hb5)
  have HC5 := Hid.mk' (HC4.out.below hb5)
  have HD5 := Hid.mk' (own_rd ho5)
  obtain ⟨a5, c5, rfl, _⟩ := Nm.own_shape ho5
  clear hb5 ho5 HB4 HA4 HC4 cE3
  go_wp2_with fail
  refine (cW.out _).mono ?_
  rintro e x6 ⟨rfl, hb6⟩
  have HB6 : Hid (Below w.heap.size w (x6.alloc (.cells #[.int .u8 0, .int .u8 3, .int .u8 1, .int .u8 0, .int .u8 0, .int .u8 0, .int .u8 3, .int .u8 97, .int .u8 110, .int .u8 110, .int .u8 0, .int .u8 7, .int .u8 1, .int .u8 0, .int .u8 172, .int .u8 2, .int .u8 0] 5))) := (HB5.out.trans (hb6.mono HB5.out.size)).alloc (HB5.out.trans (hb6.mono HB5.out.size)).size _
  have hb6a : Below x5.heap.size x5 (x6.alloc (.cells #[.int .u8 0, .int .u8 3, .int .u8 1, .int .u8 0, .int .u8 0, .int .u8 0, .int .u8 3, .int .u8 97, .int .u8 110, .int .u8 110, .int .u8 0, .int .u8 7, .int .u8 1, .int .u8 0, .int .u8 172, .int .u8 2, .int .u8 0] 5)) := hb6.alloc hb6.size _
  have HC6 := Hid.mk' (HC5.out.below hb6a)
  have HD6 := Hid.mk' (HD5.out.below hb6a)
  have hq1 := HA5.out.below hb6a
  have hq2 : RdB (x6.alloc (.cells #[.int .u8 0, .int .u8 3, .int .u8 1, .int .u8 0, .int .u8 0, .int .u8 0, .int .u8 3, .int .u8 97, .int .u8 110, .int .u8 110, .int .u8 0, .int .u8 7, .int .u8 1, .int .u8 0, .int .u8 172, .int .u8 2, .int .u8 0] 5)) (.slice (some ⟨x6.heap.size, 0, none⟩) 17 17) [0, 3, 1, 0, 0, 0, 3, 97, 110, 110, 0, 7, 1, 0, 172, 2, 0] := rd_new x6 [0, 3, 1, 0, 0, 0, 3, 97, 110, 110, 0, 7, 1, 0, 172, 2, 0] (by decide)
  have C6 := Hid.mk' (cS.out _ _ _ _ hq1 hq2)
  clear hb6 hb6a hq1 hq2 HB5 HA5 HC5 HD5 cW
  go_wp2_with fail
  refine C6.out.mono ?_
  rintro e x7 ⟨rfl, hb7⟩
  have HB7 : Hid (Below w.heap.size w (x7.alloc (.cells #[.int .u8 2, .int .u8 5] 5))) := (HB6.out.trans (hb7.mono HB6.out.size)).alloc (HB6.out.trans (hb7.mono HB6.out.size)).size _
  have hb7a := hb7.alloc hb7.size (.cells #[.int .u8 2, .int .u8 5] 5)
  have HD7 := Hid.mk' (HD6.out.below hb7a)
  have hq1 := HC6.out.below hb7a
  have hq2 : RdB (x7.alloc (.cells #[.int .u8 2, .int .u8 5] 5)) (.slice (some ⟨x7.heap.size, 0, none⟩) 2 2) [2, 5] := rd_new x7 [2, 5] (by decide)
  have C7 := Hid.mk' (cS.out _ _ _ _ hq1 hq2)
  clear hb7 hb7a hq1 hq2 HB6 HC6 HD6 C6 cS
  go_wp2_with fail
  refine C7.out.mono ?_
  rintro e x8 ⟨rfl, hb8⟩
  have HB8 := Hid.mk' (HB7.out.trans (hb8.mono HB7.out.size))
  have C8 := Hid.mk' (cD.out _ _ (HD7.out.below hb8))
  clear hb8 HB7 HD7 C7 cD
  go_wp2_with fail
  refine C8.out.mono ?_
  rintro e x9 ⟨rfl, hb9⟩
  have HB9 : Hid (Below w.heap.size w (x9.alloc (.cells #[nu 0, nu 31, nu 1048576, nu 31, nu 1048575, nu 2, .string ⟨#[97, 98, 99, 100, 101, 102, 103, 104, 105, 106, 107, 108, 109, 110, 111, 112, 113, 114, 115, 116, 117, 118, 119, 120, 121, 122, 48, 49, 50, 51, 52, 53]⟩, .string ⟨#[97, 98, 99, 100, 101, 102, 103, 104, 105, 106, 107, 108, 109, 110, 111, 112, 113, 114, 115, 116, 117, 118, 119, 120, 121, 122, 48, 49, 50, 51, 52, 53]⟩, .int .u64 18446744073709551615, nu 2, nu 1099511627476, nu 1099511627776, nu 6, nu 0, nu 0] 29))) := (HB8.out.trans (hb9.mono HB8.out.size)).alloc (HB8.out.trans (hb9.mono HB8.out.size)).size _
  have hd9 : (x9.alloc (.cells #[nu 0, nu 31, nu 1048576, nu 31, nu 1048575, nu 2, .string ⟨#[97, 98, 99, 100, 101, 102, 103, 104, 105, 106, 107, 108, 109, 110, 111, 112, 113, 114, 115, 116, 117, 118, 119, 120, 121, 122, 48, 49, 50, 51, 52, 53]⟩, .string ⟨#[97, 98, 99, 100, 101, 102, 103, 104, 105, 106, 107, 108, 109, 110, 111, 112, 113, 114, 115, 116, 117, 118, 119, 120, 121, 122, 48, 49, 50, 51, 52, 53]⟩, .int .u64 18446744073709551615, nu 2, nu 1099511627476, nu 1099511627776, nu 6, nu 0, nu 0] 29)).heap[x9.heap.size]? = some (.cells #[nu 0, nu 31, nu 1048576, nu 31, nu 1048575, nu 2, .string ⟨#[97, 98, 99, 100, 101, 102, 103, 104, 105, 106, 107, 108, 109, 110, 111, 112, 113, 114, 115, 116, 117, 118, 119, 120, 121, 122, 48, 49, 50, 51, 52, 53]⟩, .string ⟨#[97, 98, 99, 100, 101, 102, 103, 104, 105, 106, 107, 108, 109, 110, 111, 112, 113, 114, 115, 116, 117, 118, 119, 120, 121, 122, 48, 49, 50, 51, 52, 53]⟩, .int .u64 18446744073709551615, nu 2, nu 1099511627476, nu 1099511627776, nu 6, nu 0, nu 0] 29) := heap_alloc_new _ _
  have HD9 := Hid.mk' hd9
  clear hb9 HB8 C8
  go_upto_region 7 with fail
  generalize hx10 : x9.alloc (.cells #[nu 0, nu 31, nu 1048576, nu 31, nu 1048575, nu 2, .string ⟨#[97, 98, 99, 100, 101, 102, 103, 104, 105, 106, 107, 108, 109, 110, 111, 112, 113, 114, 115, 116, 117, 118, 119, 120, 121, 122, 48, 49, 50, 51, 52, 53]⟩, .string ⟨#[97, 98, 99, 100, 101, 102, 103, 104, 105, 106, 107, 108, 109, 110, 111, 112, 113, 114, 115, 116, 117, 118, 119, 120, 121, 122, 48, 49, 50, 51, 52, 53]⟩, .int .u64 18446744073709551615, nu 2, nu 1099511627476, nu 1099511627776, nu 6, nu 0, nu 0] 29) = x10 at *
  clear hx10
  have m0 := cell_at (j := 0) hd9 rfl
  have m1 := cell_at (j := 1) hd9 rfl
  have m2 := cell_at (j := 2) hd9 rfl
  have m3 := cell_at (j := 3) hd9 rfl
  have m4 := cell_at (j := 4) hd9 rfl
  have m5 := cell_at (j := 5) hd9 rfl
  have m6 := cell_at (j := 6) hd9 rfl
  have m7 := cell_at (j := 7) hd9 rfl
  have m8 := cell_at (j := 8) hd9 rfl
  have m9 := cell_at (j := 9) hd9 rfl
  have m10 := cell_at (j := 10) hd9 rfl
  have m11 := cell_at (j := 11) hd9 rfl
  have m12 := cell_at (j := 12) hd9 rfl
  have m13 := cell_at (j := 13) hd9 rfl
  have m14 := cell_at (j := 14) hd9 rfl
  clear hd9
  have CC : Hid (Calls Tryd.prog 20 #[] x10.drew fun e w' => e = .returned (.agg #[nu 0, nu 31, nu 1048576, nu 31, nu 1048575, nu 2, .string ⟨#[97, 98, 99, 100, 101, 102, 103, 104, 105, 106, 107, 108, 109, 110, 111, 112, 113, 114, 115, 116, 117, 118, 119, 120, 121, 122, 48, 49, 50, 51, 52, 53]⟩, .string ⟨#[97, 98, 99, 100, 101, 102, 103, 104, 105, 106, 107, 108, 109, 110, 111, 112, 113, 114, 115, 116, 117, 118, 119, 120, 121, 122, 48, 49, 50, 51, 52, 53]⟩, .int .u64 18446744073709551615, nu 2, nu 1099511627476, nu 1099511627776, nu 6, nu 0, nu 0]) ∧ (w'.cell? ⟨x9.heap.size, 0, none⟩ = some (nu 0) ∧ w'.cell? ⟨x9.heap.size, 1, none⟩ = some (nu 31) ∧ w'.cell? ⟨x9.heap.size, 2, none⟩ = some (nu 1048576) ∧ w'.cell? ⟨x9.heap.size, 3, none⟩ = some (nu 31) ∧ w'.cell? ⟨x9.heap.size, 4, none⟩ = some (nu 1048575) ∧ w'.cell? ⟨x9.heap.size, 5, none⟩ = some (nu 2) ∧ w'.cell? ⟨x9.heap.size, 6, none⟩ = some (.string ⟨#[97, 98, 99, 100, 101, 102, 103, 104, 105, 106, 107, 108, 109, 110, 111, 112, 113, 114, 115, 116, 117, 118, 119, 120, 121, 122, 48, 49, 50, 51, 52, 53]⟩) ∧ w'.cell? ⟨x9.heap.size, 7, none⟩ = some (.string ⟨#[97, 98, 99, 100, 101, 102, 103, 104, 105, 106, 107, 108, 109, 110, 111, 112, 113, 114, 115, 116, 117, 118, 119, 120, 121, 122, 48, 49, 50, 51, 52, 53]⟩) ∧ w'.cell? ⟨x9.heap.size, 8, none⟩ = some (.int .u64 18446744073709551615) ∧ w'.cell? ⟨x9.heap.size, 9, none⟩ = some (nu 2) ∧ w'.cell? ⟨x9.heap.size, 10, none⟩ = some (nu 1099511627476) ∧ w'.cell? ⟨x9.heap.size, 11, none⟩ = some (nu 1099511627776) ∧ w'.cell? ⟨x9.heap.size, 12, none⟩ = some (nu 6) ∧ w'.cell? ⟨x9.heap.size, 13, none⟩ = some (nu 0) ∧ w'.cell? ⟨x9.heap.size, 14, none⟩ = some (nu 0)) ∧ Below w.heap.size w w') := by
    refine (cCh.out _).mono ?_
    rintro e w' ⟨rfl, hb⟩
    have hB := hb.block _ (Array.getElem?_eq_some_iff.1 (show x10.drew.heap[x9.heap.size]? = _ from HD9.out)).1
    have hD := hB.trans HD9.out
    exact ⟨rfl, ⟨cell_at (j := 0) hD rfl, cell_at (j := 1) hD rfl, cell_at (j := 2) hD rfl, cell_at (j := 3) hD rfl, cell_at (j := 4) hD rfl, cell_at (j := 5) hD rfl, cell_at (j := 6) hD rfl, cell_at (j := 7) hD rfl, cell_at (j := 8) hD rfl, cell_at (j := 9) hD rfl, cell_at (j := 10) hD rfl, cell_at (j := 11) hD rfl, cell_at (j := 12) hD rfl, cell_at (j := 13) hD rfl, cell_at (j := 14) hD rfl⟩, HB9.out.drew.trans (hb.mono HB9.out.size)⟩
  go_cut [70] from 64 (fun r wr => r = .bool false ∧ Hid (Below w.heap.size w wr))
  case first =>
    clear cN cP
    go_wp2_with fail
    go_region_held3 (fun w' => w'.cell? ⟨x9.heap.size, 0, none⟩ = some (nu 0) ∧ w'.cell? ⟨x9.heap.size, 1, none⟩ = some (nu 31) ∧ w'.cell? ⟨x9.heap.size, 2, none⟩ = some (nu 1048576) ∧ w'.cell? ⟨x9.heap.size, 3, none⟩ = some (nu 31) ∧ w'.cell? ⟨x9.heap.size, 4, none⟩ = some (nu 1048575) ∧ w'.cell? ⟨x9.heap.size, 5, none⟩ = some (nu 2) ∧ w'.cell? ⟨x9.heap.size, 6, none⟩ = some (.string ⟨#[97, 98, 99, 100, 101, 102, 103, 104, 105, 106, 107, 108, 109, 110, 111, 112, 113, 114, 115, 116, 117, 118, 119, 120, 121, 122, 48, 49, 50, 51, 52, 53]⟩) ∧ w'.cell? ⟨x9.heap.size, 7, none⟩ = some (.string ⟨#[97, 98, 99, 100, 101, 102, 103, 104, 105, 106, 107, 108, 109, 110, 111, 112, 113, 114, 115, 116, 117, 118, 119, 120, 121, 122, 48, 49, 50, 51, 52, 53]⟩) ∧ w'.cell? ⟨x9.heap.size, 8, none⟩ = some (.int .u64 18446744073709551615) ∧ w'.cell? ⟨x9.heap.size, 9, none⟩ = some (nu 2) ∧ w'.cell? ⟨x9.heap.size, 10, none⟩ = some (nu 1099511627476) ∧ w'.cell? ⟨x9.heap.size, 11, none⟩ = some (nu 1099511627776) ∧ w'.cell? ⟨x9.heap.size, 12, none⟩ = some (nu 6) ∧ w'.cell? ⟨x9.heap.size, 13, none⟩ = some (nu 0) ∧ w'.cell? ⟨x9.heap.size, 14, none⟩ = some (nu 0)) (first | assumption | exact ⟨m0, m1, m2, m3, m4, m5, m6, m7, m8, m9, m10, m11, m12, m13, m14⟩ | go_keep) (first | (go_at_call 20; refine CC.out.mono ?_; rintro e x11 ⟨rfl, ⟨s0, s1, s2, s3, s4, s5, s6, s7, s8, s9, s10, s11, s12, s13, s14⟩, q3⟩) | fail)
    all_goals (go_wp2_with fail; go_meet; exact ⟨rfl, q3⟩)
  case rest =>
    obtain ⟨rfl, hb10⟩ := hcut
    clear m0 m1 m2 m3 m4 m5 m6 m7 m8 m9 m10 m11 m12 m13 m14 HB9 HD9 CC cCh hns
    go_wp2
    go_loopw [8] (fun iv wr => ∃ k : Nat, k ≤ 19 ∧ iv = nu k ∧ Hid (Below w.heap.size w wr)) (fun iv _ => 19 - (intOf iv).toNat)
    case atStart => exact ⟨0, by omega, rfl, hb10⟩
    case round =>
    obtain ⟨k, hk, rfl, hB⟩ := hrel
    by_cases hk19 : k < 19
    · have hk' : (k : Int) < 19 := by omega
      have C := Hid.mk' (cN.out k wr hk19 (HG.out.below hB.out))
      go_wp2_with fail
      refine C.out.mono ?_
      rintro e y1 ⟨rfl, hb⟩
      have hB2 := Hid.mk' (hB.out.trans (hb.mono hB.out.size))
      clear hb C
      go_wp2
      go_roundw
      case rel => exact ⟨k + 1, by omega, by go_num, hB2⟩
      case measure => simp [intOf]; omega
    obtain rfl : k = 19 := by omega
    simp only [Int.cast_ofNat_Int]
    clear hk hk19 hb10 cN
    rename World => w20
    have hL0 : Hid (BadsAt (w20.alloc (.cells #[nu 2, nu 0, nu 0, nu 0, nu 0, nu 0, .string ⟨#[]⟩, .string ⟨#[]⟩, .int .u64 0, nu 0, nu 0, nu 0, nu 0, nu 0, nu 0, nu 1, nu 0, nu 0, nu 0, nu 0, nu 0, .string ⟨#[]⟩, .string ⟨#[]⟩, .int .u64 0, nu 0, nu 0, nu 0, nu 0, nu 1, nu 1, nu 3, nu 0, nu 0, nu 0, nu 0, nu 0, .string ⟨#[]⟩, .string ⟨#[]⟩, .int .u64 0, nu 0, nu 0, nu 0, nu 0, nu 0, nu 0, nu (-1), nu 0, nu 0, nu 0, nu 0, nu 0, .string ⟨#[]⟩, .string ⟨#[]⟩, .int .u64 0, nu 0, nu 0, nu 0, nu 0, nu 0, nu 0, nu 2, nu 0, nu 0, nu 0, nu 0, nu 0, .string ⟨#[]⟩, .string ⟨#[]⟩, .int .u64 0, nu 0, nu 0, nu 0, nu 0, nu 0, nu 1073741825, nu 1, nu 0, nu 0, nu 0, nu 0, nu 0, .string ⟨#[]⟩, .string ⟨#[]⟩, .int .u64 0, nu 0, nu 0, nu 0, nu 0, nu 1048577, nu 0, nu 1, nu 0, nu 0, nu 0, nu 0, nu 0, .string ⟨#[]⟩, .string ⟨#[]⟩, .int .u64 0, nu 0, nu 0, nu 0, nu 0, nu 0, nu 0, nu 2, nu 0, nu 0, nu 0, nu 0, nu 0, .string ⟨#[]⟩, .string ⟨#[]⟩, .int .u64 0, nu 0, nu 0, nu 0, nu 1, nu 0, nu 1, nu 0, nu 3, nu 1, nu 0, nu 0, nu 0, .string ⟨#[97, 110, 110]⟩, .string ⟨#[116, 118]⟩, .int .u64 0, nu 0, nu 0, nu 300, nu 0, nu 0, nu 0, nu 0, nu 3, nu 1, nu 1, nu 0, nu 0, .string ⟨#[97, 110, 110]⟩, .string ⟨#[]⟩, .int .u64 0, nu 0, nu 0, nu 300, nu 0, nu 0, nu 0] 29)) w20.heap.size) := bads_start w20
    have hB0 : Hid (Below w.heap.size w (w20.alloc (.cells #[nu 2, nu 0, nu 0, nu 0, nu 0, nu 0, .string ⟨#[]⟩, .string ⟨#[]⟩, .int .u64 0, nu 0, nu 0, nu 0, nu 0, nu 0, nu 0, nu 1, nu 0, nu 0, nu 0, nu 0, nu 0, .string ⟨#[]⟩, .string ⟨#[]⟩, .int .u64 0, nu 0, nu 0, nu 0, nu 0, nu 1, nu 1, nu 3, nu 0, nu 0, nu 0, nu 0, nu 0, .string ⟨#[]⟩, .string ⟨#[]⟩, .int .u64 0, nu 0, nu 0, nu 0, nu 0, nu 0, nu 0, nu (-1), nu 0, nu 0, nu 0, nu 0, nu 0, .string ⟨#[]⟩, .string ⟨#[]⟩, .int .u64 0, nu 0, nu 0, nu 0, nu 0, nu 0, nu 0, nu 2, nu 0, nu 0, nu 0, nu 0, nu 0, .string ⟨#[]⟩, .string ⟨#[]⟩, .int .u64 0, nu 0, nu 0, nu 0, nu 0, nu 0, nu 1073741825, nu 1, nu 0, nu 0, nu 0, nu 0, nu 0, .string ⟨#[]⟩, .string ⟨#[]⟩, .int .u64 0, nu 0, nu 0, nu 0, nu 0, nu 1048577, nu 0, nu 1, nu 0, nu 0, nu 0, nu 0, nu 0, .string ⟨#[]⟩, .string ⟨#[]⟩, .int .u64 0, nu 0, nu 0, nu 0, nu 0, nu 0, nu 0, nu 2, nu 0, nu 0, nu 0, nu 0, nu 0, .string ⟨#[]⟩, .string ⟨#[]⟩, .int .u64 0, nu 0, nu 0, nu 0, nu 1, nu 0, nu 1, nu 0, nu 3, nu 1, nu 0, nu 0, nu 0, .string ⟨#[97, 110, 110]⟩, .string ⟨#[116, 118]⟩, .int .u64 0, nu 0, nu 0, nu 300, nu 0, nu 0, nu 0, nu 0, nu 3, nu 1, nu 1, nu 0, nu 0, .string ⟨#[97, 110, 110]⟩, .string ⟨#[]⟩, .int .u64 0, nu 0, nu 0, nu 300, nu 0, nu 0, nu 0] 29))) := hB.out.alloc hB.out.size _
    have cB : Hid (∀ wx e, e ∈ bads → Calls Tryd.prog 8 #[.agg e.arr] wx fun x w' => ∃ a cap, x = .returned (.tuple #[.slice a 0 cap, noE 1]) ∧ Below wx.heap.size wx w') := fun wx e he => enc_no R e (bads_no e he).1 (bads_no e he).2.1 (bads_no e he).2.2 wx
    have cP1 : Hid (∀ wx, Er.Handle wx → Calls Tryd.prog 9 #[noE 1, nu 1] wx fun e w' => e = .returned (.bool true) ∧ Below wx.heap.size wx w') := fun wx h => plainV 1 (by decide) wx h
    clear hB
    go_wp2
    go_loopw [10] (fun iv wr => ∃ k : Nat, k ≤ 10 ∧ iv = nu k ∧ Hid (BadsAt wr w20.heap.size) ∧ Hid (Below w.heap.size w wr)) (fun iv _ => 10 - (intOf iv).toNat)
    case atStart => exact ⟨0, by omega, rfl, hL0, hB0⟩
    case round =>
    clear hL0 hB0
    obtain ⟨k, hk, rfl, hL, hB⟩ := hrel
    by_cases hk10 : k < 10
    · obtain ⟨e0, he0⟩ : ∃ e, bads[k]? = some e := ⟨bads[k]'(by show k < 10; exact hk10), List.getElem?_eq_getElem _⟩
      have C := Hid.mk' (cB.out wr e0 (List.mem_of_getElem? he0))
      have hL' := hL.out
      have hkI : (k : Int) < 10 := by omega
      have hk0 : (0 : Int) ≤ (k : Int) := by omega
      obtain ⟨ek, ⟨slot, birth, us, ub, kind, user, label, scopes, level, born, deadline, depth⟩, eb, et⟩ := e0
      have f0 : wr.cell? ⟨w20.heap.size, k * 15 + 0, none⟩ = some (nu ek) := hL'.cell k _ he0 0 _ rfl
      have f1 : wr.cell? ⟨w20.heap.size, k * 15 + 1, none⟩ = some (nu slot) := hL'.cell k _ he0 1 _ rfl
      have f2 : wr.cell? ⟨w20.heap.size, k * 15 + 2, none⟩ = some (nu birth) := hL'.cell k _ he0 2 _ rfl
      have f3 : wr.cell? ⟨w20.heap.size, k * 15 + 3, none⟩ = some (nu us) := hL'.cell k _ he0 3 _ rfl
      have f4 : wr.cell? ⟨w20.heap.size, k * 15 + 4, none⟩ = some (nu ub) := hL'.cell k _ he0 4 _ rfl
      have f5 : wr.cell? ⟨w20.heap.size, k * 15 + 5, none⟩ = some (nu kind) := hL'.cell k _ he0 5 _ rfl
      have f6 : wr.cell? ⟨w20.heap.size, k * 15 + 6, none⟩ = some (.string (tx user)) := hL'.cell k _ he0 6 _ rfl
      have f7 : wr.cell? ⟨w20.heap.size, k * 15 + 7, none⟩ = some (.string (tx label)) := hL'.cell k _ he0 7 _ rfl
      have f8 : wr.cell? ⟨w20.heap.size, k * 15 + 8, none⟩ = some (.int .u64 scopes) := hL'.cell k _ he0 8 _ rfl
      have f9 : wr.cell? ⟨w20.heap.size, k * 15 + 9, none⟩ = some (nu level) := hL'.cell k _ he0 9 _ rfl
      have f10 : wr.cell? ⟨w20.heap.size, k * 15 + 10, none⟩ = some (nu born) := hL'.cell k _ he0 10 _ rfl
      have f11 : wr.cell? ⟨w20.heap.size, k * 15 + 11, none⟩ = some (nu deadline) := hL'.cell k _ he0 11 _ rfl
      have f12 : wr.cell? ⟨w20.heap.size, k * 15 + 12, none⟩ = some (nu depth) := hL'.cell k _ he0 12 _ rfl
      have f13 : wr.cell? ⟨w20.heap.size, k * 15 + 13, none⟩ = some (nu eb) := hL'.cell k _ he0 13 _ rfl
      have f14 : wr.cell? ⟨w20.heap.size, k * 15 + 14, none⟩ = some (nu et) := hL'.cell k _ he0 14 _ rfl
      rw [Nat.add_zero] at f0
      unfold Evt.arr at C
      obtain ⟨fu, hfu⟩ : ∃ f, tx user = f := ⟨_, rfl⟩
      obtain ⟨fl, hfl⟩ : ∃ f, tx label = f := ⟨_, rfl⟩
      rw [hfu, hfl] at C
      rw [hfu] at f6
      rw [hfl] at f7
      clear hfu hfl he0 hL'
      go_wp2_with fail
      refine C.out.mono ?_
      rintro e y1 ⟨a, cap, rfl, hb⟩
      have hL1 := Hid.mk' (hL.out.below hb)
      have hB1 := Hid.mk' (hB.out.trans (hb.mono hB.out.size))
      have hG1 := Hid.mk' (HG.out.below hB1.out)
      clear hb f0 f1 f2 f3 f4 f5 f6 f7 f8 f9 f10 f11 f12 f13 f14 C
      go_wp2_with fail
      refine (cP1.out _ hG1.out).mono ?_
      rintro e y2 ⟨rfl, hb⟩
      have hL2 := Hid.mk' (hL1.out.below hb)
      have hB2 := Hid.mk' (hB1.out.trans (hb.mono hB1.out.size))
      clear hb
      go_wp2
      go_roundw
      case rel => exact ⟨k + 1, by omega, by go_num, hL2, hB2⟩
      case measure => simp [intOf]; omega
    obtain rfl : k = 10 := by omega
    simp only [Int.cast_ofNat_Int]
    clear hk hk10 hL cB cP1
    rename World => w30
    have hR0 : Hid (RowsAt (((((((((((w30.alloc (.cells #[.int .u8 3] 5)).alloc (.cells #[.int .u8 3, .int .u8 0] 5)).alloc (.cells #[.int .u8 1] 5)).alloc (.cells #[.int .u8 1, .int .u8 0] 5)).alloc (.cells #[.int .u8 1, .int .u8 1, .int .u8 0] 5)).alloc (.cells #[.int .u8 2, .int .u8 128, .int .u8 0] 5)).alloc (.cells #[.int .u8 0, .int .u8 3, .int .u8 1, .int .u8 0, .int .u8 0, .int .u8 0, .int .u8 33] 5)).alloc (.cells #[.int .u8 1, .int .u8 255, .int .u8 255, .int .u8 255, .int .u8 255, .int .u8 255, .int .u8 255, .int .u8 255, .int .u8 255, .int .u8 255, .int .u8 1] 5)).alloc (.cells #[.int .u8 255, .int .u8 255, .int .u8 255, .int .u8 255, .int .u8 255, .int .u8 255, .int .u8 255, .int .u8 255, .int .u8 255, .int .u8 1] 5)).alloc (.cells #[.slice none 0 0, .slice (some ⟨w30.heap.size, 0, none⟩) 1 1, .slice (some ⟨w30.heap.size + 1, 0, none⟩) 2 2, .slice (some ⟨w30.heap.size + 2, 0, none⟩) 1 1, .slice (some ⟨w30.heap.size + 3, 0, none⟩) 2 2, .slice (some ⟨w30.heap.size + 4, 0, none⟩) 3 3, .slice (some ⟨w30.heap.size + 5, 0, none⟩) 3 3, .slice (some ⟨w30.heap.size + 6, 0, none⟩) 7 7, .slice (some ⟨w30.heap.size + 7, 0, none⟩) 11 11, .slice (some ⟨w30.heap.size + 8, 0, none⟩) 10 10] 30)).alloc (.cells #[nu 2, nu 1, nu 1, nu 2, nu 1, nu 3, nu 4, nu 3, nu 1, nu 1] 3)) (w30.heap.size + 9) (w30.heap.size + 10)) := rows_start w30
    have hB0 : Hid (Below w.heap.size w (((((((((((w30.alloc (.cells #[.int .u8 3] 5)).alloc (.cells #[.int .u8 3, .int .u8 0] 5)).alloc (.cells #[.int .u8 1] 5)).alloc (.cells #[.int .u8 1, .int .u8 0] 5)).alloc (.cells #[.int .u8 1, .int .u8 1, .int .u8 0] 5)).alloc (.cells #[.int .u8 2, .int .u8 128, .int .u8 0] 5)).alloc (.cells #[.int .u8 0, .int .u8 3, .int .u8 1, .int .u8 0, .int .u8 0, .int .u8 0, .int .u8 33] 5)).alloc (.cells #[.int .u8 1, .int .u8 255, .int .u8 255, .int .u8 255, .int .u8 255, .int .u8 255, .int .u8 255, .int .u8 255, .int .u8 255, .int .u8 255, .int .u8 1] 5)).alloc (.cells #[.int .u8 255, .int .u8 255, .int .u8 255, .int .u8 255, .int .u8 255, .int .u8 255, .int .u8 255, .int .u8 255, .int .u8 255, .int .u8 1] 5)).alloc (.cells #[.slice none 0 0, .slice (some ⟨w30.heap.size, 0, none⟩) 1 1, .slice (some ⟨w30.heap.size + 1, 0, none⟩) 2 2, .slice (some ⟨w30.heap.size + 2, 0, none⟩) 1 1, .slice (some ⟨w30.heap.size + 3, 0, none⟩) 2 2, .slice (some ⟨w30.heap.size + 4, 0, none⟩) 3 3, .slice (some ⟨w30.heap.size + 5, 0, none⟩) 3 3, .slice (some ⟨w30.heap.size + 6, 0, none⟩) 7 7, .slice (some ⟨w30.heap.size + 7, 0, none⟩) 11 11, .slice (some ⟨w30.heap.size + 8, 0, none⟩) 10 10] 30)).alloc (.cells #[nu 2, nu 1, nu 1, nu 2, nu 1, nu 3, nu 4, nu 3, nu 1, nu 1] 3))) := hB.out.trans (all_below w30 |>.mono hB.out.size)
    have cD : Hid (∀ (wx : World) (v : Value) (k : Nat) (l : List UInt8) (n : Nat), rowsK[k]? = some l → nosK[k]? = some n → RdB wx v l → Calls Tryd.prog 14 #[v] wx fun x w' => x = .returned (.tuple #[.agg #[nu 0, nu 0, nu 0, nu 0, nu 0, nu 0, .string ⟨#[]⟩, .string ⟨#[]⟩, .int .u64 0, nu 0, nu 0, nu 0, nu 0, nu 0, nu 0], errE n]) ∧ Below wx.heap.size wx w') := fun wx v k l n hl hn h => by
      have hd := rows_dec k l n hl hn
      have := R.decode wx v l h hd.2.1
      rw [hd.1] at this
      exact this
    clear hB
    go_wp2
    go_loopw [15] (fun iv wr => ∃ k : Nat, k ≤ 10 ∧ iv = nu k ∧ Hid (RowsAt wr (w30.heap.size + 9) (w30.heap.size + 10)) ∧ Hid (Below w.heap.size w wr)) (fun iv _ => 10 - (intOf iv).toNat)
    case atStart => exact ⟨0, by omega, rfl, hR0, hB0⟩
    case round =>
    clear hR0 hB0
    obtain ⟨k, hk, rfl, hR, hB⟩ := hrel
    by_cases hk10 : k < 10
    · obtain ⟨l, hl⟩ : ∃ l, rowsK[k]? = some l := ⟨rowsK[k]'(by show k < 10; exact hk10), List.getElem?_eq_getElem _⟩
      obtain ⟨n, hn⟩ : ∃ n, nosK[k]? = some n := ⟨nosK[k]'(by show k < 10; exact hk10), List.getElem?_eq_getElem _⟩
      obtain ⟨v, hv, hrd⟩ := hR.out.row k l hl
      have C := Hid.mk' (cD.out wr v k l n hl hn hrd)
      have cPn := Hid.mk' (fun wx h => cP.out n wx (rows_dec k l n hl hn).2.2 h)
      have HN := Hid.mk' hn
      have hkI : (k : Int) < 10 := by omega
      have hk0 : (0 : Int) ≤ (k : Int) := by omega
      obtain ⟨a, cap, rfl, hrest⟩ := hrd
      obtain ⟨E, hE⟩ : ∃ E, errE n = E := ⟨_, rfl⟩
      obtain ⟨ni, hni⟩ : ∃ z : Int, (n : Int) = z := ⟨_, rfl⟩
      obtain ⟨ll, hll⟩ : ∃ z : Nat, l.length = z := ⟨_, rfl⟩
      rw [hll] at hv C
      rw [hE] at C cPn
      rw [hni] at cPn
      have HNI := Hid.mk' hni
      clear hE hni hrest hl hn hll
      go_wp2_with fail
      refine C.out.mono ?_
      rintro e y1 ⟨rfl, hb⟩
      have hb' : Below wr.heap.size wr (y1.alloc (.cells #[nu 0, nu 0, nu 0, nu 0, nu 0, nu 0, .string ⟨#[]⟩, .string ⟨#[]⟩, .int .u64 0, nu 0, nu 0, nu 0, nu 0, nu 0, nu 0] 29)) := hb.alloc hb.size _
      have hR1 := Hid.mk' (hR.out.below hb')
      have hB1 := Hid.mk' (hB.out.trans (hb'.mono hB.out.size))
      have hG1 := Hid.mk' (HG.out.below hB1.out)
      have hc := hR1.out.no k n HN.out
      rw [HNI.out] at hc
      clear hb hb' hv C
      go_wp2_with fail
      refine (cPn.out _ hG1.out).mono ?_
      rintro e y2 ⟨rfl, hb⟩
      have hR2 := Hid.mk' (hR1.out.below hb)
      have hB2 := Hid.mk' (hB1.out.trans (hb.mono hB1.out.size))
      clear hb hc hR1 hB1 hG1
      go_wp2
      go_roundw
      case rel => exact ⟨k + 1, by omega, by go_num, hR2, hB2⟩
      case measure => simp [intOf]; omega
    obtain rfl : k = 10 := by omega
    simp only [Int.cast_ofNat_Int]
    clear hk hk10 hR cD cP
    go_wp2
    go_ret
    exact ⟨rfl, hB.out⟩
end Ev
end Go.Proofs.YtnllplholfhbdaaDoor
