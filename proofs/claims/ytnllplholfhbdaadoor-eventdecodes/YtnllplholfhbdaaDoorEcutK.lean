import Derived.Test.YtnllplholfhbdaaDoorEbackK
import Derived.Test.YtnllplholfhbdaaDoorPlainE
/- EventCut. -/
namespace Go.Proofs.YtnllplholfhbdaaDoor
set_option linter.ambiguousOpen false
open Go.RowKit
namespace Ev
open Pk Sm Ft
set_option linter.unusedSimpArgs false
set_option linter.unusedVariables false

set_option maxRecDepth 100000 in
set_option maxHeartbeats 8000000 in
theorem cut_early (R : Says) (e : Evt) (at_ : Int) (x : UInt8) (w : World) (hr : e.rng) (hsc : 0 ≤ e.s.scopes ∧ e.s.scopes < 18446744073709551616) (hu1 : e.s.user.length ≤ 9223372036854775807) (hl1 : e.s.label.length ≤ 9223372036854775807) (ha : i64 at_) (hg : Er.Handle w) (hout : 65536 < e.s.user.length ∨ 65536 < e.s.label.length) :
    Calls Tryd.prog 5 #[.agg e.arr, nu at_, by1 x] w fun x w' => x = .returned (.bool true) ∧ Below w.heap.size w w' := by
  have hb0 : Hid (Below w.heap.size w (w.alloc (.cells e.arr 29))) := (Below.refl _ _).alloc (Nat.le_refl _) _
  have hev : Hid ((w.alloc (.cells e.arr 29)).heap[w.heap.size]? = some (.cells e.arr 29)) := heap_alloc_new _ _
  have cW := Hid.mk' (works_yes R (w.alloc (.cells e.arr 29)))
  unfold by1
  obtain ⟨ek, ⟨slot, birth, us, ub, kind, user, label, scopes, level, born, deadline, depth⟩, eb, et⟩ := e
  unfold Evt.arr at hb0 hev cW ⊢
  simp only at hb0 hev cW hout hu1 hl1 ⊢
  have z1 : (tx user).size = user.length := rfl
  have z2 : (tx label).size = label.length := rfl
  obtain ⟨fu, hfu⟩ : ∃ f, tx user = f := ⟨_, rfl⟩
  obtain ⟨fl, hfl⟩ : ∃ f, tx label = f := ⟨_, rfl⟩
  simp only [hfu, hfl] at hb0 hev cW z1 z2 ⊢
  clear hfu hfl
  clear hr hsc
  have hcs : (65536 : Int) < (user.length : Int) ∨ (¬ (65536 : Int) < (user.length : Int) ∧ (65536 : Int) < (label.length : Int)) := by omega
  clear hout
  rcases hcs with d2 | ⟨d2, d3⟩ <;> (
    go_enter Tryd.func5, Tryd.ntmps5
    go_wp2_with fail
    refine cW.out.mono ?_
    rintro e x1 ⟨rfl, hb1⟩
    have he1 := (hb1.block _ (Array.getElem?_eq_some_iff.1 hev.out).1).trans hev.out
    have m0 := cell_at (j := 0) he1 rfl
    have m1 := cell_at (j := 1) he1 rfl
    have m2 := cell_at (j := 2) he1 rfl
    have m3 := cell_at (j := 3) he1 rfl
    have m4 := cell_at (j := 4) he1 rfl
    have m5 := cell_at (j := 5) he1 rfl
    have m6 := cell_at (j := 6) he1 rfl
    have m7 := cell_at (j := 7) he1 rfl
    have m8 := cell_at (j := 8) he1 rfl
    have m9 := cell_at (j := 9) he1 rfl
    have m10 := cell_at (j := 10) he1 rfl
    have m11 := cell_at (j := 11) he1 rfl
    have m12 := cell_at (j := 12) he1 rfl
    have m13 := cell_at (j := 13) he1 rfl
    have m14 := cell_at (j := 14) he1 rfl
    have HE1 := Hid.mk' he1
    have HB1 := Hid.mk' (hb0.out.trans (hb1.mono hb0.out.size))
    clear hb1 he1 hev hb0 cW
    go_wp2
    go_ret
    exact ⟨rfl, HB1.out⟩)

set_option maxRecDepth 100000 in
set_option maxHeartbeats 8000000 in
theorem cut_not (R : Says) (e : Evt) (at_ : Int) (x : UInt8) (w : World) (hr : e.rng) (hsc : 0 ≤ e.s.scopes ∧ e.s.scopes < 18446744073709551616) (hu1 : e.s.user.length ≤ 9223372036854775807) (hl1 : e.s.label.length ≤ 9223372036854775807) (ha : i64 at_) (hg : Er.Handle w) (hin : e.s.user.length ≤ 65536 ∧ e.s.label.length ≤ 65536) (hm : ¬ mayE e = true) :
    Calls Tryd.prog 5 #[.agg e.arr, nu at_, by1 x] w fun x w' => x = .returned (.bool true) ∧ Below w.heap.size w w' := by
  have hb0 : Hid (Below w.heap.size w (w.alloc (.cells e.arr 29))) := (Below.refl _ _).alloc (Nat.le_refl _) _
  have hev : Hid ((w.alloc (.cells e.arr 29)).heap[w.heap.size]? = some (.cells e.arr 29)) := heap_alloc_new _ _
  have cW := Hid.mk' (works_yes R (w.alloc (.cells e.arr 29)))
  unfold by1
  have d2 : ¬ (65536 : Int) < (e.s.user.length : Int) := by omega
  have d3 : ¬ (65536 : Int) < (e.s.label.length : Int) := by omega
  have hfit : e.fit := ⟨hin.1, hin.2, hsc⟩
  have cE : Hid (∀ wx, Calls Tryd.prog 8 #[.agg e.arr] wx fun x w' => ∃ v, x = .returned (.tuple #[v, errE (if mayE e then 0 else 1)]) ∧ w'.ownsRow wx.heap.size 5 1 v (bytesE e).length ((bytesE e).map by1) ∧ Below wx.heap.size wx w') := fun wx => R.encode wx e hfit hr
  have hm' : mayE e = false := by simpa using hm
  rw [hm'] at cE
  obtain ⟨L, hL⟩ : ∃ L, bytesE e = L := ⟨_, rfl⟩
  rw [hL] at cE
  simp only [errE, Bool.false_eq_true, if_false] at cE
  clear hL hm hm' hfit hr hin hu1 hl1 hsc hg
  obtain ⟨ek, ⟨slot, birth, us, ub, kind, user, label, scopes, level, born, deadline, depth⟩, eb, et⟩ := e
  unfold Evt.arr at hb0 hev cW cE ⊢
  simp only at hb0 hev cW cE d2 d3 ⊢
  have z1 : (tx user).size = user.length := rfl
  have z2 : (tx label).size = label.length := rfl
  obtain ⟨fu, hfu⟩ : ∃ f, tx user = f := ⟨_, rfl⟩
  obtain ⟨fl, hfl⟩ : ∃ f, tx label = f := ⟨_, rfl⟩
  simp only [hfu, hfl] at hb0 hev cW z1 z2 cE d2 d3 ⊢
  clear hfu hfl
  go_enter Tryd.func5, Tryd.ntmps5
  go_wp2_with fail
  refine cW.out.mono ?_
  rintro e x1 ⟨rfl, hb1⟩
  have he1 := (hb1.block _ (Array.getElem?_eq_some_iff.1 hev.out).1).trans hev.out
  have m0 := cell_at (j := 0) he1 rfl
  have m1 := cell_at (j := 1) he1 rfl
  have m2 := cell_at (j := 2) he1 rfl
  have m3 := cell_at (j := 3) he1 rfl
  have m4 := cell_at (j := 4) he1 rfl
  have m5 := cell_at (j := 5) he1 rfl
  have m6 := cell_at (j := 6) he1 rfl
  have m7 := cell_at (j := 7) he1 rfl
  have m8 := cell_at (j := 8) he1 rfl
  have m9 := cell_at (j := 9) he1 rfl
  have m10 := cell_at (j := 10) he1 rfl
  have m11 := cell_at (j := 11) he1 rfl
  have m12 := cell_at (j := 12) he1 rfl
  have m13 := cell_at (j := 13) he1 rfl
  have m14 := cell_at (j := 14) he1 rfl
  have HE1 := Hid.mk' he1
  have HB1 := Hid.mk' (hb0.out.trans (hb1.mono hb0.out.size))
  clear hb1 he1 hev hb0 cW
  go_wp2_with fail
  refine (cE.out _).mono ?_
  rintro e x2 ⟨r2, rfl, ho2, hb2⟩
  clear m0 m1 m2 m3 m4 m5 m6 m7 m8 m9 m10 m11 m12 m13 m14
  have HB2 := Hid.mk' (HB1.out.trans (hb2.mono HB1.out.size))
  obtain ⟨sa, sc, rfl, _⟩ := Nm.own_shape ho2
  clear ho2 hb2 HE1 HB1 cE
  go_wp2
  go_ret
  exact ⟨rfl, HB2.out⟩

set_option maxRecDepth 100000 in
set_option maxHeartbeats 8000000 in
theorem cut_may (R : Says) (e : Evt) (at_ : Int) (x : UInt8) (w : World) (hr : e.rng) (hsc : 0 ≤ e.s.scopes ∧ e.s.scopes < 18446744073709551616) (hu1 : e.s.user.length ≤ 9223372036854775807) (hl1 : e.s.label.length ≤ 9223372036854775807) (ha : i64 at_) (hg : Er.Handle w) (hin : e.s.user.length ≤ 65536 ∧ e.s.label.length ≤ 65536) (hm : mayE e = true) :
    Calls Tryd.prog 5 #[.agg e.arr, nu at_, by1 x] w fun x w' => x = .returned (.bool true) ∧ Below w.heap.size w w' := by
  obtain ⟨i0, ji, hz0, hz1, hz2⟩ := info_parts info_byte
  have hb0 : Hid (Below w.heap.size w (w.alloc (.cells e.arr 29))) := (Below.refl _ _).alloc (Nat.le_refl _) _
  have hev : Hid ((w.alloc (.cells e.arr 29)).heap[w.heap.size]? = some (.cells e.arr 29)) := heap_alloc_new _ _
  have cW := Hid.mk' (works_yes R (w.alloc (.cells e.arr 29)))
  have HBX : Hid (by1 x = .int .u8 (x.toNat : Int)) := rfl
  unfold by1
  have d2 : ¬ (65536 : Int) < (e.s.user.length : Int) := by omega
  have d3 : ¬ (65536 : Int) < (e.s.label.length : Int) := by omega
  have hfit : e.fit := ⟨hin.1, hin.2, hsc⟩
  have cE : Hid (∀ wx, Calls Tryd.prog 8 #[.agg e.arr] wx fun x w' => ∃ v, x = .returned (.tuple #[v, errE (if mayE e then 0 else 1)]) ∧ w'.ownsRow wx.heap.size 5 1 v (bytesE e).length ((bytesE e).map by1) ∧ Below wx.heap.size wx w') := fun wx => R.encode wx e hfit hr
  have hE : bytesE e = encE e := by rw [bytesE, if_pos hm]
  have hlen := enc_len e hm hsc
  have hpos := enc_pos e
  have hdc := fun k hk => dec_cut e hm hsc k hk
  have hdm := dec_more e hm hsc x
  rw [hE, hm] at cE
  obtain ⟨L, hL⟩ : ∃ L, encE e = L := ⟨_, rfl⟩
  rw [hL] at cE hlen hpos hdm
  simp only [hL] at hdc
  simp only [errE, if_true] at cE
  have cT : Hid (∀ wx u k, k < L.length → RdB wx u (L.take k) → Calls Tryd.prog 14 #[u] wx fun x w' => x = .returned (.tuple #[.agg Evt.zero.arr, errE 2]) ∧ Below wx.heap.size wx w') := fun wx u k hk h => by
    have := R.decode wx u (L.take k) h (by rw [List.length_take]; omega)
    rw [hdc k hk] at this
    exact this
  have cL : Hid (∀ wx u, RdB wx u (L ++ [x]) → Calls Tryd.prog 14 #[u] wx fun x w' => x = .returned (.tuple #[.agg Evt.zero.arr, errE 3]) ∧ Below wx.heap.size wx w') := fun wx u h => by
    have := R.decode wx u (L ++ [x]) h (by rw [List.length_append]; simp; omega)
    rw [hdm] at this
    exact this
  have ha0 : Evt.arr Evt.zero = #[nu 0, nu 0, nu 0, nu 0, nu 0, nu 0, .string ⟨#[]⟩, .string ⟨#[]⟩, .int .u64 0, nu 0, nu 0, nu 0, nu 0, nu 0, nu 0] := rfl
  rw [ha0] at cT cL
  simp only [errE] at cT cL
  have cP2 : Hid (∀ wx, Er.Handle wx → Calls Tryd.prog 9 #[noE 2, nu 2] wx fun e w' => e = .returned (.bool true) ∧ Below wx.heap.size wx w') := fun wx h => plainV 2 (by decide) wx h
  have cP3 : Hid (∀ wx, Er.Handle wx → Calls Tryd.prog 9 #[noE 3, nu 3] wx fun e w' => e = .returned (.bool true) ∧ Below wx.heap.size wx w') := fun wx h => plainV 3 (by decide) wx h
  obtain ⟨k, hk, hkl⟩ : ∃ k : Nat, at_ % (L.length : Int) = (k : Int) ∧ k < L.length := by
    have e2 := Int.emod_nonneg at_ (b := (L.length : Int)) (by omega)
    have e3 := Int.emod_lt_of_pos at_ (b := (L.length : Int)) (by omega)
    exact ⟨(at_ % (L.length : Int)).toNat, by omega, by omega⟩
  have cK : Hid (∀ wx, Calls Tryd.prog 17 #[nu at_, nu (L.length : Int)] wx fun e w' => e = .returned (nu (k : Int)) ∧ w' = wx) := fun wx => by
    have := pick_any at_ L.length wx hpos (by omega) ha
    rw [hk] at this
    exact this
  have cC : Hid (∀ wx u, RdB wx u L → Calls Tryd.prog 18 #[u] wx fun e w' => ∃ v', e = .returned v' ∧ w'.ownsRow wx.heap.size 5 1 v' L.length (L.map by1) ∧ Below wx.heap.size wx w') := fun wx u h => copyB_any u L wx h (by omega)
  have HKL := Hid.mk' hkl
  have HG := Hid.mk' hg
  have HP := Hid.mk' hpos
  have hl0 : ((L.length : Int) == 0) = false := by rw [beq_eq_false_iff_ne]; omega
  have hmx : Hid (L.length + 1 ≤ maxLen) := by show _ ≤ _; unfold maxLen; omega
  have hby : Hid ((L.length + 1) * 1 ≤ 140737488355328) := by show _ ≤ _; omega
  have hone : Hid (∀ u ∈ [Value.int .u8 (x.toNat : Int)], u.oneCell' = true) := by intro u hu; simp at hu; subst hu; rfl
  clear hL hE hm hdc hdm hfit hr hin hu1 hl1 hsc hg ha0 ha hk
  obtain ⟨ek, ⟨slot, birth, us, ub, kind, user, label, scopes, level, born, deadline, depth⟩, eb, et⟩ := e
  unfold Evt.arr at hb0 hev cW cE ⊢
  simp only at hb0 hev cW cE d2 d3 ⊢
  have z1 : (tx user).size = user.length := rfl
  have z2 : (tx label).size = label.length := rfl
  obtain ⟨fu, hfu⟩ : ∃ f, tx user = f := ⟨_, rfl⟩
  obtain ⟨fl, hfl⟩ : ∃ f, tx label = f := ⟨_, rfl⟩
  simp only [hfu, hfl] at hb0 hev cW z1 z2 cE d2 d3 ⊢
  clear hfu hfl
  go_enter Tryd.func5, Tryd.ntmps5
  go_wp2_with fail
  refine cW.out.mono ?_
  rintro e x1 ⟨rfl, hb1⟩
  have he1 := (hb1.block _ (Array.getElem?_eq_some_iff.1 hev.out).1).trans hev.out
  have m0 := cell_at (j := 0) he1 rfl
  have m1 := cell_at (j := 1) he1 rfl
  have m2 := cell_at (j := 2) he1 rfl
  have m3 := cell_at (j := 3) he1 rfl
  have m4 := cell_at (j := 4) he1 rfl
  have m5 := cell_at (j := 5) he1 rfl
  have m6 := cell_at (j := 6) he1 rfl
  have m7 := cell_at (j := 7) he1 rfl
  have m8 := cell_at (j := 8) he1 rfl
  have m9 := cell_at (j := 9) he1 rfl
  have m10 := cell_at (j := 10) he1 rfl
  have m11 := cell_at (j := 11) he1 rfl
  have m12 := cell_at (j := 12) he1 rfl
  have m13 := cell_at (j := 13) he1 rfl
  have m14 := cell_at (j := 14) he1 rfl
  have HE1 := Hid.mk' he1
  have HB1 := Hid.mk' (hb0.out.trans (hb1.mono hb0.out.size))
  clear hb1 he1 hev hb0 cW
  go_wp2_with fail
  refine (cE.out _).mono ?_
  rintro e x2 ⟨r2, rfl, ho2, hb2⟩
  clear m0 m1 m2 m3 m4 m5 m6 m7 m8 m9 m10 m11 m12 m13 m14
  have HB2 := Hid.mk' (HB1.out.trans (hb2.mono HB1.out.size))
  have HR2 := Hid.mk' (own_rd ho2)
  obtain ⟨sa, sc, hs2, hs3, hs4, _⟩ := Nm.own_shape ho2
  subst hs2
  have hsl := fun wx => slice_to sa L.length sc k (by omega) wx
  have HT2 := Hid.mk' (RdB.take HR2.out k (by omega))
  unfold maxLen at hs4
  clear ho2 hb2 HE1 HB1 cE
  go_wp2_with fail
  refine (cK.out _).mono ?_
  rintro e x3 ⟨rfl, rfl⟩
  go_wp2_with fail
  refine (cT.out _ _ k HKL.out HT2.out).mono ?_
  rintro e x4 ⟨rfl, hb4⟩
  have hb4a := hb4.alloc hb4.size (.cells #[nu 0, nu 0, nu 0, nu 0, nu 0, nu 0, .string ⟨#[]⟩, .string ⟨#[]⟩, .int .u64 0, nu 0, nu 0, nu 0, nu 0, nu 0, nu 0] 29)
  have HB4 := Hid.mk' (HB2.out.trans (hb4a.mono HB2.out.size))
  have HR4 := Hid.mk' (HR2.out.below hb4a)
  clear hb4 hb4a HB2 HR2 HT2 cK cT hsl
  go_wp2_with fail
  refine (cC.out _ _ HR4.out).mono ?_
  rintro e x5 ⟨v5, rfl, ho5, hb5⟩
  have HB5 := Hid.mk' (HB4.out.trans (hb5.mono HB4.out.size))
  have HO5 := Hid.mk' (own_mono ho5 HB4.out.size)
  obtain ⟨ta, tc, ht2, _⟩ := Nm.own_shape ho5
  subst ht2
  clear ho5 hb5 HB4 HR4 cC
  go_wp2_with (at_builtin; refine wpList_append_own _ rfl _ _ 30 rfl w.heap.size 5 i0 (.int .u8 0) 1 1 Tryd.underlying30 ji hz0 hz1 hz2 rfl (by decide) _ L.length (L.map by1) rfl (HO5.out.alloc _) ⟨x5.heap.size, 0, none⟩ 1 1 [.int .u8 (x.toNat : Int)] rfl rfl (cell_one_new _ _ _) hone.out hmx.out hby.out (by have := HB5.out.size; simp; omega) ?_; intro v6 w6 hown6 hgrow _; have hO6 : Hid (w6.ownsRow w.heap.size 5 1 v6 (L ++ [x]).length ((L ++ [x]).map by1)) := (by rw [List.length_append, List.map_append]; exact hown6); have hB6 : Hid (Below w.heap.size w w6) := Below.grown (HB5.out.alloc HB5.out.size _) hgrow (by have := HB5.out.size; simp; omega) (fun j hj => (HO5.out.lt j hj).1); obtain ⟨ua, uc, rfl, _⟩ := Nm.own_shape hown6; clear hown6 hgrow)
  refine (cL.out _ _ (own_rd' hO6.out (by simp))).mono ?_
  rintro e x7 ⟨rfl, hb7⟩
  have hb7a := hb7.alloc hb7.size (.cells #[nu 0, nu 0, nu 0, nu 0, nu 0, nu 0, .string ⟨#[]⟩, .string ⟨#[]⟩, .int .u64 0, nu 0, nu 0, nu 0, nu 0, nu 0, nu 0] 29)
  have HB7 := Hid.mk' (hB6.out.trans (hb7a.mono hB6.out.size))
  have HG7 := Hid.mk' (HG.out.below HB7.out)
  clear hb7 hb7a hO6 hB6 HO5 HB5 cL
  go_wp2_with fail
  refine (cP2.out _ HG7.out).mono ?_
  rintro e x8 ⟨rfl, hb8⟩
  have HB8 := Hid.mk' (HB7.out.trans (hb8.mono HB7.out.size))
  have HG8 := Hid.mk' (HG7.out.below hb8)
  clear hb8 HB7 HG7 cP2
  go_wp2_with fail
  refine (cP3.out _ HG8.out).mono ?_
  rintro e x9 ⟨rfl, hb9⟩
  have HB9 := Hid.mk' (HB8.out.trans (hb9.mono HB8.out.size))
  clear hb9
  go_wp2
  go_ret
  exact ⟨rfl, HB9.out⟩

theorem ecut_yes (R : Says) (e : Evt) (at_ : Int) (x : UInt8) (w : World) (hr : e.rng) (hsc : 0 ≤ e.s.scopes ∧ e.s.scopes < 18446744073709551616) (hu1 : e.s.user.length ≤ 9223372036854775807) (hl1 : e.s.label.length ≤ 9223372036854775807) (ha : i64 at_) (hg : Er.Handle w) :
    Calls Tryd.prog 5 #[.agg e.arr, nu at_, by1 x] w fun x w' => x = .returned (.bool true) ∧ Below w.heap.size w w' := by
  by_cases hout : 65536 < e.s.user.length ∨ 65536 < e.s.label.length
  · exact cut_early R e at_ x w hr hsc hu1 hl1 ha hg hout
  · have hin : e.s.user.length ≤ 65536 ∧ e.s.label.length ≤ 65536 := by omega
    by_cases hm : mayE e = true
    · exact cut_may R e at_ x w hr hsc hu1 hl1 ha hg hin hm
    · exact cut_not R e at_ x w hr hsc hu1 hl1 ha hg hin hm
end Ev
end Go.Proofs.YtnllplholfhbdaaDoor
