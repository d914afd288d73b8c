/- The law's works, EventBack and EventCut. -/
import Derived.Test.YtnllplholfhbdaaEvS
import Derived.Test.YtnllplholfhbdaaListsY
namespace Go.Proofs.Ytnllplholfhbdaa
set_option linter.ambiguousOpen false
open Go.RowKit
namespace Ev
open Pk Sm Ft
set_option linter.unusedSimpArgs false
set_option linter.unusedVariables false

theorem sev300 : sev 300 = [172, 2] := by
  rw [sev_ge 300 (by decide), sev_lt (300 / 128) (by decide)]
  rfl

theorem rd_new (w : World) (l : List UInt8) (h : l.length ≤ 1000000) : RdB (w.alloc (.cells (l.map by1).toArray 5)) (.slice (some ⟨w.heap.size, 0, none⟩) l.length l.length) l := by
  refine ⟨_, l.length, rfl, Nat.le_refl _, by unfold maxLen; omega, fun _ => ⟨w.heap.size, 0, rfl, by simp, fun j hj => ?_⟩⟩
  rw [Nat.zero_add, cell_of_row _ w.heap.size j _ _ _ (heap_alloc_new w _)]
  simp [hj]

theorem bytes300 : bytesE ⟨1, Sn.zero, 300, 0⟩ = [1, 172, 2] := by
  have hm : mayE ⟨1, Sn.zero, 300, 0⟩ = true := by decide
  rw [bytesE, if_pos hm, enc1, show sv 300 = sev 300 from rfl, sev300, sev_lt 1 (by decide)]
  rfl

set_option maxRecDepth 100000 in
theorem works_yes (R : Says) (w : World) : Calls Try.prog 4 #[] w fun e w' => e = .returned (.bool true) ∧ Below w.heap.size w w' := by
  have hm : mayE ⟨1, Sn.zero, 300, 0⟩ = true := by decide
  have hrf := may_rng ⟨1, Sn.zero, 300, 0⟩ hm (by simp [Sn.zero])
  have c1 := Hid.mk' (R.encode w ⟨1, Sn.zero, 300, 0⟩ hrf.2 hrf.1)
  rw [bytes300, hm] at c1
  simp only [errE, if_true] at c1
  have ha : Evt.arr ⟨1, Sn.zero, 300, 0⟩ = #[nu 1, nu 0, nu 0, nu 0, nu 0, nu 0, .string ⟨#[]⟩, .string ⟨#[]⟩, .int .u64 0, nu 0, nu 0, nu 0, nu 0, nu 300, nu 0] := rfl
  rw [ha] at c1
  have c4 : Hid (∀ wx v1 v2, RdB wx v1 [1, 172, 2] → RdB wx v2 [1, 172, 2] → Calls Try.prog 7 #[v1, v2] wx fun e w' => e = .returned (.bool true) ∧ Below wx.heap.size wx w') := fun wx v1 v2 h1 h2 => sameB_eq v1 v2 _ wx h1 h2
  clear hm hrf ha
  go_enter Try.func4, Try.ntmps4
  go_wp2_with fail
  refine c1.out.mono ?_
  rintro e w3 ⟨v, rfl, ho, hb⟩
  obtain ⟨a, cap, ev, _⟩ := own_rd (l := [1, 172, 2]) ho
  simp only [List.length_cons, List.length_nil, Nat.reduceAdd] at ev
  subst ev
  have hr1 : RdB (w3.alloc (.cells #[.int .u8 1, .int .u8 172, .int .u8 2] 5)) (.slice a 3 cap) [1, 172, 2] := (own_rd (l := [1, 172, 2]) ho).below ((Below.refl _ _).alloc (Nat.le_refl _) _)
  have hr2 : RdB (w3.alloc (.cells #[.int .u8 1, .int .u8 172, .int .u8 2] 5)) (.slice (some ⟨w3.heap.size, 0, none⟩) 3 3) [1, 172, 2] := rd_new w3 [1, 172, 2] (by decide)
  have C4 := Hid.mk' (c4.out _ _ _ hr1 hr2)
  have hB : Hid (Below w.heap.size w (w3.alloc (.cells #[.int .u8 1, .int .u8 172, .int .u8 2] 5))) := hb.alloc hb.size _
  clear hr1 hr2 c4 c1 ho hb
  go_wp2_with fail
  refine C4.out.mono ?_
  rintro e w4 ⟨rfl, hb4⟩
  have hB4 := Hid.mk' (hB.out.trans (hb4.mono hB.out.size))
  clear hb4
  go_wp2
  go_ret
  exact ⟨rfl, hB4.out⟩

theorem back_told (b : List UInt8) (g : Evt) (no : Nat) (hg : decE b = (g, no)) : (no ≠ 0 ∧ g = Evt.zero) ∨ (no = 0 ∧ mayE g = true ∧ (0 ≤ g.s.scopes ∧ g.s.scopes < 18446744073709551616) ∧ encE g = b) := by
  by_cases h0 : no = 0
  · subst h0
    exact .inr ⟨rfl, dec_back b g hg⟩
  · have := dec_no b (by rw [hg]; exact h0)
    rw [hg] at this
    exact .inl ⟨h0, this⟩

theorem back_enc (R : Says) (b : List UInt8) (g : Evt) (h1 : mayE g = true) (h2 : 0 ≤ g.s.scopes ∧ g.s.scopes < 18446744073709551616) (h3 : encE g = b) (wx : World) : Calls Try.prog 5 #[.agg g.arr] wx fun x w' => ∃ v, x = .returned (.tuple #[v, .nilIface]) ∧ w'.ownsRow wx.heap.size 5 1 v b.length (b.map by1) ∧ Below wx.heap.size wx w' := by
  obtain ⟨hr2, hf2⟩ := may_rng g h1 h2
  have := R.encode wx g hf2 hr2
  rw [bytesE, if_pos h1, h3, if_pos h1] at this
  exact this

set_option maxRecDepth 100000 in
set_option maxHeartbeats 8000000 in
theorem back_early (R : Says) (e : Evt) (v : Value) (b : List UInt8) (w : World) (hr : e.rng) (hsc : 0 ≤ e.s.scopes ∧ e.s.scopes < 18446744073709551616) (hu1 : e.s.user.length ≤ 9223372036854775807) (hl1 : e.s.label.length ≤ 9223372036854775807) (hR : RdB w v b) (hbl : b.length ≤ 9223372036854775807) (hout : 65536 < b.length ∨ 65536 < e.s.user.length ∨ 65536 < e.s.label.length) :
    Calls Try.prog 3 #[.agg e.arr, v] w fun x w' => x = .returned (.bool true) ∧ Below w.heap.size w w' := by
  have hb0 : Hid (Below w.heap.size w (w.alloc (.cells e.arr 29))) := (Below.refl _ _).alloc (Nat.le_refl _) _
  have hev : Hid ((w.alloc (.cells e.arr 29)).heap[w.heap.size]? = some (.cells e.arr 29)) := heap_alloc_new _ _
  have cW := Hid.mk' (works_yes R (w.alloc (.cells e.arr 29)))
  obtain ⟨ek, ⟨slot, birth, us, ub, kind, user, label, scopes, level, born, deadline, depth⟩, eb, et⟩ := e
  unfold Evt.arr at hb0 hev cW ⊢
  simp only at hb0 hev cW hout hu1 hl1 ⊢
  have z1 : (tx user).size = user.length := rfl
  have z2 : (tx label).size = label.length := rfl
  obtain ⟨fu, hfu⟩ : ∃ f, tx user = f := ⟨_, rfl⟩
  obtain ⟨fl, hfl⟩ : ∃ f, tx label = f := ⟨_, rfl⟩
  simp only [hfu, hfl] at hb0 hev cW z1 z2 ⊢
  clear hfu hfl
  clear hr hsc
  obtain ⟨a, cap, rfl, _⟩ := hR
  have hcs : (65536 : Int) < (b.length : Int) ∨ (¬ (65536 : Int) < (b.length : Int) ∧ (65536 : Int) < (user.length : Int)) ∨ (¬ (65536 : Int) < (b.length : Int) ∧ ¬ (65536 : Int) < (user.length : Int) ∧ (65536 : Int) < (label.length : Int)) := by omega
  clear hout
  rcases hcs with d1 | ⟨d1, d2⟩ | ⟨d1, d2, d3⟩ <;> (
    go_enter Try.func3, Try.ntmps3
    go_wp2_with fail
    refine cW.out.mono ?_
    rintro e x1 ⟨rfl, hb1⟩
    have he1 := (hb1.block _ (Array.getElem?_eq_some_iff.1 hev.out).1).trans hev.out
    have m0 := cell_at (j := 0) he1 rfl
    have m1 := cell_at (j := 1) he1 rfl
    have m2 := cell_at (j := 2) he1 rfl
    have m3 := cell_at (j := 3) he1 rfl
    have m4 := cell_at (j := 4) he1 rfl
    have m5 := cell_at (j := 5) he1 rfl
    have m6 := cell_at (j := 6) he1 rfl
    have m7 := cell_at (j := 7) he1 rfl
    have m8 := cell_at (j := 8) he1 rfl
    have m9 := cell_at (j := 9) he1 rfl
    have m10 := cell_at (j := 10) he1 rfl
    have m11 := cell_at (j := 11) he1 rfl
    have m12 := cell_at (j := 12) he1 rfl
    have m13 := cell_at (j := 13) he1 rfl
    have m14 := cell_at (j := 14) he1 rfl
    have HE1 := Hid.mk' he1
    have HB1 := Hid.mk' (hb0.out.trans (hb1.mono hb0.out.size))
    clear hb1 he1 hev hb0 cW
    go_wp2
    go_ret
    exact ⟨rfl, HB1.out⟩)

set_option maxRecDepth 100000 in
set_option maxHeartbeats 8000000 in
theorem back_may (R : Says) (e : Evt) (v : Value) (b : List UInt8) (w : World) (hr : e.rng) (hsc : 0 ≤ e.s.scopes ∧ e.s.scopes < 18446744073709551616) (hu1 : e.s.user.length ≤ 9223372036854775807) (hl1 : e.s.label.length ≤ 9223372036854775807) (hR : RdB w v b) (hbl : b.length ≤ 9223372036854775807) (hin : b.length ≤ 65536 ∧ e.s.user.length ≤ 65536 ∧ e.s.label.length ≤ 65536) (hm : mayE e = true) :
    Calls Try.prog 3 #[.agg e.arr, v] w fun x w' => x = .returned (.bool true) ∧ Below w.heap.size w w' := by
  have hb0 : Hid (Below w.heap.size w (w.alloc (.cells e.arr 29))) := (Below.refl _ _).alloc (Nat.le_refl _) _
  have hev : Hid ((w.alloc (.cells e.arr 29)).heap[w.heap.size]? = some (.cells e.arr 29)) := heap_alloc_new _ _
  have cW := Hid.mk' (works_yes R (w.alloc (.cells e.arr 29)))
  have d1 : ¬ (65536 : Int) < (b.length : Int) := by omega
  have d2 : ¬ (65536 : Int) < (e.s.user.length : Int) := by omega
  have d3 : ¬ (65536 : Int) < (e.s.label.length : Int) := by omega
  have hfit : e.fit := ⟨hin.2.1, hin.2.2, hsc⟩
  have cE : Hid (∀ wx, Calls Try.prog 5 #[.agg e.arr] wx fun x w' => ∃ v, x = .returned (.tuple #[v, errE (if mayE e then 0 else 1)]) ∧ w'.ownsRow wx.heap.size 5 1 v (bytesE e).length ((bytesE e).map by1) ∧ Below wx.heap.size wx w') := fun wx => R.encode wx e hfit hr
  have cD : Hid (∀ wx u c, RdB wx u c → c.length ≤ 65537 → Calls Try.prog 6 #[u] wx fun x w' => x = .returned (.tuple #[.agg (decE c).1.arr, errE (decE c).2]) ∧ Below wx.heap.size wx w') := fun wx u c h hl => R.decode wx u c h hl
  have HR := Hid.mk' hR
  obtain ⟨a, cap, rfl, _⟩ := hR
  obtain ⟨g, no, hg⟩ : ∃ g no, decE b = (g, no) := ⟨(decE b).1, (decE b).2, (Prod.eta _).symm⟩
  have cB : Hid (∀ wx, RdB wx (.slice a b.length cap) b → Calls Try.prog 6 #[.slice a b.length cap] wx fun x w' => x = .returned (.tuple #[.agg g.arr, errE no]) ∧ Below wx.heap.size wx w') := fun wx h => by
    have := R.decode wx (.slice a b.length cap) b h (by omega)
    rw [hg] at this
    exact this
  have hG := back_told b g no hg
  have cS : Hid (∀ wx v1 v2, RdB wx v1 b → RdB wx v2 b → Calls Try.prog 7 #[v1, v2] wx fun e w' => e = .returned (.bool true) ∧ Below wx.heap.size wx w') := fun wx v1 v2 h1 h2 => sameB_eq v1 v2 b wx h1 h2
  have cG : Hid (no = 0 → ∀ wx, Calls Try.prog 5 #[.agg g.arr] wx fun x w' => ∃ v, x = .returned (.tuple #[v, .nilIface]) ∧ w'.ownsRow wx.heap.size 5 1 v b.length (b.map by1) ∧ Below wx.heap.size wx w') := by
    intro h0 wx
    rcases hG with ⟨h1, _⟩ | ⟨_, h1, h2, h3⟩
    · exact absurd h0 h1
    · exact back_enc R b g h1 h2 h3 wx
  have hZ := fun wx => evt_same Evt.zero wx
  unfold Evt.arr Evt.zero Sn.zero at hZ
  simp only at hZ
  have ht0 : tx [] = ⟨#[]⟩ := rfl
  simp only [ht0] at hZ
  clear ht0
  have hgz : no ≠ 0 → g = Evt.zero := fun h => by
    rcases hG with ⟨_, h1⟩ | ⟨h1, _⟩
    · exact h1
    · exact absurd h1 h
  clear hg hG
  have hE : bytesE e = encE e := by rw [bytesE, if_pos hm]
  have hlen := enc_len e hm hsc
  have hde := dec_enc e hm hsc
  rw [hE, hm] at cE
  obtain ⟨L, hL⟩ : ∃ L, encE e = L := ⟨_, rfl⟩
  rw [hL] at cE hlen hde
  have cL := Hid.mk' (fun wx u h => cD.out wx u L h (by omega))
  rw [hde] at cL
  have hns := fun wx => evt_nsame e wx
  have hlI : ¬ (245 : Int) < (L.length : Int) := by omega
  have hL4 : (L.length : Int) ≤ 1000 := by omega
  simp only [errE, if_true] at cE cL
  clear hL hE hm hde hfit hr hin hbl hu1 hl1 hsc cD hlen
  obtain ⟨ek, ⟨slot, birth, us, ub, kind, user, label, scopes, level, born, deadline, depth⟩, eb, et⟩ := e
  unfold Evt.arr at hb0 hev cW cE cL hns ⊢
  simp only at hb0 hev cW cE cL hns d2 d3 ⊢
  have z1 : (tx user).size = user.length := rfl
  have z2 : (tx label).size = label.length := rfl
  obtain ⟨fu, hfu⟩ : ∃ f, tx user = f := ⟨_, rfl⟩
  obtain ⟨fl, hfl⟩ : ∃ f, tx label = f := ⟨_, rfl⟩
  simp only [hfu, hfl] at hb0 hev cW z1 z2 cE cL hns d2 d3 ⊢
  clear hfu hfl
  go_enter Try.func3, Try.ntmps3
  go_wp2_with fail
  refine cW.out.mono ?_
  rintro e x1 ⟨rfl, hb1⟩
  have he1 := (hb1.block _ (Array.getElem?_eq_some_iff.1 hev.out).1).trans hev.out
  have m0 := cell_at (j := 0) he1 rfl
  have m1 := cell_at (j := 1) he1 rfl
  have m2 := cell_at (j := 2) he1 rfl
  have m3 := cell_at (j := 3) he1 rfl
  have m4 := cell_at (j := 4) he1 rfl
  have m5 := cell_at (j := 5) he1 rfl
  have m6 := cell_at (j := 6) he1 rfl
  have m7 := cell_at (j := 7) he1 rfl
  have m8 := cell_at (j := 8) he1 rfl
  have m9 := cell_at (j := 9) he1 rfl
  have m10 := cell_at (j := 10) he1 rfl
  have m11 := cell_at (j := 11) he1 rfl
  have m12 := cell_at (j := 12) he1 rfl
  have m13 := cell_at (j := 13) he1 rfl
  have m14 := cell_at (j := 14) he1 rfl
  have HE1 := Hid.mk' he1
  have HB1 := Hid.mk' (hb0.out.trans (hb1.mono hb0.out.size))
  clear hb1 he1 hev hb0 cW
  go_wp2_with fail
  refine (cE.out _).mono ?_
  rintro e x2 ⟨r2, rfl, ho2, hb2⟩
  clear m0 m1 m2 m3 m4 m5 m6 m7 m8 m9 m10 m11 m12 m13 m14
  have he2 := (hb2.block _ (Array.getElem?_eq_some_iff.1 HE1.out).1).trans HE1.out
  have HE2 := Hid.mk' he2
  have HB2 := Hid.mk' (HB1.out.trans (hb2.mono HB1.out.size))
  have C2 := Hid.mk' (cL.out _ _ (own_rd ho2))
  obtain ⟨sa, sc, rfl, _⟩ := Nm.own_shape ho2
  clear ho2 hb2 he2 HE1 HB1 cE cL
  go_wp2_with fail
  refine C2.out.mono ?_
  rintro e x3 ⟨rfl, hb3⟩
  have hb3a : Below x2.heap.size x2 (x3.alloc (.cells #[nu ek, nu slot, nu birth, nu us, nu ub, nu kind, .string fu, .string fl, .int .u64 scopes, nu level, nu born, nu deadline, nu depth, nu eb, nu et] 29)) := hb3.alloc hb3.size _
  have he3 := (hb3.block _ (Array.getElem?_eq_some_iff.1 HE2.out).1).trans HE2.out
  have he3a := (hb3a.block _ (Array.getElem?_eq_some_iff.1 HE2.out).1).trans HE2.out
  have m0 := cell_at (j := 0) he3a rfl
  have m1 := cell_at (j := 1) he3a rfl
  have m2 := cell_at (j := 2) he3a rfl
  have m3 := cell_at (j := 3) he3a rfl
  have m4 := cell_at (j := 4) he3a rfl
  have m5 := cell_at (j := 5) he3a rfl
  have m6 := cell_at (j := 6) he3a rfl
  have m7 := cell_at (j := 7) he3a rfl
  have m8 := cell_at (j := 8) he3a rfl
  have m9 := cell_at (j := 9) he3a rfl
  have m10 := cell_at (j := 10) he3a rfl
  have m11 := cell_at (j := 11) he3a rfl
  have m12 := cell_at (j := 12) he3a rfl
  have m13 := cell_at (j := 13) he3a rfl
  have m14 := cell_at (j := 14) he3a rfl
  have HB3 := Hid.mk' (HB2.out.trans (hb3a.mono HB2.out.size))
  have C3 := Hid.mk' (cB.out (x3.alloc (.cells #[nu ek, nu slot, nu birth, nu us, nu ub, nu kind, .string fu, .string fl, .int .u64 scopes, nu level, nu born, nu deadline, nu depth, nu eb, nu et] 29)) (HR.out.below HB3.out))
  clear hb3 hb3a he3 he3a HE2 HB2 cB C2
  go_wp2_with fail
  refine C3.out.mono ?_
  rintro e x4 ⟨rfl, hb4⟩
  clear m0 m1 m2 m3 m4 m5 m6 m7 m8 m9 m10 m11 m12 m13 m14 hns
  have HB4 := Hid.mk' (HB3.out.trans (hb4.mono HB3.out.size))
  clear hb4 HB3 C3 hlI
  cases no with
  | succ k =>
    have hg0 := hgz (by omega)
    subst hg0
    have hB5 := Hid.mk' (HB4.out.alloc HB4.out.size (.cells (Evt.zero).arr 29))
    have ha : Evt.arr Evt.zero = #[nu 0, nu 0, nu 0, nu 0, nu 0, nu 0, .string ⟨#[]⟩, .string ⟨#[]⟩, .int .u64 0, nu 0, nu 0, nu 0, nu 0, nu 0, nu 0] := rfl
    rw [ha] at hB5 ⊢
    simp only [errE]
    clear ha hgz cG cS
    go_wp2
    go_ret
    exact ⟨rfl, hB5.out⟩
  | zero =>
    have CG := Hid.mk' (cG.out rfl)
    simp only [errE]
    clear hZ hgz cG
    obtain ⟨gk, ⟨g1, g2, g3, g4, g5, g6, g7, g8, g9, g10, g11, g12⟩, gb, gt⟩ := g
    have hB5 := Hid.mk' (HB4.out.alloc HB4.out.size (.cells (Evt.arr ⟨gk, ⟨g1, g2, g3, g4, g5, g6, g7, g8, g9, g10, g11, g12⟩, gb, gt⟩) 29))
    unfold Evt.arr at CG hB5 ⊢
    simp only at CG hB5 ⊢
    obtain ⟨fg6, hf6⟩ : ∃ f, tx g6 = f := ⟨_, rfl⟩
    obtain ⟨fg7, hf7⟩ : ∃ f, tx g7 = f := ⟨_, rfl⟩
    simp only [hf6, hf7] at CG hB5 ⊢
    clear hf6 hf7
    go_wp2_with fail
    refine (CG.out _).mono ?_
    rintro e x6 ⟨r6, rfl, ho6, hb6⟩
    have HB6 := Hid.mk' (hB5.out.trans (hb6.mono hB5.out.size))
    have C6 := Hid.mk' (cS.out x6 _ (.slice a b.length cap) (own_rd ho6) (HR.out.below HB6.out))
    obtain ⟨ua, uc, rfl, _⟩ := Nm.own_shape ho6
    clear ho6 hb6 hB5 CG cS
    go_wp2_with fail
    refine C6.out.mono ?_
    rintro e x7 ⟨rfl, hb7⟩
    have HB7 := Hid.mk' (HB6.out.trans (hb7.mono HB6.out.size))
    clear hb7
    go_wp2
    go_ret
    exact ⟨rfl, HB7.out⟩

set_option maxRecDepth 100000 in
set_option maxHeartbeats 8000000 in
theorem back_not (R : Says) (e : Evt) (v : Value) (b : List UInt8) (w : World) (hr : e.rng) (hsc : 0 ≤ e.s.scopes ∧ e.s.scopes < 18446744073709551616) (hu1 : e.s.user.length ≤ 9223372036854775807) (hl1 : e.s.label.length ≤ 9223372036854775807) (hR : RdB w v b) (hbl : b.length ≤ 9223372036854775807) (hin : b.length ≤ 65536 ∧ e.s.user.length ≤ 65536 ∧ e.s.label.length ≤ 65536) (hm : ¬ mayE e = true) :
    Calls Try.prog 3 #[.agg e.arr, v] w fun x w' => x = .returned (.bool true) ∧ Below w.heap.size w w' := by
  have hb0 : Hid (Below w.heap.size w (w.alloc (.cells e.arr 29))) := (Below.refl _ _).alloc (Nat.le_refl _) _
  have hev : Hid ((w.alloc (.cells e.arr 29)).heap[w.heap.size]? = some (.cells e.arr 29)) := heap_alloc_new _ _
  have cW := Hid.mk' (works_yes R (w.alloc (.cells e.arr 29)))
  have d1 : ¬ (65536 : Int) < (b.length : Int) := by omega
  have d2 : ¬ (65536 : Int) < (e.s.user.length : Int) := by omega
  have d3 : ¬ (65536 : Int) < (e.s.label.length : Int) := by omega
  have hfit : e.fit := ⟨hin.2.1, hin.2.2, hsc⟩
  have cE : Hid (∀ wx, Calls Try.prog 5 #[.agg e.arr] wx fun x w' => ∃ v, x = .returned (.tuple #[v, errE (if mayE e then 0 else 1)]) ∧ w'.ownsRow wx.heap.size 5 1 v (bytesE e).length ((bytesE e).map by1) ∧ Below wx.heap.size wx w') := fun wx => R.encode wx e hfit hr
  have HR := Hid.mk' hR
  obtain ⟨a, cap, rfl, _⟩ := hR
  obtain ⟨g, no, hg⟩ : ∃ g no, decE b = (g, no) := ⟨(decE b).1, (decE b).2, (Prod.eta _).symm⟩
  have cB : Hid (∀ wx, RdB wx (.slice a b.length cap) b → Calls Try.prog 6 #[.slice a b.length cap] wx fun x w' => x = .returned (.tuple #[.agg g.arr, errE no]) ∧ Below wx.heap.size wx w') := fun wx h => by
    have := R.decode wx (.slice a b.length cap) b h (by omega)
    rw [hg] at this
    exact this
  have hG := back_told b g no hg
  have cS : Hid (∀ wx v1 v2, RdB wx v1 b → RdB wx v2 b → Calls Try.prog 7 #[v1, v2] wx fun e w' => e = .returned (.bool true) ∧ Below wx.heap.size wx w') := fun wx v1 v2 h1 h2 => sameB_eq v1 v2 b wx h1 h2
  have cG : Hid (no = 0 → ∀ wx, Calls Try.prog 5 #[.agg g.arr] wx fun x w' => ∃ v, x = .returned (.tuple #[v, .nilIface]) ∧ w'.ownsRow wx.heap.size 5 1 v b.length (b.map by1) ∧ Below wx.heap.size wx w') := by
    intro h0 wx
    rcases hG with ⟨h1, _⟩ | ⟨_, h1, h2, h3⟩
    · exact absurd h0 h1
    · exact back_enc R b g h1 h2 h3 wx
  have hZ := fun wx => evt_same Evt.zero wx
  unfold Evt.arr Evt.zero Sn.zero at hZ
  simp only at hZ
  have ht0 : tx [] = ⟨#[]⟩ := rfl
  simp only [ht0] at hZ
  clear ht0
  have hgz : no ≠ 0 → g = Evt.zero := fun h => by
    rcases hG with ⟨_, h1⟩ | ⟨h1, _⟩
    · exact h1
    · exact absurd h1 h
  clear hg hG
  have hm' : mayE e = false := by simpa using hm
  rw [hm'] at cE
  obtain ⟨L, hL⟩ : ∃ L, bytesE e = L := ⟨_, rfl⟩
  rw [hL] at cE
  simp only [errE, Bool.false_eq_true, if_false] at cE
  clear hL hm hm' hfit hr hin hbl hu1 hl1 hsc
  obtain ⟨ek, ⟨slot, birth, us, ub, kind, user, label, scopes, level, born, deadline, depth⟩, eb, et⟩ := e
  unfold Evt.arr at hb0 hev cW cE ⊢
  simp only at hb0 hev cW cE d2 d3 ⊢
  have z1 : (tx user).size = user.length := rfl
  have z2 : (tx label).size = label.length := rfl
  obtain ⟨fu, hfu⟩ : ∃ f, tx user = f := ⟨_, rfl⟩
  obtain ⟨fl, hfl⟩ : ∃ f, tx label = f := ⟨_, rfl⟩
  simp only [hfu, hfl] at hb0 hev cW z1 z2 cE d2 d3 ⊢
  clear hfu hfl
  go_enter Try.func3, Try.ntmps3
  go_wp2_with fail
  refine cW.out.mono ?_
  rintro e x1 ⟨rfl, hb1⟩
  have he1 := (hb1.block _ (Array.getElem?_eq_some_iff.1 hev.out).1).trans hev.out
  have m0 := cell_at (j := 0) he1 rfl
  have m1 := cell_at (j := 1) he1 rfl
  have m2 := cell_at (j := 2) he1 rfl
  have m3 := cell_at (j := 3) he1 rfl
  have m4 := cell_at (j := 4) he1 rfl
  have m5 := cell_at (j := 5) he1 rfl
  have m6 := cell_at (j := 6) he1 rfl
  have m7 := cell_at (j := 7) he1 rfl
  have m8 := cell_at (j := 8) he1 rfl
  have m9 := cell_at (j := 9) he1 rfl
  have m10 := cell_at (j := 10) he1 rfl
  have m11 := cell_at (j := 11) he1 rfl
  have m12 := cell_at (j := 12) he1 rfl
  have m13 := cell_at (j := 13) he1 rfl
  have m14 := cell_at (j := 14) he1 rfl
  have HE1 := Hid.mk' he1
  have HB1 := Hid.mk' (hb0.out.trans (hb1.mono hb0.out.size))
  clear hb1 he1 hev hb0 cW
  go_wp2_with fail
  refine (cE.out _).mono ?_
  rintro e x2 ⟨r2, rfl, ho2, hb2⟩
  clear m0 m1 m2 m3 m4 m5 m6 m7 m8 m9 m10 m11 m12 m13 m14
  have HB2 := Hid.mk' (HB1.out.trans (hb2.mono HB1.out.size))
  have C3 := Hid.mk' (cB.out x2 (HR.out.below HB2.out))
  obtain ⟨sa, sc, rfl, _⟩ := Nm.own_shape ho2
  clear ho2 hb2 HE1 HB1 cE cB
  go_wp2_with fail
  refine C3.out.mono ?_
  rintro e x4 ⟨rfl, hb4⟩
  have HB4 := Hid.mk' (HB2.out.trans (hb4.mono HB2.out.size))
  clear hb4 HB2 C3
  cases no with
  | succ k =>
    have hg0 := hgz (by omega)
    subst hg0
    have hB5 := Hid.mk' (HB4.out.alloc HB4.out.size (.cells (Evt.zero).arr 29))
    have ha : Evt.arr Evt.zero = #[nu 0, nu 0, nu 0, nu 0, nu 0, nu 0, .string ⟨#[]⟩, .string ⟨#[]⟩, .int .u64 0, nu 0, nu 0, nu 0, nu 0, nu 0, nu 0] := rfl
    rw [ha] at hB5 ⊢
    simp only [errE]
    clear ha hgz cG cS
    go_wp2
    go_ret
    exact ⟨rfl, hB5.out⟩
  | zero =>
    have CG := Hid.mk' (cG.out rfl)
    simp only [errE]
    clear hZ hgz cG
    obtain ⟨gk, ⟨g1, g2, g3, g4, g5, g6, g7, g8, g9, g10, g11, g12⟩, gb, gt⟩ := g
    have hB5 := Hid.mk' (HB4.out.alloc HB4.out.size (.cells (Evt.arr ⟨gk, ⟨g1, g2, g3, g4, g5, g6, g7, g8, g9, g10, g11, g12⟩, gb, gt⟩) 29))
    unfold Evt.arr at CG hB5 ⊢
    simp only at CG hB5 ⊢
    obtain ⟨fg6, hf6⟩ : ∃ f, tx g6 = f := ⟨_, rfl⟩
    obtain ⟨fg7, hf7⟩ : ∃ f, tx g7 = f := ⟨_, rfl⟩
    simp only [hf6, hf7] at CG hB5 ⊢
    clear hf6 hf7
    go_wp2_with fail
    refine (CG.out _).mono ?_
    rintro e x6 ⟨r6, rfl, ho6, hb6⟩
    have HB6 := Hid.mk' (hB5.out.trans (hb6.mono hB5.out.size))
    have C6 := Hid.mk' (cS.out x6 _ (.slice a b.length cap) (own_rd ho6) (HR.out.below HB6.out))
    obtain ⟨ua, uc, rfl, _⟩ := Nm.own_shape ho6
    clear ho6 hb6 hB5 CG cS
    go_wp2_with fail
    refine C6.out.mono ?_
    rintro e x7 ⟨rfl, hb7⟩
    have HB7 := Hid.mk' (HB6.out.trans (hb7.mono HB6.out.size))
    clear hb7
    go_wp2
    go_ret
    exact ⟨rfl, HB7.out⟩

theorem back_yes (R : Says) (e : Evt) (v : Value) (b : List UInt8) (w : World) (hr : e.rng) (hsc : 0 ≤ e.s.scopes ∧ e.s.scopes < 18446744073709551616) (hu1 : e.s.user.length ≤ 9223372036854775807) (hl1 : e.s.label.length ≤ 9223372036854775807) (hR : RdB w v b) (hbl : b.length ≤ 9223372036854775807) :
    Calls Try.prog 3 #[.agg e.arr, v] w fun x w' => x = .returned (.bool true) ∧ Below w.heap.size w w' := by
  by_cases hout : 65536 < b.length ∨ 65536 < e.s.user.length ∨ 65536 < e.s.label.length
  · exact back_early R e v b w hr hsc hu1 hl1 hR hbl hout
  · have hin : b.length ≤ 65536 ∧ e.s.user.length ≤ 65536 ∧ e.s.label.length ≤ 65536 := by omega
    by_cases hm : mayE e = true
    · exact back_may R e v b w hr hsc hu1 hl1 hR hbl hin hm
    · exact back_not R e v b w hr hsc hu1 hl1 hR hbl hin hm
end Ev
end Go.Proofs.Ytnllplholfhbdaa
