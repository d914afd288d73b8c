import Derived.Test.YtnllplholfhbdaaDoorPlainE
import Derived.Test.YtnllplholfhbdaaDoorBytE
import Derived.Test.YtnllplholfhbdaaDoorApartY
import Derived.Test.YtnllplholfhbdaaDoorListsY
/- EventEncodes. -/
namespace Go.Proofs.YtnllplholfhbdaaDoor
set_option linter.ambiguousOpen false
open Go.RowKit
namespace Ev
open Pk Sm Ft
set_option linter.unusedSimpArgs false
set_option linter.unusedVariables false

/-- Two rows in a list of lists, apart. -/
theorem two_rows {w : World} {base m : Nat} {a b : Value} {l : List UInt8} (ha : w.ownsRow base 5 1 a l.length (l.map by1)) (hb : w.ownsRow base 5 1 b l.length (l.map by1)) (hs : ∀ k, a.ownBlock = some k → k < m) (ht : ∀ k, b.ownBlock = some k → m ≤ k) (hle : base ≤ w.heap.size) :
    LsR (w.alloc (.cells #[a, b] 30)) base w.heap.size [a, b] (fun _ => l.length) (fun _ => l.map by1) ∧ ApartR w.heap.size [a, b] := by
  have hn := heap_alloc_new w (.cells #[a, b] 30)
  refine ⟨⟨fun i hi => ?_, fun i hi => ?_, by simp, by simp; omega⟩, ⟨fun i j hi hj hij => ?_, fun i hi => ?_⟩⟩
  · match i, hi with
    | 0, _ => exact ha.alloc _
    | 1, _ => exact hb.alloc _
  · match i, hi with
    | 0, _ => exact cell_at hn rfl
    | 1, _ => exact cell_at hn rfl
  · match i, j, hi, hj, hij with
    | 0, 1, _, _, _ => exact fun k hk hk' => by have := hs k hk; have := ht k hk'; omega
    | 1, 0, _, _, _ => exact fun k hk hk' => by have := hs k hk'; have := ht k hk; omega
    | 0, 0, _, _, h => exact absurd rfl h
    | 1, 1, _, _, h => exact absurd rfl h
  · match i, hi with
    | 0, _ => exact fun h => by have := (ha.lt _ h).2; omega
    | 1, _ => exact fun h => by have := (hb.lt _ h).2; omega

set_option maxRecDepth 100000 in
set_option maxHeartbeats 8000000 in
theorem encodes_yes (R : Says) (e : Evt) (w : World) (hr : e.rng) (hsc : 0 ≤ e.s.scopes ∧ e.s.scopes < 18446744073709551616) (hu1 : e.s.user.length ≤ 9223372036854775807) (hl1 : e.s.label.length ≤ 9223372036854775807) (hg : Er.Handle w) :
    Calls Tryd.prog 3 #[.agg e.arr] w fun x w' => x = .returned (.bool true) ∧ Below w.heap.size w w' := by
  have hb0 : Hid (Below w.heap.size w (w.alloc (.cells e.arr 29))) := (Below.refl _ _).alloc (Nat.le_refl _) _
  have hev : Hid ((w.alloc (.cells e.arr 29)).heap[w.heap.size]? = some (.cells e.arr 29)) := heap_alloc_new _ _
  by_cases hfit : e.fit
  case neg =>
    have hc : 65536 < e.s.user.length ∨ (e.s.user.length ≤ 65536 ∧ 65536 < e.s.label.length) := by
      rcases Nat.lt_or_ge 65536 e.s.user.length with h | h
      · exact .inl h
      · rcases Nat.lt_or_ge 65536 e.s.label.length with h2 | h2
        · exact .inr ⟨h, h2⟩
        · exact absurd ⟨h, h2, hsc⟩ hfit
    obtain ⟨ek, ⟨slot, birth, us, ub, kind, user, label, scopes, level, born, deadline, depth⟩, eb, et⟩ := e
    unfold Evt.arr at hb0 hev ⊢
    simp only at hb0 hev hc hu1 hl1 ⊢
    have z1 : (tx user).size = user.length := rfl
    have z2 : (tx label).size = label.length := rfl
    obtain ⟨fu, hfu⟩ : ∃ f, tx user = f := ⟨_, rfl⟩
    obtain ⟨fl, hfl⟩ : ∃ f, tx label = f := ⟨_, rfl⟩
    simp only [hfu, hfl] at hb0 hev z1 z2 ⊢
    clear hfu hfl hfit hr hsc
    rcases hc with hc | ⟨hc1, hc2⟩
    · have hc' : (65536 : Int) < (user.length : Int) := by omega
      go_enter Tryd.func3, Tryd.ntmps3
      go_wp2
      go_ret
      exact ⟨rfl, hb0.out⟩
    · have hc1' : ¬ (65536 : Int) < (user.length : Int) := by omega
      have hc2' : (65536 : Int) < (label.length : Int) := by omega
      go_enter Tryd.func3, Tryd.ntmps3
      go_wp2
      go_ret
      exact ⟨rfl, hb0.out⟩
  have q1 : ¬ (65536 : Int) < (e.s.user.length : Int) := by have := hfit.1; omega
  have q2 : ¬ (65536 : Int) < (e.s.label.length : Int) := by have := hfit.2.1; omega
  obtain ⟨n, hn⟩ : ∃ n : Nat, (if mayE e = true then 0 else 1) = n := ⟨_, rfl⟩
  have hn24 : n ≤ 24 := by rw [← hn]; split <;> decide
  have hni : (if mayE e = true then (0 : Int) else 1) = (n : Int) := by rw [← hn]; split <;> rfl
  have cR : Hid (∀ wx, Calls Tryd.prog 7 #[.agg e.arr] wx fun x w' => ∃ v, x = .returned (.tuple #[v, nu (n : Int)]) ∧ w'.ownsRow wx.heap.size 5 1 v (bytesE e).length ((bytesE e).map by1) ∧ Below wx.heap.size wx w') := fun wx => by
    have := encode_ref e wx hfit
    rw [hni] at this
    exact this
  have cE : Hid (∀ wx, Calls Tryd.prog 8 #[.agg e.arr] wx fun x w' => ∃ v, x = .returned (.tuple #[v, errE n]) ∧ w'.ownsRow wx.heap.size 5 1 v (bytesE e).length ((bytesE e).map by1) ∧ Below wx.heap.size wx w') := fun wx => by
    have := R.encode wx e hfit hr
    rw [hn] at this
    exact this
  have hbl := bytes_len e hsc
  obtain ⟨L, hL⟩ : ∃ L, bytesE e = L := ⟨_, rfl⟩
  rw [hL] at cR cE hbl
  have c4 : Hid (∀ wx, Er.Handle wx → Calls Tryd.prog 9 #[errE n, nu (n : Int)] wx fun e w' => e = .returned (.bool true) ∧ Below wx.heap.size wx w') := fun wx h => plainV _ hn24 wx h
  have c5 : Hid (∀ wx v1 v2, RdB wx v1 L → RdB wx v2 L → Calls Tryd.prog 10 #[v1, v2] wx fun e w' => e = .returned (.bool true) ∧ Below wx.heap.size wx w') := fun wx v1 v2 h1 h2 => sameB_eq v1 v2 L wx h1 h2
  have HG := Hid.mk' hg
  have HLB := Hid.mk' hbl
  obtain ⟨er, her⟩ : ∃ er, errE n = er := ⟨_, rfl⟩
  rw [her] at cE c4
  have hsh : er = .nilIface ∨ ∃ t v, er = .iface t v := by
    rw [← her]
    cases n with
    | zero => exact .inl rfl
    | succ n => exact .inr ⟨_, _, rfl⟩
  clear her hL hn hni hn24 hfit hr hg hbl hsc hu1 hl1
  obtain ⟨ek, ⟨slot, birth, us, ub, kind, user, label, scopes, level, born, deadline, depth⟩, eb, et⟩ := e
  unfold Evt.arr at hb0 hev cR cE ⊢
  simp only at hb0 hev cR cE q1 q2 ⊢
  have z1 : (tx user).size = user.length := rfl
  have z2 : (tx label).size = label.length := rfl
  obtain ⟨fu, hfu⟩ : ∃ f, tx user = f := ⟨_, rfl⟩
  obtain ⟨fl, hfl⟩ : ∃ f, tx label = f := ⟨_, rfl⟩
  simp only [hfu, hfl] at hb0 hev z1 z2 cR cE ⊢
  clear hfu hfl
  go_enter Tryd.func3, Tryd.ntmps3
  go_wp2_with fail
  refine (cR.out _).mono ?_
  rintro e x1 ⟨r1, rfl, ho1, hb1⟩
  have he1 := (hb1.block _ (Array.getElem?_eq_some_iff.1 hev.out).1).trans hev.out
  have m0 := cell_at (j := 0) he1 rfl
  have m1 := cell_at (j := 1) he1 rfl
  have m2 := cell_at (j := 2) he1 rfl
  have m3 := cell_at (j := 3) he1 rfl
  have m4 := cell_at (j := 4) he1 rfl
  have m5 := cell_at (j := 5) he1 rfl
  have m6 := cell_at (j := 6) he1 rfl
  have m7 := cell_at (j := 7) he1 rfl
  have m8 := cell_at (j := 8) he1 rfl
  have m9 := cell_at (j := 9) he1 rfl
  have m10 := cell_at (j := 10) he1 rfl
  have m11 := cell_at (j := 11) he1 rfl
  have m12 := cell_at (j := 12) he1 rfl
  have m13 := cell_at (j := 13) he1 rfl
  have m14 := cell_at (j := 14) he1 rfl
  have HE1 := Hid.mk' he1
  have HB1 := Hid.mk' (hb0.out.trans (hb1.mono hb0.out.size))
  have HO1 := Hid.mk' (own_mono ho1 hb0.out.size)
  have HG1 := Hid.mk' (HG.out.below HB1.out)
  obtain ⟨ra, rc, rfl, _⟩ := Nm.own_shape ho1
  clear ho1 hb1 he1 hev hb0 HG cR
  go_wp2_with fail
  refine (cE.out _).mono ?_
  rintro e x2 ⟨r2, rfl, ho2, hb2⟩
  clear m0 m1 m2 m3 m4 m5 m6 m7 m8 m9 m10 m11 m12 m13 m14
  have he2 := (hb2.block _ (Array.getElem?_eq_some_iff.1 HE1.out).1).trans HE1.out
  have m0 := cell_at (j := 0) he2 rfl
  have m1 := cell_at (j := 1) he2 rfl
  have m2 := cell_at (j := 2) he2 rfl
  have m3 := cell_at (j := 3) he2 rfl
  have m4 := cell_at (j := 4) he2 rfl
  have m5 := cell_at (j := 5) he2 rfl
  have m6 := cell_at (j := 6) he2 rfl
  have m7 := cell_at (j := 7) he2 rfl
  have m8 := cell_at (j := 8) he2 rfl
  have m9 := cell_at (j := 9) he2 rfl
  have m10 := cell_at (j := 10) he2 rfl
  have m11 := cell_at (j := 11) he2 rfl
  have m12 := cell_at (j := 12) he2 rfl
  have m13 := cell_at (j := 13) he2 rfl
  have m14 := cell_at (j := 14) he2 rfl
  have HB2 := Hid.mk' (HB1.out.trans (hb2.mono HB1.out.size))
  have HO2 := Hid.mk' (own_keptB HO1.out hb2)
  have HA2 := Hid.mk' (own_mono ho2 HB1.out.size)
  have HS2 : Hid (∀ k, r2.ownBlock = some k → k < x2.heap.size) := fun k hk => (ho2.lt k hk).2
  have HG2 := Hid.mk' (HG1.out.below hb2)
  obtain ⟨sa, sc, rfl, _⟩ := Nm.own_shape ho2
  clear ho2 hb2 he2 HE1 HB1 HO1 HG1
  go_wp2_with fail
  refine (cE.out _).mono ?_
  rintro e x3 ⟨r3, rfl, ho3, hb3⟩
  clear m0 m1 m2 m3 m4 m5 m6 m7 m8 m9 m10 m11 m12 m13 m14
  have HB3 := Hid.mk' (HB2.out.trans (hb3.mono HB2.out.size))
  have HO3 := Hid.mk' (own_keptB HO2.out hb3)
  have HA3 := Hid.mk' (own_keptB HA2.out hb3)
  have HT3 : Hid (∀ k, r3.ownBlock = some k → x2.heap.size ≤ k) := fun k hk => (ho3.lt k hk).1
  have HC3 := Hid.mk' (own_mono ho3 HB2.out.size)
  have HG3 := Hid.mk' (HG2.out.below hb3)
  obtain ⟨ta, tc, rfl, _⟩ := Nm.own_shape ho3
  clear ho3 hb3 HB2 HO2 HA2 HG2 cE
  rcases hsh with rfl | ⟨et1, ev1, rfl⟩ <;> (
    go_wp2_with fail
    refine (c4.out _ HG3.out).mono ?_
    rintro e x4 ⟨rfl, hb4⟩
    have HG4 := Hid.mk' (HG3.out.below hb4)
    have HB4 := Hid.mk' (HB3.out.trans (hb4.mono HB3.out.size))
    have HO4 := Hid.mk' (own_keptB HO3.out hb4)
    have HA4 := Hid.mk' (own_keptB HA3.out hb4)
    have HC4 := Hid.mk' (own_keptB HC3.out hb4)
    clear hb4 HG3 HB3 HO3 HA3 HC3
    go_wp2_with fail
    refine (c4.out _ HG4.out).mono ?_
    rintro e x5 ⟨rfl, hb5⟩
    have HB5 := Hid.mk' (HB4.out.trans (hb5.mono HB4.out.size))
    have HO5 := Hid.mk' (own_keptB HO4.out hb5)
    have HA5 := Hid.mk' (own_keptB HA4.out hb5)
    have HC5 := Hid.mk' (own_keptB HC4.out hb5)
    clear hb5 HG4 HB4 HO4 HA4 HC4 c4
    go_wp2_with fail
    refine (c5.out _ _ _ (own_rd HA5.out) (own_rd HO5.out)).mono ?_
    rintro e x6 ⟨rfl, hb6⟩
    have HB6 := Hid.mk' (HB5.out.trans (hb6.mono HB5.out.size))
    have HO6 := Hid.mk' (own_keptB HO5.out hb6)
    have HA6 := Hid.mk' (own_keptB HA5.out hb6)
    have HC6 := Hid.mk' (own_keptB HC5.out hb6)
    clear hb6 HB5 HO5 HA5 HC5
    go_wp2_with fail
    refine (c5.out _ _ _ (own_rd HC6.out) (own_rd HO6.out)).mono ?_
    rintro e x7 ⟨rfl, hb7⟩
    have HB7 := Hid.mk' (HB6.out.trans (hb7.mono HB6.out.size))
    have HA7 := Hid.mk' (own_keptB HA6.out hb7)
    have HC7 := Hid.mk' (own_keptB HC6.out hb7)
    clear hb7 HB6 HO6 HA6 HC6 c5
    have c6 : Hid (Calls Tryd.prog 11 #[.slice (some ⟨x7.heap.size, 0, none⟩) 2 2] (x7.alloc (.cells #[.slice sa L.length sc, .slice ta L.length tc] 30)) fun e w' => e = .returned (.bool true) ∧ Below w.heap.size w w') := by
      obtain ⟨hl, ha⟩ := two_rows HA7.out HC7.out HS2.out HT3.out HB7.out.size
      refine (apartY_l _ _ _ _ 2 _ _ hl ha (by simp) (fun _ => by have := HLB.out; show L.length < 1000000000; omega) (by simp) (by decide)).mono ?_
      rintro e w' ⟨rfl, hk, _⟩
      refine ⟨rfl, (HB7.out.alloc HB7.out.size _).trans (hk.below (fun k hk2 hw => ?_) (by simp; have := HB7.out.size; omega))⟩
      obtain ⟨l, hll, hlo⟩ := hw
      have := (hl.own l hll).lt k hlo
      omega
    go_wp2_with fail
    refine c6.out.mono ?_
    rintro e x8 ⟨rfl, hb8⟩
    have HB8 := Hid.mk' hb8
    clear hb8
    go_wp2
    go_ret
    exact ⟨rfl, HB8.out⟩)
end Ev
end Go.Proofs.YtnllplholfhbdaaDoor
