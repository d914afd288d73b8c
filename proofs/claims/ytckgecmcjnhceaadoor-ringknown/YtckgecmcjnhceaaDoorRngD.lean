/- One call of a ring, here and there. -/
import Derived.Test.YtckgecmcjnhceaaDoorRngA
namespace Go.Proofs.YtckgecmcjnhceaaDoor
set_option linter.ambiguousOpen false
open Go.RowKit
namespace Rg
open An Ft Lv
set_option linter.unusedSimpArgs false
set_option linter.unusedVariables false

theorem ret_nu {a b : Int} (h : a = b) : Ending.returned (nu a) = Ending.returned (nu b) := by rw [h]

set_option maxRecDepth 100000 in
theorem pick_any (k : Int) (n : Nat) (w : World) (hn : 0 < n) (hn2 : n ≤ 4611686018427387904) (hk : -9223372036854775808 ≤ k ∧ k ≤ 9223372036854775807) :
    Calls Tryd.prog 7 #[nu k, nun n] w fun e w' => e = .returned (nu (k % n)) ∧ w' = w := by
  have d1 : (decide ((n : Int) < 1)) = false := by simp; omega
  have e1 := Int.emod_add_mul_ediv k n
  have e2 := Int.emod_nonneg k (b := (n : Int)) (by omega)
  have e3 := Int.emod_lt_of_pos k (b := (n : Int)) (by omega)
  have te : k.tmod n = k % (n : Int) ∨ k.tmod n = k % (n : Int) - n := by
    rw [Int.tmod_eq_emod]
    split
    · left; omega
    · right; simp
  clear e1
  by_cases h : k.tmod n < 0
  · have HT : Hid (k.tmod n + n = k % (n : Int)) := by
      show _ = _
      omega
    have b1 : -(n : Int) ≤ k.tmod n := by omega
    clear te e2 e3
    go_enter Tryd.func7, Tryd.ntmps7
    go_wp2
    go_ret
    exact ⟨ret_nu HT.out, rfl⟩
  · have HT : Hid (k.tmod n = k % (n : Int)) := by
      show _ = _
      omega
    clear te e2 e3
    go_enter Tryd.func7, Tryd.ntmps7
    go_wp2
    go_ret
    exact ⟨ret_nu HT.out, rfl⟩

/-- From the world wb on: the program's arena and the document's hold the same, and what of the memory may have turned since. -/
structure Tw (Rep : World → Nat → (Nat → Prop) → Arn → Prop) (base : Nat) (w0 wb w : World) (p g : Nat) (F0 G0 : Nat → Prop) (A1 A2 : Arn) : Prop where
  dn : ∃ F G, Dn Rep (RepA base) w0 wb w p g F0 G0 F G A1 A2
  sl : A1.sl = A2.sl
  fr : A1.fr = A2.fr

theorem keepA (base : Nat) : KeepC (RepA base) := ⟨fun h hk hn => h.keep hk hn, fun h k hk => (h.lt k hk).2⟩

theorem Dn.from {Rep RepR : World → Nat → (Nat → Prop) → Arn → Prop} {w0 wb w w' : World} {p g : Nat} {F0 G0 F G : Nat → Prop} {A1 A2 : Arn} (h : Dn Rep RepR w0 wb w' p g F0 G0 F G A1 A2) (hb : Below w.heap.size w wb) : Dn Rep RepR w0 w w' p g F0 G0 F G A1 A2 :=
  ⟨h.pr, (Keep.of_below (F := fun j => F0 j ∨ G0 j) hb).trans h.kp (fun _ _ e => e), fun k hk => (h.gf k hk).imp id (fun e => Nat.le_trans hb.size e), fun k hk => (h.gg k hk).imp id (fun e => Nat.le_trans hb.size e)⟩

set_option maxRecDepth 100000 in
set_option maxHeartbeats 4000000 in
theorem does_drop {Rep : World → Nat → (Nat → Prop) → Arn → Prop} (H : KeepC Rep) (CC : DropC Rep) (CW : WritesC Rep) (base : Nat) (w0 w : World) (p g : Nat) (F G : Nat → Prop) (A1 A2 : Arn) (k i kk j : Int) (hP : Pr Rep (RepA base) w0 w p g F G A1 A2) (hsl : A1.sl = A2.sl) (hfr : A1.fr = A2.fr) (hwr : A1.wr ≤ 999999990) (hE : Er.Handle w0) (hk : I64 k) (hi : I64 i) (hkk : I64 kk) (hm : k % 6 = 2) :
    Calls Tryd.prog 13 #[ptr p, ptr g, .agg #[nu k, nu i, nu kk, nu j]] w fun e w' => e = .returned (.bool true) ∧ ∃ A1' A2', A1'.wr ≤ A1.wr + 4 ∧ Tw Rep base w0 w w' p g F G A1' A2' := by
  have HR := keepA base
  have hgd := hP.good1
  have HFW : Hid (∀ b, F b ∨ G b → b < w.heap.size) := fun b hb => hb.elim (H.lt hP.rep b) (HR.lt hP.ref b)
  obtain ⟨W0, hW0⟩ : ∃ W0, w.alloc (.cells #[nu k, nu i, nu kk, nu j] 28) = W0 := ⟨_, rfl⟩
  have hA0 : W0.heap[w.heap.size]? = some (.cells #[nu k, nu i, nu kk, nu j] 28) := by rw [← hW0]; exact heap_alloc_new _ _
  have hs0 : W0.heap.size = w.heap.size + 1 := by rw [← hW0]; simp
  have hB0 : Below w.heap.size w W0 := by rw [← hW0]; exact (Below.refl _ _).alloc (Nat.le_refl _) _
  have HW0 := Hid.mk' hW0
  have AC : Hid (∀ wx : World, wx.heap[w.heap.size]? = some (.cells #[nu k, nu i, nu kk, nu j] 28) → wx.cell? ⟨w.heap.size, 0, none⟩ = some (nu k) ∧ wx.cell? ⟨w.heap.size, 1, none⟩ = some (nu i) ∧ wx.cell? ⟨w.heap.size, 2, none⟩ = some (nu kk)) := fun wx hx => by simp [World.cell?, hx]
  have hP0 := (Dn.start hP).below H HR hB0
  have c0 := Hid.mk' (CW W0 p F A1 hP0.pr.rep (by omega))
  obtain ⟨m, hmm⟩ : ∃ m, k % 6 = m := ⟨_, rfl⟩
  have c1 : Hid (∀ wx, Calls Tryd.prog 7 #[nu k, nu 6] wx fun e w' => e = .returned (nu m) ∧ w' = wx) := fun wx => by rw [← hmm]; exact pick_any k 6 wx (by decide) (by decide) hk
  rw [hmm] at hm
  obtain ⟨X, hX⟩ : ∃ X, drop A1.sl kk i = X := ⟨_, rfl⟩
  have hno := drop_no A1.sl kk i
  have hlen := drop_len A1.sl kk i
  rw [hX] at hno hlen
  have C2 : Hid (∀ wx, Below W0.heap.size W0 wx → Calls Tryd.prog 27 #[ptr p, nu kk, nu i] wx fun e w' => e = .returned (.tuple #[nu X.ans, errP X.no X.pl]) ∧ w'.heap[w.heap.size]? = some (.cells #[nu k, nu i, nu kk, nu j] 28) ∧ Hid (∃ n F', n ≤ 3 ∧ (X.no ≠ 0 → n = 0) ∧ Dn Rep (RepA base) w0 w w' p g F G F' G ⟨X.sl, A1.fr, A1.wr + n⟩ A2)) := fun wx hb => by
    have hPx := hP0.below H HR hb
    have := CC wx p F A1 kk i hPx.pr.rep hPx.pr.good1 hwr hkk hi
    rw [hX] at this
    refine this.mono ?_
    rintro e w' ⟨rfl, n, hn1, hn2, F', h1, h2, h3⟩
    have hsx := hb.size
    obtain ⟨F2, hD2⟩ := hPx.turn1 HR ⟨F', h1, h2, h3⟩ (good_sl hgd hlen)
    exact ⟨rfl, (h2.block _ (by omega) (fun e => by have := HFW.out _ (.inl e); omega)).trans ((hb.block _ (by omega)).trans hA0), n, F2, hn1, hn2, hD2⟩
  have C3 : Hid (∀ wx n F', Dn Rep (RepA base) w0 w wx p g F G F' G ⟨X.sl, A1.fr, A1.wr + n⟩ A2 → Calls Tryd.prog 28 #[ptr g, nu kk, nu i] wx fun e w' => e = .returned (.tuple #[nu X.ans, nun X.no, nu X.pl]) ∧ ∃ G', Dn Rep (RepA base) w0 w w' p g F G F' G' ⟨X.sl, A1.fr, A1.wr + n⟩ ⟨X.sl, A2.fr, A2.wr⟩) := fun wx n F' hp => by
    have := drop_r base wx g G A2 kk i hp.pr.ref (by rw [← hsl]; exact hgd.len)
    rw [← hsl, hX] at this
    refine this.mono ?_
    rintro e w' ⟨rfl, hl⟩
    exact ⟨rfl, hp.turn2 H hl (good_sl hp.pr.good2 (by rw [hlen, hsl]))⟩
  have C4 : Hid (∀ wx, Below w0.heap.size w0 wx → Calls Tryd.prog 33 #[errP X.no X.pl, nun X.no, nu X.pl] wx fun e w' => e = .returned (.bool true) ∧ Below wx.heap.size wx w') := fun wx hb => told_any X.no X.pl hno.1 hno.2 wx (hE.below hb)
  have C5 : Hid (∀ wx n F' G', n ≤ 3 → Dn Rep (RepA base) w0 w wx p g F G F' G' ⟨X.sl, A1.fr, A1.wr + n⟩ ⟨X.sl, A2.fr, A2.wr⟩ → Calls Tryd.prog 26 #[ptr p] wx fun e w' => e = .returned (nun (A1.wr + n)) ∧ Below wx.heap.size wx w') := fun wx n F' G' hn hp => CW wx p F' _ hp.pr.rep (by show A1.wr + n ≤ _; omega)
  have HFIN : Hid (∀ wx n F' G', n ≤ 3 → Dn Rep (RepA base) w0 w wx p g F G F' G' ⟨X.sl, A1.fr, A1.wr + n⟩ ⟨X.sl, A2.fr, A2.wr⟩ → ∃ A1' A2', A1'.wr ≤ A1.wr + 4 ∧ Tw Rep base w0 w wx p g F G A1' A2') := fun wx n F' G' hn hp => ⟨_, _, by show A1.wr + n ≤ _; omega, ⟨F', G', hp⟩, rfl, hfr⟩
  have HH := Hid.mk' H
  have HKR := Hid.mk' HR
  generalize errP X.no X.pl = ev at *
  generalize X.ans = an at *
  generalize X.pl = pl at *
  generalize X.no = c at *
  clear H HR hP hP0 CC CW hW0 hgd hsl hfr hno hlen hX hmm hE hk hi hkk HFW
  have aw : (A1.wr : Int) ≤ 999999990 := by omega
  obtain ⟨aW, haW⟩ : ∃ aW, A1.wr = aW := ⟨_, rfl⟩
  rw [haW] at c0 aw
  have HAW := Hid.mk' haW
  clear haW hwr
  obtain ⟨z1, z2, z3⟩ := AC.out W0 hA0
  go_enter Tryd.func13, Tryd.ntmps13
  go_wp2_with fail
  rw [HW0.out]
  refine c0.out.mono ?_
  rintro e w1 ⟨rfl, hb1⟩
  have hA1 : w1.heap[w.heap.size]? = some (.cells #[nu k, nu i, nu kk, nu j] 28) := (hb1.block _ (by omega)).trans hA0
  obtain ⟨y1, y2, y3⟩ := AC.out w1 hA1
  have HB1 := Hid.mk' hb1
  clear hb1 c0 hA0 hA1 z1 z2 z3
  go_wp2_with fail
  refine (c1.out _).mono ?_
  rintro e w9 ⟨rfl, hw9⟩
  subst w9
  have hm2 : (m == 2) = true := by simpa using hm
  clear hm
  go_wp2_with fail
  refine (C2.out w1 HB1.out).mono ?_
  rintro e w2 ⟨rfl, hA2, hQ2⟩
  obtain ⟨n, F', hn1, hn2, hP2⟩ := hQ2.out
  obtain ⟨x1, x2, x3⟩ := AC.out w2 hA2
  have C3' := Hid.mk' (C3.out w2 n F' hP2)
  clear hA2 hQ2 hP2 C2 C3 y1 y2 y3
  go_wp2_with fail
  refine C3'.out.mono ?_
  rintro e w3 ⟨rfl, G', hP3⟩
  have HP3 := Hid.mk' hP3
  have C4' := Hid.mk' (C4.out w3 hP3.pr.bel)
  clear hP3 C3' C4 x1 x2 x3
  have haa : (an == an) = true := by simp
  obtain ⟨bW, hbW⟩ : ∃ bW, A1.wr + n = bW := ⟨_, rfl⟩
  have hbI : (bW : Int) ≤ 1000000000 := by have := HAW.out; omega
  have C5' : Hid (∀ wx, Below w3.heap.size w3 wx → Calls Tryd.prog 26 #[ptr p] wx fun e w' => e = .returned (nun bW) ∧ Hid (∃ A1' A2', A1'.wr ≤ A1.wr + 4 ∧ Tw Rep base w0 w w' p g F G A1' A2')) := fun wx hb => by
    have hp := HP3.out.below HH.out HKR.out hb
    have := C5.out wx n F' G' hn1 hp
    rw [hbW] at this
    refine this.mono ?_
    rintro e w' ⟨rfl, hb'⟩
    exact ⟨rfl, HFIN.out w' n F' G' hn1 (hp.below HH.out HKR.out hb')⟩
  by_cases hc : c = 0
  · have hcb : ((c : Int) != 0) = false := by simp [hc]
    have hd : (bW : Int) - (aW : Int) ≤ 3 := by have := HAW.out; omega
    clear hc hn2 C5 HFIN hbW hn1
    go_wp2_with fail
    refine C4'.out.mono ?_
    rintro e w4 ⟨rfl, hb4⟩
    have C6 := Hid.mk' (C5'.out w4 hb4)
    clear hb4 C4' C5'
    go_wp2_with fail
    refine C6.out.mono ?_
    rintro e w5 ⟨rfl, hQ5⟩
    go_wp2
    go_ret
    exact ⟨rfl, hQ5.out⟩
  · have hcb : ((c : Int) != 0) = true := by simp [hc]
    have hd : (bW : Int) - (aW : Int) ≤ 0 := by have := HAW.out; have := hn2 hc; omega
    clear hc hn2 C5 HFIN hbW hn1
    go_wp2_with fail
    refine C4'.out.mono ?_
    rintro e w4 ⟨rfl, hb4⟩
    have C6 := Hid.mk' (C5'.out w4 hb4)
    clear hb4 C4' C5'
    go_wp2_with fail
    refine C6.out.mono ?_
    rintro e w5 ⟨rfl, hQ5⟩
    go_wp2
    go_ret
    exact ⟨rfl, hQ5.out⟩

set_option maxRecDepth 100000 in
set_option maxHeartbeats 4000000 in
theorem does_splice {Rep : World → Nat → (Nat → Prop) → Arn → Prop} (H : KeepC Rep) (CC : SpliceC Rep) (CW : WritesC Rep) (base : Nat) (w0 w : World) (p g : Nat) (F G : Nat → Prop) (A1 A2 : Arn) (k i kk j : Int) (hP : Pr Rep (RepA base) w0 w p g F G A1 A2) (hsl : A1.sl = A2.sl) (hfr : A1.fr = A2.fr) (hwr : A1.wr ≤ 999999990) (hE : Er.Handle w0) (hk : I64 k) (hi : I64 i) (hkk : I64 kk) (hm : k % 6 = 3) :
    Calls Tryd.prog 13 #[ptr p, ptr g, .agg #[nu k, nu i, nu kk, nu j]] w fun e w' => e = .returned (.bool true) ∧ ∃ A1' A2', A1'.wr ≤ A1.wr + 4 ∧ Tw Rep base w0 w w' p g F G A1' A2' := by
  have HR := keepA base
  have hgd := hP.good1
  have HFW : Hid (∀ b, F b ∨ G b → b < w.heap.size) := fun b hb => hb.elim (H.lt hP.rep b) (HR.lt hP.ref b)
  obtain ⟨W0, hW0⟩ : ∃ W0, w.alloc (.cells #[nu k, nu i, nu kk, nu j] 28) = W0 := ⟨_, rfl⟩
  have hA0 : W0.heap[w.heap.size]? = some (.cells #[nu k, nu i, nu kk, nu j] 28) := by rw [← hW0]; exact heap_alloc_new _ _
  have hs0 : W0.heap.size = w.heap.size + 1 := by rw [← hW0]; simp
  have hB0 : Below w.heap.size w W0 := by rw [← hW0]; exact (Below.refl _ _).alloc (Nat.le_refl _) _
  have HW0 := Hid.mk' hW0
  have AC : Hid (∀ wx : World, wx.heap[w.heap.size]? = some (.cells #[nu k, nu i, nu kk, nu j] 28) → wx.cell? ⟨w.heap.size, 0, none⟩ = some (nu k) ∧ wx.cell? ⟨w.heap.size, 1, none⟩ = some (nu i) ∧ wx.cell? ⟨w.heap.size, 2, none⟩ = some (nu kk)) := fun wx hx => by simp [World.cell?, hx]
  have hP0 := (Dn.start hP).below H HR hB0
  have c0 := Hid.mk' (CW W0 p F A1 hP0.pr.rep (by omega))
  obtain ⟨m, hmm⟩ : ∃ m, k % 6 = m := ⟨_, rfl⟩
  have c1 : Hid (∀ wx, Calls Tryd.prog 7 #[nu k, nu 6] wx fun e w' => e = .returned (nu m) ∧ w' = wx) := fun wx => by rw [← hmm]; exact pick_any k 6 wx (by decide) (by decide) hk
  rw [hmm] at hm
  obtain ⟨X, hX⟩ : ∃ X, splice A1.sl i kk = X := ⟨_, rfl⟩
  have hno := splice_no A1.sl i kk
  have hlen := splice_len A1.sl i kk
  rw [hX] at hno hlen
  have C2 : Hid (∀ wx, Below W0.heap.size W0 wx → Calls Tryd.prog 29 #[ptr p, nu i, nu kk] wx fun e w' => e = .returned (.tuple #[nu X.ans, errP X.no X.pl]) ∧ w'.heap[w.heap.size]? = some (.cells #[nu k, nu i, nu kk, nu j] 28) ∧ Hid (∃ n F', n ≤ 4 ∧ (X.no ≠ 0 → n = 0) ∧ Dn Rep (RepA base) w0 w w' p g F G F' G ⟨X.sl, A1.fr, A1.wr + n⟩ A2)) := fun wx hb => by
    have hPx := hP0.below H HR hb
    have := CC wx p F A1 i kk hPx.pr.rep hPx.pr.good1 hwr hi hkk
    rw [hX] at this
    refine this.mono ?_
    rintro e w' ⟨rfl, n, hn1, hn2, F', h1, h2, h3⟩
    have hsx := hb.size
    obtain ⟨F2, hD2⟩ := hPx.turn1 HR ⟨F', h1, h2, h3⟩ (good_sl hgd hlen)
    exact ⟨rfl, (h2.block _ (by omega) (fun e => by have := HFW.out _ (.inl e); omega)).trans ((hb.block _ (by omega)).trans hA0), n, F2, hn1, hn2, hD2⟩
  have C3 : Hid (∀ wx n F', Dn Rep (RepA base) w0 w wx p g F G F' G ⟨X.sl, A1.fr, A1.wr + n⟩ A2 → Calls Tryd.prog 30 #[ptr g, nu i, nu kk] wx fun e w' => e = .returned (.tuple #[nu X.ans, nun X.no, nu X.pl]) ∧ ∃ G', Dn Rep (RepA base) w0 w w' p g F G F' G' ⟨X.sl, A1.fr, A1.wr + n⟩ ⟨X.sl, A2.fr, A2.wr⟩) := fun wx n F' hp => by
    have := splice_r base wx g G A2 i kk hp.pr.ref (by rw [← hsl]; exact hgd.len)
    rw [← hsl, hX] at this
    refine this.mono ?_
    rintro e w' ⟨rfl, hl⟩
    exact ⟨rfl, hp.turn2 H hl (good_sl hp.pr.good2 (by rw [hlen, hsl]))⟩
  have C4 : Hid (∀ wx, Below w0.heap.size w0 wx → Calls Tryd.prog 33 #[errP X.no X.pl, nun X.no, nu X.pl] wx fun e w' => e = .returned (.bool true) ∧ Below wx.heap.size wx w') := fun wx hb => told_any X.no X.pl hno.1 hno.2 wx (hE.below hb)
  have C5 : Hid (∀ wx n F' G', n ≤ 4 → Dn Rep (RepA base) w0 w wx p g F G F' G' ⟨X.sl, A1.fr, A1.wr + n⟩ ⟨X.sl, A2.fr, A2.wr⟩ → Calls Tryd.prog 26 #[ptr p] wx fun e w' => e = .returned (nun (A1.wr + n)) ∧ Below wx.heap.size wx w') := fun wx n F' G' hn hp => CW wx p F' _ hp.pr.rep (by show A1.wr + n ≤ _; omega)
  have HFIN : Hid (∀ wx n F' G', n ≤ 4 → Dn Rep (RepA base) w0 w wx p g F G F' G' ⟨X.sl, A1.fr, A1.wr + n⟩ ⟨X.sl, A2.fr, A2.wr⟩ → ∃ A1' A2', A1'.wr ≤ A1.wr + 4 ∧ Tw Rep base w0 w wx p g F G A1' A2') := fun wx n F' G' hn hp => ⟨_, _, by show A1.wr + n ≤ _; omega, ⟨F', G', hp⟩, rfl, hfr⟩
  have HH := Hid.mk' H
  have HKR := Hid.mk' HR
  generalize errP X.no X.pl = ev at *
  generalize X.ans = an at *
  generalize X.pl = pl at *
  generalize X.no = c at *
  clear H HR hP hP0 CC CW hW0 hgd hsl hfr hno hlen hX hmm hE hk hi hkk HFW
  have aw : (A1.wr : Int) ≤ 999999990 := by omega
  obtain ⟨aW, haW⟩ : ∃ aW, A1.wr = aW := ⟨_, rfl⟩
  rw [haW] at c0 aw
  have HAW := Hid.mk' haW
  clear haW hwr
  obtain ⟨z1, z2, z3⟩ := AC.out W0 hA0
  go_enter Tryd.func13, Tryd.ntmps13
  go_wp2_with fail
  rw [HW0.out]
  refine c0.out.mono ?_
  rintro e w1 ⟨rfl, hb1⟩
  have hA1 : w1.heap[w.heap.size]? = some (.cells #[nu k, nu i, nu kk, nu j] 28) := (hb1.block _ (by omega)).trans hA0
  obtain ⟨y1, y2, y3⟩ := AC.out w1 hA1
  have HB1 := Hid.mk' hb1
  clear hb1 c0 hA0 hA1 z1 z2 z3
  go_wp2_with fail
  refine (c1.out _).mono ?_
  rintro e w9 ⟨rfl, hw9⟩
  subst w9
  have hm2 : (m == 2) = false := by simp; omega
  have hm3 : (m == 3) = true := by simpa using hm
  clear hm
  go_wp2_with fail
  refine (C2.out w1 HB1.out).mono ?_
  rintro e w2 ⟨rfl, hA2, hQ2⟩
  obtain ⟨n, F', hn1, hn2, hP2⟩ := hQ2.out
  obtain ⟨x1, x2, x3⟩ := AC.out w2 hA2
  have C3' := Hid.mk' (C3.out w2 n F' hP2)
  clear hA2 hQ2 hP2 C2 C3 y1 y2 y3
  go_wp2_with fail
  refine C3'.out.mono ?_
  rintro e w3 ⟨rfl, G', hP3⟩
  have HP3 := Hid.mk' hP3
  have C4' := Hid.mk' (C4.out w3 hP3.pr.bel)
  clear hP3 C3' C4 x1 x2 x3
  have haa : (an == an) = true := by simp
  obtain ⟨bW, hbW⟩ : ∃ bW, A1.wr + n = bW := ⟨_, rfl⟩
  have hbI : (bW : Int) ≤ 1000000000 := by have := HAW.out; omega
  have C5' : Hid (∀ wx, Below w3.heap.size w3 wx → Calls Tryd.prog 26 #[ptr p] wx fun e w' => e = .returned (nun bW) ∧ Hid (∃ A1' A2', A1'.wr ≤ A1.wr + 4 ∧ Tw Rep base w0 w w' p g F G A1' A2')) := fun wx hb => by
    have hp := HP3.out.below HH.out HKR.out hb
    have := C5.out wx n F' G' hn1 hp
    rw [hbW] at this
    refine this.mono ?_
    rintro e w' ⟨rfl, hb'⟩
    exact ⟨rfl, HFIN.out w' n F' G' hn1 (hp.below HH.out HKR.out hb')⟩
  by_cases hc : c = 0
  · have hcb : ((c : Int) != 0) = false := by simp [hc]
    have hd : (bW : Int) - (aW : Int) ≤ 4 := by have := HAW.out; omega
    clear hc hn2 C5 HFIN hbW hn1
    go_wp2_with fail
    refine C4'.out.mono ?_
    rintro e w4 ⟨rfl, hb4⟩
    have C6 := Hid.mk' (C5'.out w4 hb4)
    clear hb4 C4' C5'
    go_wp2_with fail
    refine C6.out.mono ?_
    rintro e w5 ⟨rfl, hQ5⟩
    go_wp2
    go_ret
    exact ⟨rfl, hQ5.out⟩
  · have hcb : ((c : Int) != 0) = true := by simp [hc]
    have hd : (bW : Int) - (aW : Int) ≤ 0 := by have := HAW.out; have := hn2 hc; omega
    clear hc hn2 C5 HFIN hbW hn1
    go_wp2_with fail
    refine C4'.out.mono ?_
    rintro e w4 ⟨rfl, hb4⟩
    have C6 := Hid.mk' (C5'.out w4 hb4)
    clear hb4 C4' C5'
    go_wp2_with fail
    refine C6.out.mono ?_
    rintro e w5 ⟨rfl, hQ5⟩
    go_wp2
    go_ret
    exact ⟨rfl, hQ5.out⟩

set_option maxRecDepth 100000 in
set_option maxHeartbeats 4000000 in
theorem does_push {Rep : World → Nat → (Nat → Prop) → Arn → Prop} (H : KeepC Rep) (CC : PushC Rep) (CW : WritesC Rep) (base : Nat) (w0 w : World) (p g : Nat) (F G : Nat → Prop) (A1 A2 : Arn) (k i kk j : Int) (hP : Pr Rep (RepA base) w0 w p g F G A1 A2) (hsl : A1.sl = A2.sl) (hfr : A1.fr = A2.fr) (hwr : A1.wr ≤ 999999990) (hE : Er.Handle w0) (hk : I64 k) (hi : I64 i) (hkk : I64 kk) (hm : k % 6 ≠ 2 ∧ k % 6 ≠ 3) :
    Calls Tryd.prog 13 #[ptr p, ptr g, .agg #[nu k, nu i, nu kk, nu j]] w fun e w' => e = .returned (.bool true) ∧ ∃ A1' A2', A1'.wr ≤ A1.wr + 4 ∧ Tw Rep base w0 w w' p g F G A1' A2' := by
  have HR := keepA base
  have hgd := hP.good1
  have HFW : Hid (∀ b, F b ∨ G b → b < w.heap.size) := fun b hb => hb.elim (H.lt hP.rep b) (HR.lt hP.ref b)
  obtain ⟨W0, hW0⟩ : ∃ W0, w.alloc (.cells #[nu k, nu i, nu kk, nu j] 28) = W0 := ⟨_, rfl⟩
  have hA0 : W0.heap[w.heap.size]? = some (.cells #[nu k, nu i, nu kk, nu j] 28) := by rw [← hW0]; exact heap_alloc_new _ _
  have hs0 : W0.heap.size = w.heap.size + 1 := by rw [← hW0]; simp
  have hB0 : Below w.heap.size w W0 := by rw [← hW0]; exact (Below.refl _ _).alloc (Nat.le_refl _) _
  have HW0 := Hid.mk' hW0
  have AC : Hid (∀ wx : World, wx.heap[w.heap.size]? = some (.cells #[nu k, nu i, nu kk, nu j] 28) → wx.cell? ⟨w.heap.size, 0, none⟩ = some (nu k) ∧ wx.cell? ⟨w.heap.size, 1, none⟩ = some (nu i) ∧ wx.cell? ⟨w.heap.size, 2, none⟩ = some (nu kk)) := fun wx hx => by simp [World.cell?, hx]
  have hP0 := (Dn.start hP).below H HR hB0
  have c0 := Hid.mk' (CW W0 p F A1 hP0.pr.rep (by omega))
  obtain ⟨m, hmm⟩ : ∃ m, k % 6 = m := ⟨_, rfl⟩
  have c1 : Hid (∀ wx, Calls Tryd.prog 7 #[nu k, nu 6] wx fun e w' => e = .returned (nu m) ∧ w' = wx) := fun wx => by rw [← hmm]; exact pick_any k 6 wx (by decide) (by decide) hk
  rw [hmm] at hm
  obtain ⟨X, hX⟩ : ∃ X, push A1.sl kk i = X := ⟨_, rfl⟩
  have hno := push_no A1.sl kk i
  have hlen := push_len A1.sl kk i
  rw [hX] at hno hlen
  have C2 : Hid (∀ wx, Below W0.heap.size W0 wx → Calls Tryd.prog 31 #[ptr p, nu kk, nu i] wx fun e w' => e = .returned (.tuple #[nu X.ans, errP X.no X.pl]) ∧ w'.heap[w.heap.size]? = some (.cells #[nu k, nu i, nu kk, nu j] 28) ∧ Hid (∃ n F', n ≤ 3 ∧ (X.no ≠ 0 → n = 0) ∧ Dn Rep (RepA base) w0 w w' p g F G F' G ⟨X.sl, A1.fr, A1.wr + n⟩ A2)) := fun wx hb => by
    have hPx := hP0.below H HR hb
    have := CC wx p F A1 kk i hPx.pr.rep hPx.pr.good1 hwr hkk hi
    rw [hX] at this
    refine this.mono ?_
    rintro e w' ⟨rfl, n, hn1, hn2, F', h1, h2, h3⟩
    have hsx := hb.size
    obtain ⟨F2, hD2⟩ := hPx.turn1 HR ⟨F', h1, h2, h3⟩ (good_sl hgd hlen)
    exact ⟨rfl, (h2.block _ (by omega) (fun e => by have := HFW.out _ (.inl e); omega)).trans ((hb.block _ (by omega)).trans hA0), n, F2, hn1, hn2, hD2⟩
  have C3 : Hid (∀ wx n F', Dn Rep (RepA base) w0 w wx p g F G F' G ⟨X.sl, A1.fr, A1.wr + n⟩ A2 → Calls Tryd.prog 32 #[ptr g, nu kk, nu i] wx fun e w' => e = .returned (.tuple #[nu X.ans, nun X.no, nu X.pl]) ∧ ∃ G', Dn Rep (RepA base) w0 w w' p g F G F' G' ⟨X.sl, A1.fr, A1.wr + n⟩ ⟨X.sl, A2.fr, A2.wr⟩) := fun wx n F' hp => by
    have := push_r base wx g G A2 kk i hp.pr.ref (by rw [← hsl]; exact hgd.len)
    rw [← hsl, hX] at this
    refine this.mono ?_
    rintro e w' ⟨rfl, hl⟩
    exact ⟨rfl, hp.turn2 H hl (good_sl hp.pr.good2 (by rw [hlen, hsl]))⟩
  have C4 : Hid (∀ wx, Below w0.heap.size w0 wx → Calls Tryd.prog 33 #[errP X.no X.pl, nun X.no, nu X.pl] wx fun e w' => e = .returned (.bool true) ∧ Below wx.heap.size wx w') := fun wx hb => told_any X.no X.pl hno.1 hno.2 wx (hE.below hb)
  have C5 : Hid (∀ wx n F' G', n ≤ 3 → Dn Rep (RepA base) w0 w wx p g F G F' G' ⟨X.sl, A1.fr, A1.wr + n⟩ ⟨X.sl, A2.fr, A2.wr⟩ → Calls Tryd.prog 26 #[ptr p] wx fun e w' => e = .returned (nun (A1.wr + n)) ∧ Below wx.heap.size wx w') := fun wx n F' G' hn hp => CW wx p F' _ hp.pr.rep (by show A1.wr + n ≤ _; omega)
  have HFIN : Hid (∀ wx n F' G', n ≤ 3 → Dn Rep (RepA base) w0 w wx p g F G F' G' ⟨X.sl, A1.fr, A1.wr + n⟩ ⟨X.sl, A2.fr, A2.wr⟩ → ∃ A1' A2', A1'.wr ≤ A1.wr + 4 ∧ Tw Rep base w0 w wx p g F G A1' A2') := fun wx n F' G' hn hp => ⟨_, _, by show A1.wr + n ≤ _; omega, ⟨F', G', hp⟩, rfl, hfr⟩
  have HH := Hid.mk' H
  have HKR := Hid.mk' HR
  generalize errP X.no X.pl = ev at *
  generalize X.ans = an at *
  generalize X.pl = pl at *
  generalize X.no = c at *
  clear H HR hP hP0 CC CW hW0 hgd hsl hfr hno hlen hX hmm hE hk hi hkk HFW
  have aw : (A1.wr : Int) ≤ 999999990 := by omega
  obtain ⟨aW, haW⟩ : ∃ aW, A1.wr = aW := ⟨_, rfl⟩
  rw [haW] at c0 aw
  have HAW := Hid.mk' haW
  clear haW hwr
  obtain ⟨z1, z2, z3⟩ := AC.out W0 hA0
  go_enter Tryd.func13, Tryd.ntmps13
  go_wp2_with fail
  rw [HW0.out]
  refine c0.out.mono ?_
  rintro e w1 ⟨rfl, hb1⟩
  have hA1 : w1.heap[w.heap.size]? = some (.cells #[nu k, nu i, nu kk, nu j] 28) := (hb1.block _ (by omega)).trans hA0
  obtain ⟨y1, y2, y3⟩ := AC.out w1 hA1
  have HB1 := Hid.mk' hb1
  clear hb1 c0 hA0 hA1 z1 z2 z3
  go_wp2_with fail
  refine (c1.out _).mono ?_
  rintro e w9 ⟨rfl, hw9⟩
  subst w9
  have hm2 : (m == 2) = false := by simp; omega
  have hm3 : (m == 3) = false := by simp; omega
  clear hm
  go_wp2_with fail
  refine (C2.out w1 HB1.out).mono ?_
  rintro e w2 ⟨rfl, hA2, hQ2⟩
  obtain ⟨n, F', hn1, hn2, hP2⟩ := hQ2.out
  obtain ⟨x1, x2, x3⟩ := AC.out w2 hA2
  have C3' := Hid.mk' (C3.out w2 n F' hP2)
  clear hA2 hQ2 hP2 C2 C3 y1 y2 y3
  go_wp2_with fail
  refine C3'.out.mono ?_
  rintro e w3 ⟨rfl, G', hP3⟩
  have HP3 := Hid.mk' hP3
  have C4' := Hid.mk' (C4.out w3 hP3.pr.bel)
  clear hP3 C3' C4 x1 x2 x3
  have haa : (an == an) = true := by simp
  obtain ⟨bW, hbW⟩ : ∃ bW, A1.wr + n = bW := ⟨_, rfl⟩
  have hbI : (bW : Int) ≤ 1000000000 := by have := HAW.out; omega
  have C5' : Hid (∀ wx, Below w3.heap.size w3 wx → Calls Tryd.prog 26 #[ptr p] wx fun e w' => e = .returned (nun bW) ∧ Hid (∃ A1' A2', A1'.wr ≤ A1.wr + 4 ∧ Tw Rep base w0 w w' p g F G A1' A2')) := fun wx hb => by
    have hp := HP3.out.below HH.out HKR.out hb
    have := C5.out wx n F' G' hn1 hp
    rw [hbW] at this
    refine this.mono ?_
    rintro e w' ⟨rfl, hb'⟩
    exact ⟨rfl, HFIN.out w' n F' G' hn1 (hp.below HH.out HKR.out hb')⟩
  by_cases hc : c = 0
  · have hcb : ((c : Int) != 0) = false := by simp [hc]
    have hd : (bW : Int) - (aW : Int) ≤ 3 := by have := HAW.out; omega
    clear hc hn2 C5 HFIN hbW hn1
    go_wp2_with fail
    refine C4'.out.mono ?_
    rintro e w4 ⟨rfl, hb4⟩
    have C6 := Hid.mk' (C5'.out w4 hb4)
    clear hb4 C4' C5'
    go_wp2_with fail
    refine C6.out.mono ?_
    rintro e w5 ⟨rfl, hQ5⟩
    go_wp2
    go_ret
    exact ⟨rfl, hQ5.out⟩
  · have hcb : ((c : Int) != 0) = true := by simp [hc]
    have hd : (bW : Int) - (aW : Int) ≤ 0 := by have := HAW.out; have := hn2 hc; omega
    clear hc hn2 C5 HFIN hbW hn1
    go_wp2_with fail
    refine C4'.out.mono ?_
    rintro e w4 ⟨rfl, hb4⟩
    have C6 := Hid.mk' (C5'.out w4 hb4)
    clear hb4 C4' C5'
    go_wp2_with fail
    refine C6.out.mono ?_
    rintro e w5 ⟨rfl, hQ5⟩
    go_wp2
    go_ret
    exact ⟨rfl, hQ5.out⟩

theorem does_any {Rep : World → Nat → (Nat → Prop) → Arn → Prop} (H : KeepC Rep) (CP : PushC Rep) (CD : DropC Rep) (CS : SpliceC Rep) (CW : WritesC Rep) (base : Nat) (w0 w : World) (p g : Nat) (F G : Nat → Prop) (A1 A2 : Arn) (k i kk j : Int) (hP : Pr Rep (RepA base) w0 w p g F G A1 A2) (hsl : A1.sl = A2.sl) (hfr : A1.fr = A2.fr) (hwr : A1.wr ≤ 999999990) (hE : Er.Handle w0) (hk : I64 k) (hi : I64 i) (hkk : I64 kk) :
    Calls Tryd.prog 13 #[ptr p, ptr g, .agg #[nu k, nu i, nu kk, nu j]] w fun e w' => e = .returned (.bool true) ∧ ∃ A1' A2', A1'.wr ≤ A1.wr + 4 ∧ Tw Rep base w0 w w' p g F G A1' A2' := by
  by_cases h2 : k % 6 = 2
  · exact does_drop H CD CW base w0 w p g F G A1 A2 k i kk j hP hsl hfr hwr hE hk hi hkk h2
  · by_cases h3 : k % 6 = 3
    · exact does_splice H CS CW base w0 w p g F G A1 A2 k i kk j hP hsl hfr hwr hE hk hi hkk h3
    · exact does_push H CP CW base w0 w p g F G A1 A2 k i kk j hP hsl hfr hwr hE hk hi hkk ⟨h2, h3⟩
end Rg
end Go.Proofs.YtckgecmcjnhceaaDoor
