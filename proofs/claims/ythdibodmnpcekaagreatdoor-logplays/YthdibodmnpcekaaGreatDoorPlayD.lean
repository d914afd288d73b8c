import Derived.Test.YthdibodmnpcekaaGreatDoorPlayO
/- One act on both: the power is cut; the logs are opened again. -/
namespace Go.Proofs.YthdibodmnpcekaaGreatDoor
set_option linter.ambiguousOpen false
open Go.RowKit
namespace Lo
open Sm Ft Dk
set_option linter.unusedSimpArgs false
set_option linter.unusedVariables false

/-- Behind an act. -/
def Nx (Rep : World → Nat → (Nat → Prop) → Dsk → Prop) (w w' : World) (B p g : Nat) (d : Dsk) (l : Lg) : Prop := ∃ q m F G d' l' τ, Sw Rep w w' B p q g m F G d' l' d' l' τ ∧ Fit l' d' ∧ Small d' ∧ d'.tr.length ≤ d.tr.length + 3 ∧ (l'.recs ≤ l.recs + 1 ∨ l'.recs ≤ 4096) ∧ d'.n = d.n

/-- An act as it comes in. -/
@[reducible] def actC (k n : Int) (pv : Value) : Array Value := #[nu k, nu n, pv]

theorem actc {w : World} {X : Nat} {k n : Int} {pv : Value} (h : w.heap[X]? = some (.cells (actC k n pv) 48)) : w.cell? ⟨X, 0, none⟩ = some (nu k) ∧ w.cell? ⟨X, 1, none⟩ = some (nu n) ∧ w.cell? ⟨X, 2, none⟩ = some pv := by
  simp [World.cell?, h]

/-- The act in a box of its own. -/
theorem Sw.boxed {Rep : World → Nat → (Nat → Prop) → Dsk → Prop} (H : Says Rep) {w wr : World} {B p q g m : Nat} {F G : Nat → Prop} {d e : Dsk} {l n : Lg} {τ : Nat → Nat} (h : Sw Rep w wr B p q g m F G d l e n τ) (a : Array Value) : Sw Rep w (wr.alloc (.cells a 48)) B p q g m F G d l e n (later wr τ 6) ∧ (wr.alloc (.cells a 48)).heap[wr.heap.size]? = some (.cells a 48) ∧ later wr τ 6 wr.heap.size = 6 :=
  ⟨h.fresh H ((Below.refl _ _).alloc (Nat.le_refl _) _) 6, heap_alloc_new _ _, later_new (Nat.le_refl _)⟩

set_option maxRecDepth 100000 in
set_option maxHeartbeats 8000000 in
theorem does_cut {Rep : World → Nat → (Nat → Prop) → Dsk → Prop} (H : Says Rep) (w wr : World) (B p q g m : Nat) (F G : Nat → Prop) (d : Dsk) (l : Lg) (τ : Nat → Nat) (k n : Int) (pv : Value) (hS : Sw Rep w wr B p q g m F G d l d l τ) (hf : Fit l d) (hs : Small d) (hk : -9223372036854775808 ≤ k ∧ k ≤ 9223372036854775807) (hn : -9223372036854775808 ≤ n ∧ n ≤ 9223372036854775807) (hm : k % 7 = 3) (hpv : ∃ a c z, pv = .slice a c z) :
    Calls Tryz.prog 11 #[ptr B, .agg (actC k n pv)] wr fun e w' => e = .returned (.bool true) ∧ Nx Rep w w' B p g d l := by
  obtain ⟨pa, pc, pz, rfl⟩ := hpv
  obtain ⟨hS0, hX, hX6⟩ := hS.boxed H (actC k n (.slice pa pc pz))
  obtain ⟨X, hXe⟩ : ∃ X, wr.heap.size = X := ⟨_, rfl⟩
  rw [hXe] at hX hX6
  obtain ⟨w0, hw0⟩ : ∃ w0, wr.alloc (.cells (actC k n (.slice pa pc pz)) 48) = w0 := ⟨_, rfl⟩
  have cK := pick_any k 7 w0 (by decide) (by decide) hk
  rw [show ((7 : Nat) : Int) = 7 from rfl, hm] at cK
  rw [hw0] at hX hS0
  obtain ⟨x0, x1, x2⟩ := actc hX
  obtain ⟨b0, b1, b2, b3, bf⟩ := hS0.cells
  have hXl : X < w0.heap.size := (Array.getElem?_eq_some_iff.1 hX).1
  obtain ⟨σ, hσ⟩ : ∃ σ, later wr τ 6 = σ := ⟨_, rfl⟩
  rw [hσ] at hS0 hX6
  have HH := Hid.mk' H
  have HS0 := Hid.mk' hS0
  have C1 : Hid (∀ wx, Below w0.heap.size w0 wx → Calls Tryz.prog 20 #[ptr p, nu n] wx fun e w' => (∃ u, e = .returned u) ∧ (w'.cell? ⟨B, 0, none⟩ = some (ptr p) ∧ w'.cell? ⟨X, 1, none⟩ = some (nu n)) ∧ Hid (∃ F' σ', Sw Rep w w' B p q g m F' G ⟨d.n, max n (-1), d.tr⟩ l d l σ' ∧ w'.cell? ⟨X, 1, none⟩ = some (nu n))) := fun wx hb => by
    have hSx := HS0.out.below HH.out hb
    refine (HH.out.cut wx p F d n hSx.rep hn).mono ?_
    rintro e w' ⟨he, F', r1, r2, r3⟩
    have hS1 := hSx.turn1 HH.out r1 r2 r3
    have hxc : w'.cell? ⟨X, 1, none⟩ = some (nu n) := by
      rw [r2.cell (p := ⟨X, 1, none⟩) (Nat.lt_of_lt_of_le hXl hb.size) (fun hc => by have := hSx.tf X hc; rw [hX6] at this; cases this), hb.cell (p := ⟨X, 1, none⟩) hXl]
      exact x1
    exact ⟨he, ⟨hS1.cells.1, hxc⟩, F', _, hS1, hxc⟩
  have hfit : Hid (Fit l ⟨d.n, max n (-1), d.tr⟩) := ⟨hf.a0, hf.n1, hf.an, hf.dn, hf.us, hf.ep, by simp only; omega, by simp only; omega⟩
  have hsm : Hid (Small ⟨d.n, max n (-1), d.tr⟩) := hs.left _
  have hS1 : w0.cell? ⟨B, 0, none⟩ = some (ptr p) ∧ w0.cell? ⟨X, 1, none⟩ = some (nu n) := ⟨b0, x1⟩
  unfold actC at hw0 ⊢
  clear hS hf hs hk hm hX hS0 hσ hX6 H
  go_enter Tryz.func11, Tryz.ntmps11
  go_wp2_with fail
  refine cK.mono ?_
  rintro e w' ⟨rfl, hw⟩
  subst w'
  clear hw0 cK
  go_upto_region 3 with fail
  go_wp2_with fail
  go_region_held3 (fun w' => w'.cell? ⟨B, 0, none⟩ = some (ptr p) ∧ w'.cell? ⟨X, 1, none⟩ = some (nu n)) (first | assumption | exact hS1 | go_keep) (first | (go_at_call 20; with_reducible refine (C1.out _ ?hb).mono ?_; (case hb => (first | exact Below.refl _ _ | exact (Below.refl _ _).drew | fail)); rintro e w1 ⟨⟨u1, rfl⟩, hS2, hX1⟩) | fail)
  obtain ⟨F1, σ1, hW1, hxc1⟩ := hX1.out
  obtain ⟨c0, c1, c2, c3, cf⟩ := hW1.cells
  have HW1 := Hid.mk' hW1
  have hXl1 : X < w1.heap.size := World.block_lt_of_cell? w1 _ hxc1
  have hbl1 := hW1.blt
  have C2 : Hid (∀ wx, Below w1.heap.size w1 wx → Calls Tryz.prog 21 #[ptr g, nu n] wx fun e w' => (∃ u, e = .returned u) ∧ Hid (∃ σ', Sw Rep w w' B p q g m F1 G ⟨d.n, max n (-1), d.tr⟩ l ⟨d.n, max n (-1), d.tr⟩ l σ')) := fun wx hb => by
    have hSx := HW1.out.below HH.out hb
    refine (rcut w.heap.size wx g G d n hSx.ref).mono ?_
    rintro e w' ⟨he, r1, r2⟩
    exact ⟨he, _, hSx.turn2 HH.out r1 r2⟩
  have hS4 : w1.cell? ⟨B, 2, none⟩ = some (ptr g) ∧ w1.cell? ⟨X, 1, none⟩ = some (nu n) := ⟨c2, hxc1⟩
  clear hS1 hS2 hX1 C1 hW1 x0 x1 x2 b0 b1 b2 b3 bf c0 c1 c3 cf
  go_upto_region 4 with fail
  go_wp2_with fail
  go_region_with (go_at_call 21; with_reducible refine (C2.out _ ?hb).mono ?_; (case hb => (first | exact Below.refl _ _ | exact (Below.refl _ _).drew | fail)); rintro e w2 ⟨⟨u2, rfl⟩, hX2⟩)
  all_goals go_wp2
  all_goals go_ret
  all_goals exact ⟨rfl, by obtain ⟨σ2, hW2⟩ := hX2.out; exact ⟨_, _, _, _, _, _, _, hW2, hfit.out, hsm.out, Nat.le_add_right _ _, .inl (Nat.le_add_right _ _), rfl⟩⟩

set_option maxRecDepth 100000 in
set_option maxHeartbeats 8000000 in
theorem does_open {Rep : World → Nat → (Nat → Prop) → Dsk → Prop} (H : Says Rep) (SS : Rc.ScanC) (w wr : World) (B p q g m : Nat) (F G : Nat → Prop) (d : Dsk) (l : Lg) (τ : Nat → Nat) (k n : Int) (pv : Value) (hS : Sw Rep w wr B p q g m F G d l d l τ) (hE : Er.Handle w) (ht : d.tr.length ≤ 100000) (hf : Fit l d) (hs : Small d) (hk : -9223372036854775808 ≤ k ∧ k ≤ 9223372036854775807) (hn : -9223372036854775808 ≤ n ∧ n ≤ 9223372036854775807) (hm : k % 7 = 4) (hpv : ∃ a c z, pv = .slice a c z) :
    Calls Tryz.prog 11 #[ptr B, .agg (actC k n pv)] wr fun e w' => e = .returned (.bool true) ∧ Nx Rep w w' B p g d l := by
  obtain ⟨pa, pc, pz, rfl⟩ := hpv
  obtain ⟨hS0, hX, hX6⟩ := hS.boxed H (actC k n (.slice pa pc pz))
  obtain ⟨X, hXe⟩ : ∃ X, wr.heap.size = X := ⟨_, rfl⟩
  rw [hXe] at hX hX6
  obtain ⟨w0, hw0⟩ : ∃ w0, wr.alloc (.cells (actC k n (.slice pa pc pz)) 48) = w0 := ⟨_, rfl⟩
  have cK := pick_any k 7 w0 (by decide) (by decide) hk
  rw [show ((7 : Nat) : Int) = 7 from rfl, hm] at cK
  rw [hw0] at hX hS0
  obtain ⟨x0, x1, x2⟩ := actc hX
  obtain ⟨b0, b1, b2, b3, bf⟩ := hS0.cells
  have hXl : X < w0.heap.size := (Array.getElem?_eq_some_iff.1 hX).1
  obtain ⟨σ, hσ⟩ : ∃ σ, later wr τ 6 = σ := ⟨_, rfl⟩
  rw [hσ] at hS0 hX6
  have HH := Hid.mk' H
  have HS0 := Hid.mk' hS0
  have C1 : Hid (∀ wx, Below w0.heap.size w0 wx → Calls Tryz.prog 13 #[ptr B, .int .u32 (l.ep : Int)] wx fun e w' => e = .returned (.bool true) ∧ Hid (Nx Rep w w' B p g d l)) := fun wx hb => by
    have hSx := HS0.out.below HH.out hb
    refine (wopen_any HH.out SS w wx B p q g m F G d l _ l.ep hSx hE hf hs ht hf.ep).mono ?_
    rintro e w' ⟨he, q', m', F', l', τ', h1, h2, h3⟩
    exact ⟨he, _, _, _, _, _, _, _, h1, h2, hs.left _, Nat.le_add_right _ _, .inr h3, rfl⟩
  obtain ⟨m0, m1, m2, m3, m4, m5, m6, mf⟩ := hS0.ql.cells
  have hS1 : w0.cell? ⟨B, 3, none⟩ = some (ptr m) ∧ w0.cell? ⟨m, 3, none⟩ = some (.int .u32 (l.ep : Int)) := ⟨b3, m3⟩
  unfold actC at hw0 ⊢
  clear hS hf hs hk hm hX hS0 hσ hX6 H SS hE ht
  go_enter Tryz.func11, Tryz.ntmps11
  go_wp2_with fail
  refine cK.mono ?_
  rintro e w' ⟨rfl, hw⟩
  subst w'
  clear hw0 cK
  go_wp2_with fail
  refine (C1.out _ (Below.refl _ _)).mono ?_
  rintro e w1 ⟨rfl, hN⟩
  clear C1
  go_wp2
  go_ret
  exact ⟨rfl, hN.out⟩

set_option maxRecDepth 100000 in
set_option maxHeartbeats 8000000 in
theorem does_open5 {Rep : World → Nat → (Nat → Prop) → Dsk → Prop} (H : Says Rep) (SS : Rc.ScanC) (w wr : World) (B p q g m : Nat) (F G : Nat → Prop) (d : Dsk) (l : Lg) (τ : Nat → Nat) (k n : Int) (pv : Value) (hS : Sw Rep w wr B p q g m F G d l d l τ) (hE : Er.Handle w) (ht : d.tr.length ≤ 100000) (hf : Fit l d) (hs : Small d) (hk : -9223372036854775808 ≤ k ∧ k ≤ 9223372036854775807) (hn : -9223372036854775808 ≤ n ∧ n ≤ 9223372036854775807) (hm : k % 7 = 5) (hpv : ∃ a c z, pv = .slice a c z) :
    Calls Tryz.prog 11 #[ptr B, .agg (actC k n pv)] wr fun e w' => e = .returned (.bool true) ∧ Nx Rep w w' B p g d l := by
  obtain ⟨pa, pc, pz, rfl⟩ := hpv
  obtain ⟨hS0, hX, hX6⟩ := hS.boxed H (actC k n (.slice pa pc pz))
  obtain ⟨X, hXe⟩ : ∃ X, wr.heap.size = X := ⟨_, rfl⟩
  rw [hXe] at hX hX6
  obtain ⟨w0, hw0⟩ : ∃ w0, wr.alloc (.cells (actC k n (.slice pa pc pz)) 48) = w0 := ⟨_, rfl⟩
  have cK := pick_any k 7 w0 (by decide) (by decide) hk
  rw [show ((7 : Nat) : Int) = 7 from rfl, hm] at cK
  rw [hw0] at hX hS0
  obtain ⟨x0, x1, x2⟩ := actc hX
  obtain ⟨b0, b1, b2, b3, bf⟩ := hS0.cells
  have hXl : X < w0.heap.size := (Array.getElem?_eq_some_iff.1 hX).1
  obtain ⟨σ, hσ⟩ : ∃ σ, later wr τ 6 = σ := ⟨_, rfl⟩
  rw [hσ] at hS0 hX6
  have HH := Hid.mk' H
  have HS0 := Hid.mk' hS0
  obtain ⟨ep, hep⟩ : ∃ ep : Nat, n % 4 = (ep : Int) := ⟨(n % 4).toNat, by omega⟩
  have hep4 : ep < 4 := by omega
  have cE := pick_any n 4 w0 (by decide) (by decide) hn
  rw [show ((4 : Nat) : Int) = 4 from rfl, hep] at cE
  have C1 : Hid (∀ wx, Below w0.heap.size w0 wx → Calls Tryz.prog 13 #[ptr B, .int .u32 (ep : Int)] wx fun e w' => e = .returned (.bool true) ∧ Hid (Nx Rep w w' B p g d l)) := fun wx hb => by
    have hSx := HS0.out.below HH.out hb
    refine (wopen_any HH.out SS w wx B p q g m F G d l _ ep hSx hE hf hs ht (by omega)).mono ?_
    rintro e w' ⟨he, q', m', F', l', τ', h1, h2, h3⟩
    exact ⟨he, _, _, _, _, _, _, _, h1, h2, hs.left _, Nat.le_add_right _ _, .inr h3, rfl⟩
  unfold actC at hw0 ⊢
  clear hS hf hs hk hm hX hS0 hσ hX6 H SS hE ht hep
  go_enter Tryz.func11, Tryz.ntmps11
  go_wp2_with fail
  refine cK.mono ?_
  rintro e w' ⟨rfl, hw⟩
  subst w'
  clear hw0 cK
  go_wp2_with fail
  refine cE.mono ?_
  rintro e w' ⟨rfl, hw⟩
  subst w'
  clear cE
  go_wp2_with fail
  refine (C1.out _ (Below.refl _ _)).mono ?_
  rintro e w1 ⟨rfl, hN⟩
  clear C1
  go_wp2
  go_ret
  exact ⟨rfl, hN.out⟩
end Lo
end Go.Proofs.YthdibodmnpcekaaGreatDoor
