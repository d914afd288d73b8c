/- What is done to a slot. -/
import Derived.Test.YtbkcpjgaoncioaaWlkI
namespace Go.Proofs.Ytbkcpjgaoncioaa
set_option linter.ambiguousOpen false
open Go.RowKit
namespace Wk
open An Ft Lv
set_option linter.unusedSimpArgs false
set_option linter.unusedVariables false

/-- A slot, harmed. -/
def harmS (x : Slt) (m : Nat) : Slt := if m = 0 then ⟨false, x.dead, x.kids, x.prev, x.next, x.s, x.tx⟩ else if m = 1 then ⟨x.used, true, x.kids, x.prev, x.next, x.s, x.tx⟩ else if m = 2 then ⟨x.used, x.dead, x.kids, x.prev, x.next, { x.s with birth := x.s.birth + 1000 }, x.tx⟩ else x

theorem harm_cell {w : World} {b : Nat} {x y : Slt} (h : Lone w b x) (o : Nat) (v : Value) (e : x.cells.toArray.setIfInBounds o v = y.cells.toArray) : Lone (w.setCell ⟨b, o, none⟩ v) b y := by
  unfold Lone at h ⊢
  rw [heap_setCell_same _ b o _ _ _ h, e]

set_option maxRecDepth 100000 in
set_option maxHeartbeats 2000000 in
theorem harmed_any (x : Slt) (kind : Int) (w : World) (hk : I64 kind) (hb : -1000000 ≤ x.s.birth ∧ x.s.birth ≤ 1000000) :
    Calls Try.prog 20 #[x.v, nu kind] w fun e w' => ∃ m : Nat, m < 4 ∧ e = .returned (.tuple #[(harmS x m).v, .bool (decide (m < 3))]) ∧ Below w.heap.size w w' := by
  have hB1 : Below w.heap.size w (w.alloc (.cells x.cells.toArray 52)) := (Below.refl _ _).alloc (Nat.le_refl _) _
  have hX1 := lone_new w x
  obtain ⟨W1, hW1⟩ : ∃ W1, w.alloc (.cells x.cells.toArray 52) = W1 := ⟨_, rfl⟩
  rw [hW1] at hB1 hX1
  have hs1 : W1.heap.size = w.heap.size + 1 := by rw [← hW1]; simp
  have hB2 : Below w.heap.size w (W1.alloc (.cells sltZ 52)) := hB1.alloc hB1.size _
  have hX2 : Lone (W1.alloc (.cells sltZ 52)) w.heap.size x := (heap_alloc_old _ _ (Array.getElem?_eq_some_iff.1 hX1).1).trans hX1
  have hZ2 := lone_zero W1
  obtain ⟨W2, hW2⟩ : ∃ W2, W1.alloc (.cells sltZ 52) = W2 := ⟨_, rfl⟩
  rw [hW2] at hB2 hX2 hZ2
  have HW : Hid ((w.alloc (.cells x.cells.toArray 52)).alloc (.cells sltZ 52) = W2) := by show _ = _; rw [hW1, hW2]
  obtain ⟨b, hbb⟩ : ∃ b, w.heap.size = b := ⟨_, rfl⟩
  obtain ⟨z, hzz⟩ : ∃ z, W1.heap.size = z := ⟨_, rfl⟩
  rw [hbb] at hX2
  rw [hzz] at hZ2
  have hne : b ≠ z := by omega
  have hleb : w.heap.size ≤ b := by omega
  have hlez : w.heap.size ≤ z := by omega
  have HBB := Hid.mk' hbb
  have HZB : Hid (b + 1 = z) := by show _ = _; omega
  obtain ⟨M, hM, hM4⟩ : ∃ M : Nat, kind % 4 = M ∧ M < 4 := ⟨(kind % 4).toNat, by omega, by omega⟩
  have cK : Hid (∀ wx, Calls Try.prog 18 #[nu kind, nu 4] wx fun e w' => e = .returned (nun M) ∧ w' = wx) := fun wx => by
    have := pickW kind 4 wx (by decide) (by decide) hk
    rw [show ((4 : Nat) : Int) = 4 from rfl, hM] at this
    exact this
  have HX2 := Hid.mk' hX2
  have HZ2 := Hid.mk' hZ2
  have HB2 := Hid.mk' hB2
  clear hW1 hW2 hX1 hB1 hs1 hX2 hZ2 hB2 hbb hzz hM hk
  rcases (show M = 0 ∨ M = 1 ∨ M = 2 ∨ M = 3 by omega) with rfl | rfl | rfl | rfl
  · clear hb
    have q := HX2.out.range 0 _ rfl
    rw [Nat.zero_add] at q
    have qf := lone_open HX2.out 0
    have HXY : Hid (Lone (W2.setCell ⟨b, 0, none⟩ (.bool false)) b (harmS x 0)) := harm_cell HX2.out 0 _ rfl
    have HZY : Hid (Lone (W2.setCell ⟨b, 0, none⟩ (.bool false)) z slt0) := (Below.heap_setCell W2 ⟨b, 0, none⟩ _ z (fun e => hne e.symm)).trans HZ2.out
    have HBY : Hid (Below w.heap.size w (W2.setCell ⟨b, 0, none⟩ (.bool false))) := HB2.out.setCell (p := ⟨b, 0, none⟩) hleb _
    have HXR := Hid.mk' HXY.out.range
    go_enter Try.func20, Try.ntmps20
    go_upto_region 1 with fail
    rw [HW.out, HBB.out, HZB.out]
    go_wp2_with fail
    refine (cK.out _).mono ?_
    rintro e w3 ⟨rfl, rfl⟩
    go_wp2_with (first | (refine wpList_load_slt rfl _ rfl b 0 rfl (harmS x 0) HXR.out ?_) | (refine wpList_store_lone rfl _ _ rfl z rfl (harmS x 0) rfl slt0 HZY.out ?_; intro w5 hl5 hg5 hs5; have HL5 := Hid.mk' hl5; have HB5 : Hid (Below w.heap.size w w5) := (HBY.out.grown hg5 HBY.out.size (fun r e => by cases e; exact hlez)); clear hl5 hg5 hs5) | fail)
    refine bodyPost_ret (results_slt rfl _ _ z (harmS x 0) rfl HL5.out) rfl ?_
    exact ⟨0, by omega, rfl, HB5.out⟩
  · clear hb
    have q := HX2.out.range 1 _ rfl
    rw [Nat.zero_add] at q
    have qf := lone_open HX2.out 1
    have HXY : Hid (Lone (W2.setCell ⟨b, 1, none⟩ (.bool true)) b (harmS x 1)) := harm_cell HX2.out 1 _ rfl
    have HZY : Hid (Lone (W2.setCell ⟨b, 1, none⟩ (.bool true)) z slt0) := (Below.heap_setCell W2 ⟨b, 1, none⟩ _ z (fun e => hne e.symm)).trans HZ2.out
    have HBY : Hid (Below w.heap.size w (W2.setCell ⟨b, 1, none⟩ (.bool true))) := HB2.out.setCell (p := ⟨b, 1, none⟩) hleb _
    have HXR := Hid.mk' HXY.out.range
    go_enter Try.func20, Try.ntmps20
    go_upto_region 1 with fail
    rw [HW.out, HBB.out, HZB.out]
    go_wp2_with fail
    refine (cK.out _).mono ?_
    rintro e w3 ⟨rfl, rfl⟩
    go_wp2_with (first | (refine wpList_load_slt rfl _ rfl b 0 rfl (harmS x 1) HXR.out ?_) | (refine wpList_store_lone rfl _ _ rfl z rfl (harmS x 1) rfl slt0 HZY.out ?_; intro w5 hl5 hg5 hs5; have HL5 := Hid.mk' hl5; have HB5 : Hid (Below w.heap.size w w5) := (HBY.out.grown hg5 HBY.out.size (fun r e => by cases e; exact hlez)); clear hl5 hg5 hs5) | fail)
    refine bodyPost_ret (results_slt rfl _ _ z (harmS x 1) rfl HL5.out) rfl ?_
    exact ⟨1, by omega, rfl, HB5.out⟩
  · obtain ⟨hb1, hb2⟩ := hb
    have q := HX2.out.range 6 _ rfl
    rw [Nat.zero_add] at q
    have qf := lone_open HX2.out 6
    have HXY : Hid (Lone (W2.setCell ⟨b, 6, none⟩ (nu (x.s.birth + 1000))) b (harmS x 2)) := harm_cell HX2.out 6 _ rfl
    have HZY : Hid (Lone (W2.setCell ⟨b, 6, none⟩ (nu (x.s.birth + 1000))) z slt0) := (Below.heap_setCell W2 ⟨b, 6, none⟩ _ z (fun e => hne e.symm)).trans HZ2.out
    have HBY : Hid (Below w.heap.size w (W2.setCell ⟨b, 6, none⟩ (nu (x.s.birth + 1000)))) := HB2.out.setCell (p := ⟨b, 6, none⟩) hleb _
    have HXR := Hid.mk' HXY.out.range
    go_enter Try.func20, Try.ntmps20
    go_upto_region 1 with fail
    rw [HW.out, HBB.out, HZB.out]
    go_wp2_with fail
    refine (cK.out _).mono ?_
    rintro e w3 ⟨rfl, rfl⟩
    go_wp2_with (first | (refine wpList_load_slt rfl _ rfl b 0 rfl (harmS x 2) HXR.out ?_) | (refine wpList_store_lone rfl _ _ rfl z rfl (harmS x 2) rfl slt0 HZY.out ?_; intro w5 hl5 hg5 hs5; have HL5 := Hid.mk' hl5; have HB5 : Hid (Below w.heap.size w w5) := (HBY.out.grown hg5 HBY.out.size (fun r e => by cases e; exact hlez)); clear hl5 hg5 hs5) | fail)
    refine bodyPost_ret (results_slt rfl _ _ z (harmS x 2) rfl HL5.out) rfl ?_
    exact ⟨2, by omega, rfl, HB5.out⟩
  · clear hb
    go_enter Try.func20, Try.ntmps20
    go_upto_region 1 with fail
    rw [HW.out, HBB.out, HZB.out]
    go_wp2_with fail
    refine (cK.out _).mono ?_
    rintro e w3 ⟨rfl, rfl⟩
    have HXR := Hid.mk' HX2.out.range
    go_wp2_with (first | (refine wpList_load_slt rfl _ rfl b 0 rfl x HXR.out ?_) | (refine wpList_store_lone rfl _ _ rfl z rfl x rfl slt0 HZ2.out ?_; intro w5 hl5 hg5 hs5; have HL5 := Hid.mk' hl5; have HB5 : Hid (Below w.heap.size w w5) := (HB2.out.grown hg5 HB2.out.size (fun r e => by cases e; exact hlez)); clear hl5 hg5 hs5) | fail)
    refine bodyPost_ret (results_slt rfl _ _ z x rfl HL5.out) rfl ?_
    exact ⟨3, by omega, rfl, HB5.out⟩
end Wk
end Go.Proofs.Ytbkcpjgaoncioaa
