/- A state behind a word, and what it comes to. -/
import Derived.Test.YtfflmpmhacfijaaDoorSip
import Derived.Test.YtfflmpmhacfijaaDoorWord
namespace Go.Proofs.YtfflmpmhacfijaaDoor
set_option linter.ambiguousOpen false
open Go.RowKit
namespace Tg
open Sm
set_option linter.unusedSimpArgs false
set_option linter.unusedVariables false

/-- The four numbers behind one word more. -/
def wth (v : V4) (m : Int) : V4 :=
  let u := rnd (rnd ⟨v.a, v.b, v.c, xr v.d m⟩)
  ⟨xr u.a m, u.b, u.c, u.d⟩

/-- What the four numbers come to. -/
def fin (v : V4) : Int :=
  let u := rnd (rnd (rnd (rnd ⟨v.a, v.b, xr v.c 255, v.d⟩)))
  xr (xr (xr u.a u.b) u.c) u.d

/-- The four numbers lie in a block of their own. -/
def Lies (w : World) (g : Nat) (v : V4) : Prop := w.heap[g]? = some (.cells #[u8v v.a, u8v v.b, u8v v.c, u8v v.d] 47)

theorem Lies.below {w w' : World} {g : Nat} {v : V4} (h : Lies w g v) (hb : Below w.heap.size w w') : Lies w' g v := by
  unfold Lies at *
  rw [hb.block g (Array.getElem?_eq_some_iff.1 h).1]
  exact h

theorem Lies.cells {w : World} {g : Nat} {v : V4} (h : Lies w g v) : w.cell? ⟨g, 0, none⟩ = some (u8v v.a) ∧ w.cell? ⟨g, 1, none⟩ = some (u8v v.b) ∧ w.cell? ⟨g, 2, none⟩ = some (u8v v.c) ∧ w.cell? ⟨g, 3, none⟩ = some (u8v v.d) := by
  unfold Lies at h
  simp [World.cell?, h]

theorem Lies.free {w : World} {g : Nat} {v : V4} (h : Lies w g v) (i : Nat) : w.frozen? ⟨g, i, none⟩ = false := by
  unfold Lies at h
  simp [World.frozen?, h]

theorem Lies.at {w : World} {g : Nat} {v : V4} (h : Lies w g v) : w.heap[g]? = some (.cells #[u8v v.a, u8v v.b, u8v v.c, u8v v.d] 47) := h

theorem Lies.set0 {w : World} {g : Nat} {v : V4} (h : Lies w g v) (x : Int) : Lies (w.setCell ⟨g, 0, none⟩ (.int .u64 x)) g ⟨x, v.b, v.c, v.d⟩ := heap_setCell_same _ g 0 _ _ _ h

theorem Lies.set1 {w : World} {g : Nat} {v : V4} (h : Lies w g v) (x : Int) : Lies (w.setCell ⟨g, 1, none⟩ (.int .u64 x)) g ⟨v.a, x, v.c, v.d⟩ := heap_setCell_same _ g 1 _ _ _ h

theorem Lies.set2 {w : World} {g : Nat} {v : V4} (h : Lies w g v) (x : Int) : Lies (w.setCell ⟨g, 2, none⟩ (.int .u64 x)) g ⟨v.a, v.b, x, v.d⟩ := heap_setCell_same _ g 2 _ _ _ h

theorem Lies.set3 {w : World} {g : Nat} {v : V4} (h : Lies w g v) (x : Int) : Lies (w.setCell ⟨g, 3, none⟩ (.int .u64 x)) g ⟨v.a, v.b, v.c, x⟩ := heap_setCell_same _ g 3 _ _ _ h

theorem Lies.other {w : World} {g : Nat} {v : V4} (h : Lies w g v) (k i : Nat) (x : Value) (hk : k ≠ g) : Lies (w.setCell ⟨k, i, none⟩ x) g v := (Below.heap_setCell w ⟨k, i, none⟩ x g (fun e => hk e.symm)).trans h

/-- The four numbers are put into a block. -/
def put4 (w : World) (g : Nat) (v : V4) : World := ((((w.setCell ⟨g, 0, none⟩ (.int .u64 v.a)).setCell ⟨g, 1, none⟩ (.int .u64 v.b)).setCell ⟨g, 2, none⟩ (.int .u64 v.c)).setCell ⟨g, 3, none⟩ (.int .u64 v.d))

theorem Lies.put {w : World} {g : Nat} {v : V4} (h : Lies w g v) (u : V4) : Lies (put4 w g u) g u := (((h.set0 u.a).set1 u.b).set2 u.c).set3 u.d

theorem Lies.putOther {w : World} {g k : Nat} {v : V4} (h : Lies w g v) (u : V4) (hk : k ≠ g) : Lies (put4 w k u) g v := (((h.other k 0 _ hk).other k 1 _ hk).other k 2 _ hk).other k 3 _ hk

theorem below_put {B : Nat} {a w : World} (h : Below B a w) (g : Nat) (hg : B ≤ g) (u : V4) : Below B a (put4 w g u) := (((h.setCell (p := ⟨g, 0, none⟩) hg _).setCell (p := ⟨g, 1, none⟩) hg _).setCell (p := ⟨g, 2, none⟩) hg _).setCell (p := ⟨g, 3, none⟩) hg _

set_option maxHeartbeats 1000000 in
theorem with_any (v : V4) (m : Int) (w : World) : Calls Tryd.prog 23 #[st v, u8v m] w fun e w' => e = .returned (st (wth v m)) ∧ Below w.heap.size w w' := by
  have cT : Hid (∀ (v : V4) (w : World), Calls Tryd.prog 36 #[st v] w fun e w' => e = .returned (st (rnd v)) ∧ Below w.heap.size w w') := turned_any
  have hW : Hid (wth v m = (let u := rnd (rnd ⟨v.a, v.b, v.c, xr v.d m⟩); ⟨xr u.a m, u.b, u.c, u.d⟩)) := rfl
  have hL : Hid (Lies ((w.alloc (.cells #[u8v v.a, u8v v.b, u8v v.c, u8v (xr v.d m)] 47)).alloc (.cells #[u8v 0, u8v 0, u8v 0, u8v 0] 47)) w.heap.size ⟨v.a, v.b, v.c, xr v.d m⟩) := by
    show Lies _ _ _
    unfold Lies
    exact (heap_alloc_old _ _ (by simp)).trans (heap_alloc_new _ _)
  have hL2 : Hid (Lies ((w.alloc (.cells #[u8v v.a, u8v v.b, u8v v.c, u8v (xr v.d m)] 47)).alloc (.cells #[u8v 0, u8v 0, u8v 0, u8v 0] 47)) (w.heap.size + 1) ⟨0, 0, 0, 0⟩) := heap2 w _ _
  have hB := below2 w (.cells #[u8v v.a, u8v v.b, u8v v.c, u8v (xr v.d m)] 47) (.cells #[u8v 0, u8v 0, u8v 0, u8v 0] 47)
  obtain ⟨a, b, c, d⟩ := v
  unfold st
  go_enter Tryd.func23, Tryd.ntmps23
  go_wp2_with fail
  refine (cT.out ⟨a, b, c, xr d m⟩ _).mono ?_
  rintro e w1 ⟨rfl, h1⟩
  go_wp2_with fail
  refine (cT.out _ _).mono ?_
  rintro e w2 ⟨rfl, h2⟩
  have hb2 := Hid.mk' (h1.trans (h2.mono h1.size))
  have hB2 := Hid.mk' (hB.trans (hb2.out.mono hB.size))
  obtain ⟨c0, c1, c2, c3⟩ := (hL.out.below hb2.out).cells
  obtain ⟨e0, e1, e2, e3⟩ := (hL2.out.below hb2.out).cells
  have f0 := (hL.out.below hb2.out).free
  have f1 := (hL2.out.below hb2.out).free
  clear hB h1 h2
  generalize rnd (rnd ⟨a, b, c, xr d m⟩) = u at *
  obtain ⟨u0, u1, u2, u3⟩ := u
  have hF : Hid (Lies (put4 ((put4 w2 w.heap.size ⟨u0, u1, u2, u3⟩).setCell ⟨w.heap.size, 0, none⟩ (.int .u64 (xr u0 m))) (w.heap.size + 1) ⟨xr u0 m, u1, u2, u3⟩) (w.heap.size + 1) ⟨xr u0 m, u1, u2, u3⟩) := (((hL2.out.below hb2.out).putOther _ (by omega)).other _ _ _ (by omega)).put _
  have hG : Hid (Below w.heap.size w (put4 ((put4 w2 w.heap.size ⟨u0, u1, u2, u3⟩).setCell ⟨w.heap.size, 0, none⟩ (.int .u64 (xr u0 m))) (w.heap.size + 1) ⟨xr u0 m, u1, u2, u3⟩)) := below_put ((below_put hB2.out _ (Nat.le_refl _) _).setCell (p := ⟨w.heap.size, 0, none⟩) (Nat.le_refl _) _) _ (Nat.le_succ _) _
  unfold put4 at hF hG
  simp only [xr] at hF hG
  go_wp2
  refine bodyPost_ret (results_cell_row rfl _ _ (w.heap.size + 1) _ _ _ _ rfl hF.out.at Tryd.underlying47 rfl (stSize _ _ _ _)) rfl ?_
  exact ⟨by rw [hW.out]; rfl, hG.out⟩

set_option maxHeartbeats 1000000 in
theorem sum_any (v : V4) (w : World) : Calls Tryd.prog 24 #[st v] w fun e w' => e = .returned (u8v (fin v)) ∧ Below w.heap.size w w' := by
  have cT : Hid (∀ (v : V4) (w : World), Calls Tryd.prog 36 #[st v] w fun e w' => e = .returned (st (rnd v)) ∧ Below w.heap.size w w') := turned_any
  have hW : Hid (fin v = (let u := rnd (rnd (rnd (rnd ⟨v.a, v.b, xr v.c 255, v.d⟩))); xr (xr (xr u.a u.b) u.c) u.d)) := rfl
  have hL : Hid (Lies (w.alloc (.cells #[u8v v.a, u8v v.b, u8v (xr v.c 255), u8v v.d] 47)) w.heap.size ⟨v.a, v.b, xr v.c 255, v.d⟩) := heap_alloc_new _ _
  have hB : Below w.heap.size w (w.alloc (.cells #[u8v v.a, u8v v.b, u8v (xr v.c 255), u8v v.d] 47)) := (Below.refl _ _).alloc (Nat.le_refl _) _
  obtain ⟨a, b, c, d⟩ := v
  unfold st
  go_enter Tryd.func24, Tryd.ntmps24
  go_wp2_with fail
  refine (cT.out ⟨a, b, xr c 255, d⟩ _).mono ?_
  rintro e w1 ⟨rfl, h1⟩
  go_wp2_with fail
  refine (cT.out _ _).mono ?_
  rintro e w2 ⟨rfl, h2⟩
  go_wp2_with fail
  refine (cT.out _ _).mono ?_
  rintro e w3 ⟨rfl, h3⟩
  go_wp2_with fail
  refine (cT.out _ _).mono ?_
  rintro e w4 ⟨rfl, h4⟩
  have hb2 := h1.trans (h2.mono h1.size)
  have hb3 := hb2.trans (h3.mono hb2.size)
  have hb4 := Hid.mk' (hb3.trans (h4.mono hb3.size))
  have hB2 := Hid.mk' (hB.trans (hb4.out.mono hB.size))
  obtain ⟨c0, c1, c2, c3⟩ := (hL.out.below hb4.out).cells
  have f0 := (hL.out.below hb4.out).free
  clear hB h1 h2 h3 h4 hb2 hb3
  generalize rnd (rnd (rnd (rnd ⟨a, b, xr c 255, d⟩))) = u at *
  obtain ⟨u0, u1, u2, u3⟩ := u
  go_wp2
  go_ret
  exact ⟨ret_u8v (by rw [hW.out]; rfl), below_put hB2.out _ (Nat.le_refl _) ⟨u0, u1, u2, u3⟩⟩
end Tg
end Go.Proofs.YtfflmpmhacfijaaDoor
