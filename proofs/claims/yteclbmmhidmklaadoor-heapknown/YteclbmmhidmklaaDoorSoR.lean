import Derived.Test.YteclbmmhidmklaaDoorSoS
import Derived.BigQuiet
/- A row that is sorted: turned round; a middle one is chosen. -/
namespace Go.Proofs.YteclbmmhidmklaaDoor
set_option linter.ambiguousOpen false
open Go.RowKit
namespace Hq
open Hh Ft
set_option linter.unusedSimpArgs false
set_option linter.unusedVariables false
attribute [local go_sem] Oper.semAt_some

set_option maxRecDepth 100000 in
set_option maxHeartbeats 4000000 in
theorem reverse_p {p g c n : Nat} {W : World} {D : List It} (h : Sw p g c n W D) (a b : Nat) (hb : b ≤ n) (hab : a < b) :
    Calls Tryd.prog 71 #[slc g n c, nun a, nun b, cmpV p] W fun e W' => e = .returned (.tuple #[]) ∧ LeftW p g c n a b W W' D (fun _ => True) := by
  have hn := h.big
  have hcap := (h.cap (by omega)).2
  have HS : Hid (LeftW p g c n a b W W D (fun _ => True)) := LeftW.refl h trivial
  clear h
  go_enter Tryd.func71, Tryd.ntmps71
  go_wp2
  go_loopw [8, 9] (fun iv jv wr => ∃ i j : Nat, iv = nun i ∧ jv = nun j ∧ a ≤ i ∧ j < b ∧ i ≤ b ∧ Hid (LeftW p g c n a b W wr D (fun _ => True))) (fun _ jv _ => (intOf jv).toNat)
  case atStart => exact ⟨a, b - 1, rfl, by go_num, Nat.le_refl _, by omega, by omega, HS⟩
  case round =>
    clear HS
    obtain ⟨i, j, rfl, rfl, hi, hj, hib, HL⟩ := hrel
    by_cases hij : i < j
    · have hijI : (i : Int) < (j : Int) := by omega
      have hi0 : (0 : Int) ≤ (i : Int) := by omega
      have hj0 : (0 : Int) ≤ (j : Int) := by omega
      have hin : (i : Int) < (n : Int) := by omega
      have hjn : (j : Int) < (n : Int) := by omega
      obtain ⟨E, e1, e2, e3, e4⟩ := HL.out
      have hlE : E.length = n := e1.len
      obtain ⟨x, hx⟩ : ∃ x, atD E i = x := ⟨_, rfl⟩
      obtain ⟨y, hy⟩ : ∃ y, atD E j = y := ⟨_, rfl⟩
      obtain ⟨⟨b0, b1, b2, b3⟩, ⟨f0, f1, f2, f3⟩, ⟨z0, hz0⟩, ⟨z1, hz1⟩, w6, hw6, HW6⟩ := e1.swap (i := i) (j := j) (by omega) (by omega) hx hy
      have HL6 : Hid (LeftW p g c n a b W w6 D (fun _ => True)) := ⟨_, HW6.out.1, keep_keep e2 HW6.out.2, e3.trans (Pm.swp E (by omega) (by omega) (by omega) (by omega) (by omega)), trivial⟩
      have HE6 := Hid.mk' hw6
      obtain ⟨xi, xk⟩ := x
      obtain ⟨yi, yk⟩ := y
      dsimp only at b0 b1 b2 b3 hz0 hz1 HE6
      clear HL e1 e2 e3 e4 hx hy hlE HW6 hw6
      go_upto_region 4 with fail
      go_region
      rw [HE6.out]
      clear b0 b1 b2 b3 f0 f1 f2 f3 hz0 hz1 HE6
      go_wp2
      go_roundw
      case rel => exact ⟨i + 1, j - 1, by go_num, by go_num, by omega, by omega, by omega, HL6⟩
      case measure => simp [intOf]; omega
    · have hijI : ¬ (i : Int) < (j : Int) := by omega
      go_wp2
      go_end0
      exact ⟨rfl, HL.out⟩

/-- What order2 and median answer: two of those that were asked; the row stays, the count of exchanges may rise. -/
def OneOf (a b : Nat) (x : Nat) : Prop := a ≤ x ∧ x < b

set_option maxRecDepth 100000 in
set_option maxHeartbeats 4000000 in
theorem order2_p {p g c n : Nat} {W : World} {D : List It} (h : Sw p g c n W D) (i j q : Nat) (hi : i < n) (hj : j < n) (z : Nat) (hz : W.cell? ⟨q, 0, none⟩ = some (nun z)) (hqf : W.frozen? ⟨q, 0, none⟩ = false) (hqg : q ≠ g) (hqp : q ≠ p) (hzb : z ≤ 1000) :
    Calls Tryd.prog 83 #[slc g n c, nun i, nun j, ptr q, cmpV p] W fun e W' => ∃ u v z', e = .returned (.tuple #[nun u, nun v]) ∧ ((u = i ∧ v = j) ∨ (u = j ∧ v = i)) ∧ z' ≤ z + 1 ∧ Sw p g c n W' D ∧ Keep (fun k => k = q) W W' ∧ W'.cell? ⟨q, 0, none⟩ = some (nun z') ∧ W'.frozen? ⟨q, 0, none⟩ = false := by
  have hn := h.big
  have hcap := (h.cap (by omega)).2
  have hi0 : (0 : Int) ≤ (i : Int) := by omega
  have hj0 : (0 : Int) ≤ (j : Int) := by omega
  have hin : (i : Int) < (n : Int) := by omega
  have hjn : (j : Int) < (n : Int) := by omega
  obtain ⟨x, hx⟩ : ∃ x, atD D j = x := ⟨_, rfl⟩
  obtain ⟨y, hy⟩ : ∃ y, atD D i = y := ⟨_, rfl⟩
  obtain ⟨⟨⟨c0, c1, c2, c3⟩, hsd⟩, r, HR, HC⟩ := h.cmp (i := j) (j := i) hj hi hx hy
  obtain ⟨s, hs⟩ : ∃ s, ahd x y = s := ⟨_, rfl⟩
  rw [hs] at HR
  have HSD := Hid.mk' hsd
  have hql := cell_lt hz
  have HQ : Hid (∀ w5, Below W.heap.size W w5 → w5.cell? ⟨q, 0, none⟩ = some (nun z) ∧ w5.frozen? ⟨q, 0, none⟩ = false ∧ Sw p g c n w5 D ∧ Keep (fun k => k = q) W w5 ∧ Sw p g c n (w5.setCell ⟨q, 0, none⟩ (nun (z + 1))) D ∧ Keep (fun k => k = q) W (w5.setCell ⟨q, 0, none⟩ (nun (z + 1))) ∧ (w5.setCell ⟨q, 0, none⟩ (nun (z + 1))).cell? ⟨q, 0, none⟩ = some (nun (z + 1)) ∧ (w5.setCell ⟨q, 0, none⟩ (nun (z + 1))).frozen? ⟨q, 0, none⟩ = false) := fun w5 hb5 => by
    have s5 := h.below hb5
    have q5 := (hb5.cell (p := ⟨q, 0, none⟩) hql).trans hz
    have f5 := (hb5.frozen (p := ⟨q, 0, none⟩) hql).trans hqf
    have k5 : Keep (fun k => k = q) W w5 := Keep.of_below hb5
    refine ⟨q5, f5, s5, k5, ⟨s5.len, own_other s5.row ⟨q, 0, none⟩ _ (by simpa [Value.ownBlock] using hqg.symm), ?_, s5.ne, s5.unl, s5.big⟩, k5.setCell (p := ⟨q, 0, none⟩) (.inl rfl) _, World.cell?_setCell_same _ _ _ q5, by rw [World.frozen?_setCell]; exact f5⟩
    rw [World.cell?_setCell_other _ _ _ _ (by intro e; simp only [Addr.mk.injEq, and_true] at e; exact hqp e)]
    exact s5.ord
  obtain ⟨xi, xk⟩ := x
  obtain ⟨yi, yk⟩ := y
  dsimp only at c0 c1 c2 c3 HC HSD
  clear h hx hy hsd hs hz hqf
  cases s with
  | true =>
    have hrd : decide (r < 0) = true := HR.out
    go_enter Tryd.func83, Tryd.ntmps83
    go_upto_region 1 with fail
    go_region_held3 (fun w' => w'.cell? ⟨g, j * 2, none⟩ = some (nu xi) ∧ w'.cell? ⟨g, j * 2 + 1, none⟩ = some (nu xk) ∧ w'.cell? ⟨g, i * 2, none⟩ = some (nu yi) ∧ w'.cell? ⟨g, i * 2 + 1, none⟩ = some (nu yk)) (first | assumption | exact HSD.out | exact hs5 | fail) (first | (go_at_call 50; with_reducible refine HC.out.mono ?_; rintro e w5 ⟨rfl, hs5, HB5⟩) | fail)
    obtain ⟨q5, f5, _, _, t1, t2, t3, t4⟩ := HQ.out w5 HB5.out
    obtain ⟨z1, hz1⟩ : ∃ z1, z + 1 = z1 := ⟨_, rfl⟩
    rw [hz1] at t1 t2 t3 t4
    obtain ⟨w6, hw6⟩ : ∃ w6, w5.setCell ⟨q, 0, none⟩ (nun z1) = w6 := ⟨_, rfl⟩
    rw [hw6] at t1 t2 t3 t4
    have hzI : (z : Int) + 1 = (z1 : Int) := by omega
    have HT : Hid (z1 ≤ z + 1 ∧ Sw p g c n w6 D ∧ Keep (fun k => k = q) W w6 ∧ w6.cell? ⟨q, 0, none⟩ = some (nun z1) ∧ w6.frozen? ⟨q, 0, none⟩ = false) := ⟨by omega, t1, t2, t3, t4⟩
    have HW6 := Hid.mk' hw6
    clear t1 t2 t3 t4 HQ c0 c1 c2 c3 hs5 HB5 HC HSD hz1 hw6
    go_wp2
    go_ret2
    rw [HW6.out]
    exact ⟨j, i, z1, rfl, .inr ⟨rfl, rfl⟩, HT.out⟩
  | false =>
    have hrd : decide (r < 0) = false := HR.out
    go_enter Tryd.func83, Tryd.ntmps83
    go_upto_region 1 with fail
    go_region_held3 (fun w' => w'.cell? ⟨g, j * 2, none⟩ = some (nu xi) ∧ w'.cell? ⟨g, j * 2 + 1, none⟩ = some (nu xk) ∧ w'.cell? ⟨g, i * 2, none⟩ = some (nu yi) ∧ w'.cell? ⟨g, i * 2 + 1, none⟩ = some (nu yk)) (first | assumption | exact HSD.out | exact hs5 | fail) (first | (go_at_call 50; with_reducible refine HC.out.mono ?_; rintro e w5 ⟨rfl, hs5, HB5⟩) | fail)
    obtain ⟨q5, f5, t1, t2, _⟩ := HQ.out w5 HB5.out
    have HT : Hid (Sw p g c n w5 D ∧ Keep (fun k => k = q) W w5 ∧ w5.cell? ⟨q, 0, none⟩ = some (nun z) ∧ w5.frozen? ⟨q, 0, none⟩ = false) := ⟨t1, t2, q5, f5⟩
    clear t1 t2 HQ c0 c1 c2 c3 hs5 HB5 HC HSD q5 f5
    go_wp2
    go_ret2
    exact ⟨i, j, z, rfl, .inl ⟨rfl, rfl⟩, by omega, HT.out⟩

/-- What is left of the count of exchanges. -/
def CntQ (p g c n q : Nat) (D : List It) (W W' : World) (z : Nat) : Prop := Sw p g c n W' D ∧ Keep (fun k => k = q) W W' ∧ W'.cell? ⟨q, 0, none⟩ = some (nun z) ∧ W'.frozen? ⟨q, 0, none⟩ = false

theorem CntQ.trans {p g c n q z z' : Nat} {D : List It} {W W1 W2 : World} (h : CntQ p g c n q D W W1 z) (k : CntQ p g c n q D W1 W2 z') : CntQ p g c n q D W W2 z' :=
  ⟨k.1, h.2.1.trans k.2.1 (fun _ _ e => e), k.2.2⟩

set_option maxRecDepth 100000 in
set_option maxHeartbeats 4000000 in
theorem median_p {p g c n : Nat} {W : World} {D : List It} (h : Sw p g c n W D) (i j k q : Nat) (hi : i < n) (hj : j < n) (hk : k < n) (z : Nat) (hz : W.cell? ⟨q, 0, none⟩ = some (nun z)) (hqf : W.frozen? ⟨q, 0, none⟩ = false) (hqg : q ≠ g) (hqp : q ≠ p) (hzb : z ≤ 900) :
    Calls Tryd.prog 82 #[slc g n c, nun i, nun j, nun k, ptr q, cmpV p] W fun e W' => ∃ u z', e = .returned (nun u) ∧ (u = i ∨ u = j ∨ u = k) ∧ z' ≤ z + 3 ∧ CntQ p g c n q D W W' z' := by
  have c1 := Hid.mk' (order2_p h i j q hi hj z hz hqf hqg hqp (by omega))
  have hb := Hid.mk' hzb
  have HQ : Hid (q ≠ g ∧ q ≠ p) := ⟨hqg, hqp⟩
  have HN : Hid (i < n ∧ j < n ∧ k < n) := ⟨hi, hj, hk⟩
  clear h hz hqf hqg hqp hi hj hk hzb
  go_enter Tryd.func82, Tryd.ntmps82
  go_wp2_with fail
  refine c1.out.mono ?_
  rintro e w1 ⟨u1, v1, z1, rfl, ho1, hz1, s1, k1, q1, f1⟩
  have hu1 : u1 < n ∧ v1 < n := by
    have := HN.out
    rcases ho1 with ⟨rfl, rfl⟩ | ⟨rfl, rfl⟩ <;> omega
  have HO1 := Hid.mk' ho1
  have HZ1 := Hid.mk' hz1
  have HC1 : Hid (CntQ p g c n q D W w1 z1) := ⟨s1, k1, q1, f1⟩
  have c2 := Hid.mk' (order2_p s1 v1 k q hu1.2 HN.out.2.2 z1 q1 f1 HQ.out.1 HQ.out.2 (by have := hb.out; omega))
  have HU1 := Hid.mk' hu1
  clear ho1 hz1 s1 k1 q1 f1 hu1 c1
  go_wp2_with fail
  refine c2.out.mono ?_
  rintro e w2 ⟨u2, v2, z2, rfl, ho2, hz2, s2, k2, q2, f2⟩
  have hu2 : u2 < n ∧ v2 < n := by
    have := HN.out
    have := HU1.out
    rcases ho2 with ⟨rfl, rfl⟩ | ⟨rfl, rfl⟩ <;> omega
  have HO2 := Hid.mk' ho2
  have HZ2 := Hid.mk' hz2
  have HC2 : Hid (CntQ p g c n q D W w2 z2) := HC1.out.trans ⟨s2, k2, q2, f2⟩
  have c3 := Hid.mk' (order2_p s2 u1 u2 q HU1.out.1 hu2.1 z2 q2 f2 HQ.out.1 HQ.out.2 (by have := hb.out; have := HZ1.out; omega))
  clear ho2 hz2 s2 k2 q2 f2 hu2 c2
  go_wp2_with fail
  refine c3.out.mono ?_
  rintro e w3 ⟨u3, v3, z3, rfl, ho3, hz3, s3, k3, q3, f3⟩
  have HO3 := Hid.mk' ho3
  have HZ3 := Hid.mk' hz3
  have HC3 : Hid (CntQ p g c n q D W w3 z3) := HC2.out.trans ⟨s3, k3, q3, f3⟩
  clear ho3 hz3 s3 k3 q3 f3 c3
  go_wp2
  go_ret
  refine ⟨v3, z3, rfl, ?_, ?_, HC3.out⟩
  · have := HO1.out
    have := HO2.out
    have := HO3.out
    omega
  · have := HZ1.out
    have := HZ2.out
    have := HZ3.out
    omega

set_option maxRecDepth 100000 in
set_option maxHeartbeats 4000000 in
theorem medianAdj_p {p g c n : Nat} {W : World} {D : List It} (h : Sw p g c n W D) (i q : Nat) (hi0 : 0 < i) (hi : i + 1 < n) (z : Nat) (hz : W.cell? ⟨q, 0, none⟩ = some (nun z)) (hqf : W.frozen? ⟨q, 0, none⟩ = false) (hqg : q ≠ g) (hqp : q ≠ p) (hzb : z ≤ 900) :
    Calls Tryd.prog 81 #[slc g n c, nun i, ptr q, cmpV p] W fun e W' => ∃ u z', e = .returned (nun u) ∧ i - 1 ≤ u ∧ u ≤ i + 1 ∧ z' ≤ z + 3 ∧ CntQ p g c n q D W W' z' := by
  have hn := h.big
  obtain ⟨i1, h1⟩ : ∃ i1, i1 + 1 = i := ⟨i - 1, by omega⟩
  obtain ⟨i2, h2⟩ : ∃ i2, i + 1 = i2 := ⟨_, rfl⟩
  have h1I : (i : Int) - 1 = (i1 : Int) := by omega
  have h2I : (i : Int) + 1 = (i2 : Int) := by omega
  have c1 := Hid.mk' (median_p h i1 i i2 q (by omega) (by omega) (by omega) z hz hqf hqg hqp hzb)
  have H1 := Hid.mk' h1
  have H2 := Hid.mk' h2
  clear h hz hqf hqg hqp h1 h2
  go_enter Tryd.func81, Tryd.ntmps81
  go_wp2_with fail
  refine c1.out.mono ?_
  rintro e w1 ⟨u, z1, rfl, ho, hz1, hC⟩
  have HO := Hid.mk' ho
  have HZ := Hid.mk' hz1
  have HC := Hid.mk' hC
  clear ho hz1 hC c1
  go_wp2
  go_ret
  refine ⟨u, z1, rfl, ?_, ?_, HZ.out, HC.out⟩
  · have := HO.out
    have := H1.out
    have := H2.out
    omega
  · have := HO.out
    have := H1.out
    have := H2.out
    omega
end Hq
end Go.Proofs.YteclbmmhidmklaaDoor
