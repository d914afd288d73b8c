import Derived.Test.YteclbmmhidmklaaDoorSoH
/- A row that is sorted: by a heap, put together. -/
namespace Go.Proofs.YteclbmmhidmklaaDoor
set_option linter.ambiguousOpen false
open Go.RowKit
namespace Hq
open Hh Ft
set_option linter.unusedSimpArgs false
set_option linter.unusedVariables false
attribute [local go_sem] Oper.semAt_some

/-- Behind the first m from a on all stand in their order, and behind those ahead. -/
structure Beh (a b m : Nat) (D : List It) : Prop where
  srt : Srt (a + m) b D
  bef : ∀ x y, a ≤ x → x < a + m → a + m ≤ y → y < b → ahd (atD D x) (atD D y) = true

theorem Beh.start {a b m : Nat} {D : List It} (h : b ≤ a + m) : Beh a b m D := ⟨fun i j h1 h2 h3 => by omega, fun x y h1 h2 h3 h4 => by omega⟩

/-- The last one goes behind the others. -/
theorem Beh.step {a b m : Nat} {D : List It} (h : Beh a b (m + 1) D) (hd : Dn 0 (m + 1) a D) (hb : a + (m + 1) ≤ b) (hl : b ≤ D.length) : Beh a b m (swp D a (a + m)) ∧ Dn 1 m a (swp D a (a + m)) := by
  have hat := fun j => swp_at D a (a + m) j (by omega) (by omega)
  have ht := hd.top
  refine ⟨⟨fun i j h1 h2 h3 => ?_, fun x y h1 h2 h3 h4 => ?_⟩, fun i c h1 h2 h3 => ?_⟩
  · rw [hat, hat, if_neg (show j ≠ a + m by omega)]
    by_cases e : i = a + m
    · rw [if_pos e, if_neg (by omega)]
      exact h.bef a j (Nat.le_refl _) (by omega) (by omega) h3
    · rw [if_neg e]
      rw [if_neg (by omega), if_neg (by omega)]
      exact h.srt i j (by omega) h2 h3
  · rw [hat, hat, if_neg (show x ≠ a + m by omega)]
    by_cases e : y = a + m
    · rw [if_pos e]
      by_cases e2 : x = a
      · rw [if_pos e2]
        exact ht m (by omega) (by omega)
      · rw [if_neg e2]
        have := ht (x - a) (by omega) (by omega)
        rwa [show a + (x - a) = x by omega] at this
    · rw [if_neg e, if_neg (show y ≠ a by omega)]
      by_cases e2 : x = a
      · rw [if_pos e2]
        exact h.bef (a + m) y (by omega) (by omega) (by omega) h4
      · rw [if_neg e2]
        exact h.bef x y h1 (by omega) (by omega) h4
  · rw [hat, hat, if_neg (by omega), if_neg (by omega), if_neg (by omega), if_neg (by omega)]
    exact hd i c (Nat.zero_le _) h2 (by omega)

/-- What stands behind stays there when those ahead are put otherwise. -/
theorem Beh.pm {a b m : Nat} {D E : List It} (h : Beh a b m D) (hp : Pm a (a + m) D E) : Beh a b m E :=
  ⟨fun i j h1 h2 h3 => by
    rw [hp.out i (by omega), hp.out j (by omega)]
    exact h.srt i j h1 h2 h3, fun x y h1 h2 h3 h4 => by
    obtain ⟨k, k1, k2, k3⟩ := hp.seg x h1 h2
    rw [k3, hp.out y (by omega)]
    exact h.bef k y k1 k2 h3 h4⟩

theorem Beh.done {a b : Nat} {D : List It} (h : Beh a b 0 D) : Srt a b D := h.srt

theorem Dn.none {lo hi f : Nat} {D : List It} (h : hi ≤ 2 * lo + 1) : Dn lo hi f D := fun i c h1 h2 h3 => by omega

set_option maxRecDepth 100000 in
set_option maxHeartbeats 8000000 in
theorem heapSort_p {p g c n : Nat} {W : World} {D : List It} (h : Sw p g c n W D) (a b : Nat) (hb : b ≤ n) (hab : a + 12 < b) :
    Calls Tryd.prog 68 #[slc g n c, nun a, nun b, cmpV p] W fun e W' => e = .returned (.tuple #[]) ∧ LeftW p g c n a b W W' D (Srt a b) := by
  have hn := h.big
  have hcap := (h.cap (by omega)).2
  obtain ⟨m, hm⟩ : ∃ m, b - a = m := ⟨_, rfl⟩
  have HBM : Hid (b = a + m) := by
    show _ = _
    omega
  have hmI : (b : Int) - (a : Int) = (m : Int) := by omega
  have hm0 : 12 < m := by omega
  have hq : Int.tdiv ((m : Int) - 1) 2 = (((m - 1) / 2 : Nat) : Int) := by
    rw [Int.tdiv_eq_ediv_of_nonneg (by omega)]
    omega
  obtain ⟨q, hqq⟩ : ∃ q, (m - 1) / 2 = q := ⟨_, rfl⟩
  rw [hqq] at hq
  have hqm : q < m := by omega
  have HS : Hid (LeftW p g c n a b W W D (Dn (q + 1) m a)) := LeftW.refl h (Dn.none (by omega))
  clear h hm hqq
  go_enter Tryd.func68, Tryd.ntmps68
  go_wp2
  go_loopw [11] (fun iv wr => ∃ i : Nat, iv = .int .i64 ((i : Int) - 1) ∧ i ≤ q + 1 ∧ Hid (LeftW p g c n a b W wr D (Dn i m a))) (fun iv _ => (intOf iv + 1).toNat)
  case atStart => exact ⟨q + 1, by congr 1; omega, Nat.le_refl _, HS⟩
  case round =>
    clear HS
    obtain ⟨i, rfl, hi, HL⟩ := hrel
    by_cases hi0 : 0 < i
    · obtain ⟨k, hk⟩ : ∃ k, i = k + 1 := ⟨i - 1, by omega⟩
      have hkI : (i : Int) - 1 = (k : Int) := by omega
      have hk0 : (0 : Int) ≤ (k : Int) := by omega
      have hkg : (k : Int) ≥ 0 := hk0
      have HC : Hid (Calls Tryd.prog 78 #[slc g n c, nun k, nun m, nun a, cmpV p] wr fun e W' => e = .returned (.tuple #[]) ∧ Hid (LeftW p g c n a b W W' D (Dn k m a))) := by
        obtain ⟨E, e1, e2, e3, e4⟩ := HL.out
        rw [hk] at e4
        refine (sift_p e1 k m a (by have := HBM.out; omega) (by have := HBM.out; omega) e4).mono ?_
        rintro e W' ⟨rfl, E', l1, l2, l3, l4⟩
        exact ⟨rfl, E', l1, keep_keep e2 l2, e3.trans (by rw [HBM.out]; exact l3), l4⟩
      have HK : Hid (k < i ∧ k ≤ q) := by
        refine ⟨?_, ?_⟩ <;> omega
      clear HL hk
      go_wp2_with fail
      refine HC.out.mono ?_
      rintro e w1 ⟨rfl, HL1⟩
      clear HC
      go_wp2
      go_roundw
      case rel => exact ⟨k, by simp, by have := HK.out; omega, HL1⟩
      case measure => have := HK.out; simp [intOf]; omega
    · have hiz : (i : Int) - 1 = -1 := by omega
      have HL2 : Hid (LeftW p g c n a b W wr D (fun E => Dn 0 m a E ∧ Beh a b m E)) := by
        obtain ⟨E, e1, e2, e3, e4⟩ := HL.out
        rw [show i = 0 by omega] at e4
        exact ⟨E, e1, e2, e3, e4, Beh.start (by have := HBM.out; omega)⟩
      rw [hiz]
      clear HL hq hiz hi hi0
      rename World => w1
      go_wp2_with fail
      go_loopw [12] (fun iv wr => ∃ i : Nat, iv = .int .i64 ((i : Int) - 1) ∧ i ≤ m ∧ Hid (LeftW p g c n a b W wr D (fun E => Dn 0 i a E ∧ Beh a b i E))) (fun iv _ => (intOf iv + 1).toNat)
      case atStart => exact ⟨m, by simp, Nat.le_refl _, HL2⟩
      case round =>
        clear HL2
        obtain ⟨i, rfl, hi, HL⟩ := hrel
        by_cases hi0 : 0 < i
        · obtain ⟨k, hk⟩ : ∃ k, i = k + 1 := ⟨i - 1, by omega⟩
          have hkI : (i : Int) - 1 = (k : Int) := by omega
          have hk0 : (0 : Int) ≤ (k : Int) := by omega
          have hkg : (k : Int) ≥ 0 := hk0
          obtain ⟨u, hu⟩ : ∃ u, a + k = u := ⟨_, rfl⟩
          have hun : u < n := by have := HBM.out; omega
          have han : a < n := by have := HBM.out; omega
          have huI : (u : Int) < (n : Int) := by omega
          have haI : (a : Int) < (n : Int) := by omega
          have hu0 : (0 : Int) ≤ (u : Int) := by omega
          have ha0 : (0 : Int) ≤ (a : Int) := by omega
          have hwu : IntKind.i64.wrap ((a : Int) + (k : Int)) = (u : Int) := by rw [wrap_i64] <;> omega
          obtain ⟨E, e1, e2, e3, e4, e5⟩ := HL.out
          have hlE : E.length = n := e1.len
          obtain ⟨x, hx⟩ : ∃ x, atD E a = x := ⟨_, rfl⟩
          obtain ⟨y, hy⟩ : ∃ y, atD E u = y := ⟨_, rfl⟩
          obtain ⟨⟨b0, b1, b2, b3⟩, ⟨f0, f1, f2, f3⟩, ⟨z0, hz0⟩, ⟨z1, hz1⟩, w6, hw6, HW6⟩ := e1.swap (i := a) (j := u) han hun hx hy
          have HC : Hid (Calls Tryd.prog 78 #[slc g n c, .int .i64 0, nun k, nun a, cmpV p] w6 fun e W' => e = .returned (.tuple #[]) ∧ Hid (LeftW p g c n a b W W' D (fun E => Dn 0 k a E ∧ Beh a b k E))) := by
            rw [hk] at e4 e5
            obtain ⟨t1, t2⟩ := e5.step e4 (by have := HBM.out; omega) (by have := HBM.out; omega)
            rw [hu] at t1 t2
            refine (sift_p HW6.out.1 0 k a (by have := HBM.out; omega) (Nat.zero_le _) t2).mono ?_
            rintro e W' ⟨rfl, E', l1, l2, l3, l4⟩
            refine ⟨rfl, E', l1, keep_keep (keep_keep e2 HW6.out.2) l2, ?_, l4, t1.pm l3⟩
            exact (e3.trans (Pm.swp E (Nat.le_refl _) (by have := HBM.out; omega) (by omega) (by have := HBM.out; omega) (by have := HBM.out; omega))).trans (l3.wide (Nat.le_refl _) (by have := HBM.out; omega))
          have HK : Hid (k < i ∧ k ≤ m) := by
            refine ⟨?_, ?_⟩ <;> omega
          have HE6 := Hid.mk' hw6
          obtain ⟨xi, xk⟩ := x
          obtain ⟨yi, yk⟩ := y
          dsimp only at b0 b1 b2 b3 hz0 hz1 HE6
          clear HL e1 e2 e3 e4 e5 hx hy hlE HW6 hw6 hu hk hi0
          go_upto_region 11 with fail
          go_region
          rw [HE6.out]
          clear b0 b1 b2 b3 f0 f1 f2 f3 hz0 hz1 hwu HE6
          go_wp2_with fail
          refine HC.out.mono ?_
          rintro e w7 ⟨rfl, HL7⟩
          clear HC
          go_wp2
          go_roundw
          case rel => exact ⟨k, by simp, HK.out.2, HL7⟩
          case measure => have := HK.out; simp [intOf]; omega
        · obtain rfl : i = 0 := by omega
          have HE : Hid (LeftW p g c n a b W wr D (Srt a b)) := by
            obtain ⟨E, e1, e2, e3, e4, e5⟩ := HL.out
            exact ⟨E, e1, e2, e3, e5.done⟩
          clear HL
          go_wp2
          go_end0
          exact ⟨rfl, HE.out⟩
end Hq
end Go.Proofs.YteclbmmhidmklaaDoor
