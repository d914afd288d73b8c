import Derived.Test.YteclbmmhidmklaaDoorSoS
/- A row that is sorted: by a heap. -/
namespace Go.Proofs.YteclbmmhidmklaaDoor
set_option linter.ambiguousOpen false
open Go.RowKit
namespace Hq
open Hh Ft
set_option linter.unusedSimpArgs false
set_option linter.unusedVariables false
attribute [local go_sem] Oper.semAt_some

/-- From f on lies a heap, the last one at its top: from lo on none is ahead of what is above it. -/
def Dn (lo hi f : Nat) (D : List It) : Prop := ∀ i c, lo ≤ i → (c = 2 * i + 1 ∨ c = 2 * i + 2) → c < hi → ahd (atD D (f + c)) (atD D (f + i)) = true

structure Dnx (lo hi f r : Nat) (D : List It) : Prop where
  off : ∀ i c, lo ≤ i → i ≠ r → (c = 2 * i + 1 ∨ c = 2 * i + 2) → c < hi → ahd (atD D (f + c)) (atD D (f + i)) = true
  by_ : ∀ q, lo ≤ q → (r = 2 * q + 1 ∨ r = 2 * q + 2) → ∀ c, (c = 2 * r + 1 ∨ c = 2 * r + 2) → c < hi → ahd (atD D (f + c)) (atD D (f + q)) = true

theorem Dnx.start {lo hi f : Nat} {D : List It} (h : Dn (lo + 1) hi f D) : Dnx lo hi f lo D :=
  ⟨fun i c h1 h2 h3 h4 => h i c (by omega) h3 h4, fun q h1 h2 => by omega⟩

theorem Dnx.step {lo hi f r k : Nat} {D : List It} (h : Dnx lo hi f r D) (hr : lo ≤ r) (hk : k = 2 * r + 1 ∨ k = 2 * r + 2) (hkh : k < hi) (hl : f + hi ≤ D.length) (hg : ahd (atD D (f + r)) (atD D (f + k)) = true) (hm : ∀ c, (c = 2 * r + 1 ∨ c = 2 * r + 2) → c < hi → c ≠ k → ahd (atD D (f + c)) (atD D (f + k)) = true) : Dnx lo hi f k (swp D (f + r) (f + k)) := by
  have hat := fun j => swp_at D (f + r) (f + k) j (by omega) (by omega)
  refine ⟨fun i c h1 h2 h3 h4 => ?_, fun q h1 h2 c h3 h4 => ?_⟩
  · rw [hat, hat, if_neg (show f + i ≠ f + k by omega)]
    by_cases e : i = r
    · rw [if_pos (show f + i = f + r by omega)]
      by_cases e2 : c = k
      · rw [if_pos (by omega)]
        exact hg
      · rw [if_neg (by omega), if_neg (by omega)]
        exact hm c (by omega) h4 e2
    · rw [if_neg (show f + i ≠ f + r by omega)]
      by_cases e2 : c = r
      · rw [if_neg (by omega), if_pos (by omega)]
        exact h.by_ i h1 (by omega) k hk hkh
      · rw [if_neg (by omega), if_neg (by omega)]
        exact h.off i c h1 e h3 h4
  · rw [hat, hat]
    have e : q = r := by omega
    rw [if_neg (show f + c ≠ f + k by omega), if_neg (show f + c ≠ f + r by omega), if_neg (show f + q ≠ f + k by omega), if_pos (show f + q = f + r by omega)]
    exact h.off k c (by omega) (by omega) h3 h4

theorem Dnx.stop {lo hi f r k : Nat} {D : List It} (h : Dnx lo hi f r D) (hu : Unl D) (hl : f + hi ≤ D.length) (hr : lo ≤ r) (hk : k = 2 * r + 1 ∨ k = 2 * r + 2) (hkh : k < hi) (hg : ahd (atD D (f + r)) (atD D (f + k)) = false) (hm : ∀ c, (c = 2 * r + 1 ∨ c = 2 * r + 2) → c < hi → c ≠ k → ahd (atD D (f + c)) (atD D (f + k)) = true) : Dn lo hi f D := by
  intro i c h1 h2 h3
  by_cases e : i = r
  · subst e
    have h4 : ahd (atD D (f + k)) (atD D (f + i)) = true := ahd_total (hu.ne (by omega) (by omega) (by omega)) (by rw [hg]; simp)
    by_cases e2 : c = k
    · rw [e2]
      exact h4
    · exact ahd_trans (hm c h2 h3 e2) h4
  · exact h.off i c h1 e h2 h3

theorem Dnx.end_ {lo hi f r : Nat} {D : List It} (h : Dnx lo hi f r D) (hr : hi ≤ 2 * r + 1) : Dn lo hi f D := fun i c h1 h2 h3 => h.off i c h1 (by omega) h2 h3

/-- The last one is at the top. -/
theorem Dn.top {hi f : Nat} {D : List It} (h : Dn 0 hi f D) : ∀ j, 0 < j → j < hi → ahd (atD D (f + j)) (atD D f) = true := by
  intro j
  induction j using Nat.strongRecOn with
  | ind j ih =>
    intro h0 hj
    have h1 := h ((j - 1) / 2) j (Nat.zero_le _) (by omega) hj
    by_cases e : (j - 1) / 2 = 0
    · rw [e] at h1
      exact h1
    · exact ahd_trans h1 (ih ((j - 1) / 2) (by omega) (by omega) (by omega))

set_option maxRecDepth 100000 in
set_option maxHeartbeats 8000000 in
theorem sift_p {p g c n : Nat} {W : World} {D : List It} (h : Sw p g c n W D) (lo hi f : Nat) (hf : f + hi ≤ n) (hlo : lo ≤ n) (hd : Dn (lo + 1) hi f D) :
    Calls Tryd.prog 78 #[slc g n c, nun lo, nun hi, nun f, cmpV p] W fun e W' => e = .returned (.tuple #[]) ∧ LeftW p g c n f (f + hi) W W' D (Dn lo hi f) := by
  have hn := h.big
  by_cases hbig : hi ≤ 2 * lo + 1
  · have h1 : 2 * (lo : Int) + 1 ≥ (hi : Int) := by omega
    have h2 : (hi : Int) ≤ 2 * (lo : Int) + 1 := by omega
    have HE : Hid (LeftW p g c n f (f + hi) W W D (Dn lo hi f)) := LeftW.refl h ((Dnx.start hd).end_ hbig)
    clear h hd
    go_enter Tryd.func78, Tryd.ntmps78
    go_wp2
    go_loopw [10, 11] (fun rv cv wr => rv = nun lo ∧ Hid (wr = W)) (fun _ _ _ => 0)
    case atStart => exact ⟨rfl, rfl⟩
    case round =>
      obtain ⟨rfl, HW⟩ := hrel
      have hw := HW.out
      subst hw
      go_wp2
      go_end0
      exact ⟨rfl, HE.out⟩
  · have hcap := (h.cap (by omega)).2
    have HS : Hid (LeftW p g c n f (f + hi) W W D (Dnx lo hi f lo)) := LeftW.refl h (Dnx.start hd)
    clear h hd
    go_enter Tryd.func78, Tryd.ntmps78
    go_wp2
    go_loopw [10, 11] (fun rv cv wr => ∃ r : Nat, rv = nun r ∧ lo ≤ r ∧ r < hi ∧ Hid (LeftW p g c n f (f + hi) W wr D (Dnx lo hi f r))) (fun rv _ _ => hi - (intOf rv).toNat)
    case atStart => exact ⟨lo, rfl, Nat.le_refl _, by omega, HS⟩
    case round =>
      clear HS
      obtain ⟨r, rfl, hlr, hrh, HL⟩ := hrel
      obtain ⟨E, e1, e2, e3, e4⟩ := HL.out
      by_cases hend : hi ≤ 2 * r + 1
      · have h1 : 2 * (r : Int) + 1 ≥ (hi : Int) := by omega
        have h2 : (hi : Int) ≤ 2 * (r : Int) + 1 := by omega
        have HE : Hid (LeftW p g c n f (f + hi) W wr D (Dn lo hi f)) := ⟨E, e1, e2, e3, e4.end_ hend⟩
        clear e1 e2 e3 e4 HL
        go_wp2
        go_end0
        exact ⟨rfl, HE.out⟩
      · obtain ⟨k1, hkk⟩ : ∃ k1, 2 * r + 1 = k1 := ⟨_, rfl⟩
        have hk1 : ¬ (k1 : Int) ≥ (hi : Int) := by omega
        have hk2 : ¬ (hi : Int) ≤ (k1 : Int) := by omega
        have hkI : 2 * (r : Int) + 1 = (k1 : Int) := by omega
        have hwk1 : IntKind.i64.wrap ((k1 : Int) + 1) = (k1 : Int) + 1 := by rw [wrap_i64]; omega
        clear HL
        by_cases hone : k1 + 1 < hi
        · have hoI : (k1 : Int) + 1 < (hi : Int) := by omega
          obtain ⟨u, hu⟩ : ∃ u, f + k1 = u := ⟨_, rfl⟩
          obtain ⟨v, hv⟩ : ∃ v, f + (k1 + 1) = v := ⟨_, rfl⟩
          have hun : u < n := by omega
          have hvn : v < n := by omega
          have huI : (u : Int) < (n : Int) := by omega
          have hvI : (v : Int) < (n : Int) := by omega
          have hu0 : (0 : Int) ≤ (u : Int) := by omega
          have hv0 : (0 : Int) ≤ (v : Int) := by omega
          have hwu : IntKind.i64.wrap ((f : Int) + (k1 : Int)) = (u : Int) := by rw [wrap_i64] <;> omega
          have hwv : IntKind.i64.wrap ((u : Int) + 1) = (v : Int) := by rw [wrap_i64] <;> omega
          obtain ⟨x, hx⟩ : ∃ x, atD E u = x := ⟨_, rfl⟩
          obtain ⟨y, hy⟩ : ∃ y, atD E v = y := ⟨_, rfl⟩
          obtain ⟨⟨⟨c0, c1, c2, c3⟩, hsd⟩, r1, HR, HC⟩ := e1.cmp (i := u) (j := v) hun hvn hx hy
          obtain ⟨s1, hs1⟩ : ∃ s1, ahd x y = s1 := ⟨_, rfl⟩
          rw [hs1] at HR
          have HSD := Hid.mk' hsd
          have hlE : f + hi ≤ E.length := by rw [e1.len]; exact hf
          cases s1 with
          | true =>
            have HGR : Hid ((k1 + 1 = 2 * r + 1 ∨ k1 + 1 = 2 * r + 2) ∧ k1 + 1 < hi ∧ ∀ c, (c = 2 * r + 1 ∨ c = 2 * r + 2) → c < hi → c ≠ k1 + 1 → ahd (atD E (f + c)) (atD E (f + (k1 + 1))) = true) := ⟨by omega, hone, fun c h1 h2 h3 => by
              obtain rfl : c = k1 := by omega
              rw [hu, hv, hx, hy]
              exact hs1⟩
            have hrd : decide (r1 < 0) = true := HR.out
            have HST : Hid (∀ w5, Below wr.heap.size wr w5 → Sw p g c n w5 E ∧ Keep (fun k => k = g) W w5 ∧ Pm f (f + hi) D E ∧ Dnx lo hi f r E) := fun w5 hb5 => ⟨e1.below hb5, keep_below e2 hb5, e3, e4⟩
            clear e1 e2 e3 e4 hx hy hsd hs1 hu hv hlE
            obtain ⟨xi, xk⟩ := x
            obtain ⟨yi, yk⟩ := y
            dsimp only at c0 c1 c2 c3 HC HSD
            go_wp2_with fail
            go_region_held3 (fun w' => w'.cell? ⟨g, u * 2, none⟩ = some (nu xi) ∧ w'.cell? ⟨g, u * 2 + 1, none⟩ = some (nu xk) ∧ w'.cell? ⟨g, v * 2, none⟩ = some (nu yi) ∧ w'.cell? ⟨g, v * 2 + 1, none⟩ = some (nu yk)) (first | assumption | exact HSD.out | exact hs5 | fail) (first | (go_at_call 50; with_reducible refine HC.out.mono ?_; rintro e w5 ⟨rfl, hs5, HB5⟩) | fail)
            obtain ⟨e1, e2, e3, e4⟩ := HST.out w5 HB5.out
            clear c0 c1 c2 c3 hs5 HB5 HC HSD HST hwu hwv huI hvI hu0 hv0 hun hvn hoI hone
            have hk9 := HGR.out
            obtain ⟨k, hkq⟩ : ∃ k, k1 + 1 = k := ⟨_, rfl⟩
            rw [hkq] at hk9
            have hkI2 : (k1 : Int) + 1 = (k : Int) := by omega
            have HKK : Hid (k1 + 1 = k ∧ 2 * r + 1 = k1) := ⟨hkq, hkk⟩
            clear HGR hkk hkq hwk1
            obtain ⟨wx, hwx⟩ : ∃ wx, w5 = wx := ⟨_, rfl⟩
            rw [hwx] at e1 e2 ⊢
            clear hwx
            go_upto_region 5 with fail
            have hks := hk9
            obtain ⟨hkc, hkh, hgr⟩ := hks
            obtain ⟨u, hu⟩ : ∃ u, f + r = u := ⟨_, rfl⟩
            obtain ⟨v, hv⟩ : ∃ v, f + k = v := ⟨_, rfl⟩
            have hun : u < n := by omega
            have hvn : v < n := by omega
            have huI : (u : Int) < (n : Int) := by omega
            have hvI : (v : Int) < (n : Int) := by omega
            have hu0 : (0 : Int) ≤ (u : Int) := by omega
            have hv0 : (0 : Int) ≤ (v : Int) := by omega
            have hwu : IntKind.i64.wrap ((f : Int) + (r : Int)) = (u : Int) := by rw [wrap_i64] <;> omega
            have hwv : IntKind.i64.wrap ((f : Int) + (k : Int)) = (v : Int) := by rw [wrap_i64] <;> omega
            obtain ⟨x, hx⟩ : ∃ x, atD E u = x := ⟨_, rfl⟩
            obtain ⟨y, hy⟩ : ∃ y, atD E v = y := ⟨_, rfl⟩
            obtain ⟨⟨⟨c0, c1, c2, c3⟩, hsd⟩, r2, HR, HC⟩ := e1.cmp (i := u) (j := v) hun hvn hx hy
            obtain ⟨s2, hs2⟩ : ∃ s2, ahd x y = s2 := ⟨_, rfl⟩
            rw [hs2] at HR
            have HSD := Hid.mk' hsd
            cases s2 with
            | true =>
              have hgq : ahd (atD E (f + r)) (atD E (f + k)) = true := by rw [hu, hv, hx, hy]; exact hs2
              have HSW : Hid (∀ w5, Below wx.heap.size wx w5 → Sw p g c n w5 E ∧ ∀ w6, Sw p g c n w6 (swp E u v) → Keep (fun k => k = g) w5 w6 → LeftW p g c n f (f + hi) W w6 D (Dnx lo hi f k)) := fun w5 hb5 => ⟨e1.below hb5, fun w6 s6 k6 => ⟨_, s6, keep_keep (keep_below e2 hb5) k6, e3.trans (Pm.swp E (by omega) (by omega) (by omega) (by omega) (by have := e1.len; omega)), by rw [← hu, ← hv]; exact e4.step hlr hkc hkh (by have := e1.len; omega) hgq hgr⟩⟩
              have HX := Hid.mk' hx
              have HY := Hid.mk' hy
              have hrd : decide (r2 < 0) = true := HR.out
              have HJ : Hid (u < n ∧ v < n ∧ k < hi ∧ r < k ∧ lo ≤ k) := by
                refine ⟨hun, hvn, hkh, ?_, ?_⟩ <;> omega
              clear e1 e2 e3 e4 hx hy hsd hs2 hgq hgr hk9 hu hv hkc
              obtain ⟨xi, xk⟩ := x
              obtain ⟨yi, yk⟩ := y
              dsimp only at c0 c1 c2 c3 HC HSD
              go_wp2_with fail
              go_region_held3 (fun w' => w'.cell? ⟨g, u * 2, none⟩ = some (nu xi) ∧ w'.cell? ⟨g, u * 2 + 1, none⟩ = some (nu xk) ∧ w'.cell? ⟨g, v * 2, none⟩ = some (nu yi) ∧ w'.cell? ⟨g, v * 2 + 1, none⟩ = some (nu yk)) (first | assumption | exact HSD.out | exact hs5 | fail) (first | (go_at_call 50; with_reducible refine HC.out.mono ?_; rintro e w5 ⟨rfl, hs5, HB5⟩) | fail)
              obtain ⟨s5, t5⟩ := HSW.out w5 HB5.out
              have T5 := Hid.mk' t5
              obtain ⟨⟨b0, b1, b2, b3⟩, ⟨f0, f1, f2, f3⟩, ⟨z0, hz0⟩, ⟨z1, hz1⟩, w6, hw6, HW6⟩ := s5.swap (i := u) (j := v) HJ.out.1 HJ.out.2.1 HX.out HY.out
              dsimp only at b0 b1 b2 b3 hz0 hz1 hw6
              have HL6 : Hid (LeftW p g c n f (f + hi) W w6 D (Dnx lo hi f k)) := T5.out w6 HW6.out.1 HW6.out.2
              have HE6 := Hid.mk' hw6
              clear s5 t5 T5 HSW c0 c1 c2 c3 hs5 HB5 HC HSD hw6 HW6
              go_upto_region 6 with fail
              go_region
              rw [HE6.out]
              clear b0 b1 b2 b3 f0 f1 f2 f3 hz0 hz1 hwu hwv
              go_wp2
              go_roundw
              case rel => exact ⟨k, rfl, HJ.out.2.2.2.2, HJ.out.2.2.1, HL6⟩
              case measure => have := HJ.out; simp [intOf]; omega
            | false =>
              have HST : Hid (∀ w5, Below wx.heap.size wx w5 → LeftW p g c n f (f + hi) W w5 D (Dn lo hi f)) := fun w5 hb5 => ⟨E, e1.below hb5, keep_below e2 hb5, e3, e4.stop e1.unl (by have := e1.len; omega) hlr hkc hkh (by rw [hu, hv, hx, hy]; exact hs2) hgr⟩
              have hrd : decide (r2 < 0) = false := HR.out
              clear e1 e2 e3 e4 hx hy hsd hs2 hgr hk9 hu hv hkc
              obtain ⟨xi, xk⟩ := x
              obtain ⟨yi, yk⟩ := y
              dsimp only at c0 c1 c2 c3 HC HSD
              go_wp2_with fail
              go_region_held3 (fun w' => w'.cell? ⟨g, u * 2, none⟩ = some (nu xi) ∧ w'.cell? ⟨g, u * 2 + 1, none⟩ = some (nu xk) ∧ w'.cell? ⟨g, v * 2, none⟩ = some (nu yi) ∧ w'.cell? ⟨g, v * 2 + 1, none⟩ = some (nu yk)) (first | assumption | exact HSD.out | exact hs5 | fail) (first | (go_at_call 50; with_reducible refine HC.out.mono ?_; rintro e w5 ⟨rfl, hs5, HB5⟩) | fail)
              have HL5 := Hid.mk' (HST.out w5 HB5.out)
              clear c0 c1 c2 c3 hs5 HB5 HC HSD HST hwu hwv
              go_wp2
              (try simp only [Exit.inBlock, Exit.then])
              refine bodyPost_ret (results_none rfl _ _ _) rfl ?_
              exact ⟨rfl, HL5.out⟩
          | false =>
            have HGR : Hid ((k1 = 2 * r + 1 ∨ k1 = 2 * r + 2) ∧ k1 < hi ∧ ∀ c, (c = 2 * r + 1 ∨ c = 2 * r + 2) → c < hi → c ≠ k1 → ahd (atD E (f + c)) (atD E (f + k1)) = true) := ⟨by omega, by omega, fun c h1 h2 h3 => by
              obtain rfl : c = k1 + 1 := by omega
              exact ahd_total (e1.unl.ne (by omega) (by omega) (by omega)) (by rw [hu, hv, hx, hy, hs1]; simp)⟩
            have hrd : decide (r1 < 0) = false := HR.out
            have HST : Hid (∀ w5, Below wr.heap.size wr w5 → Sw p g c n w5 E ∧ Keep (fun k => k = g) W w5 ∧ Pm f (f + hi) D E ∧ Dnx lo hi f r E) := fun w5 hb5 => ⟨e1.below hb5, keep_below e2 hb5, e3, e4⟩
            clear e1 e2 e3 e4 hx hy hsd hs1 hu hv hlE
            obtain ⟨xi, xk⟩ := x
            obtain ⟨yi, yk⟩ := y
            dsimp only at c0 c1 c2 c3 HC HSD
            go_wp2_with fail
            go_region_held3 (fun w' => w'.cell? ⟨g, u * 2, none⟩ = some (nu xi) ∧ w'.cell? ⟨g, u * 2 + 1, none⟩ = some (nu xk) ∧ w'.cell? ⟨g, v * 2, none⟩ = some (nu yi) ∧ w'.cell? ⟨g, v * 2 + 1, none⟩ = some (nu yk)) (first | assumption | exact HSD.out | exact hs5 | fail) (first | (go_at_call 50; with_reducible refine HC.out.mono ?_; rintro e w5 ⟨rfl, hs5, HB5⟩) | fail)
            obtain ⟨e1, e2, e3, e4⟩ := HST.out w5 HB5.out
            clear c0 c1 c2 c3 hs5 HB5 HC HSD HST hwu hwv huI hvI hu0 hv0 hun hvn hoI hone
            have hk9 := HGR.out
            have HKK : Hid (2 * r + 1 = k1) := hkk
            clear HGR hwk1 hkk
            obtain ⟨k, hkq⟩ : ∃ k, k1 = k := ⟨_, rfl⟩
            rw [hkq] at hk9 ⊢
            obtain ⟨wx, hwx⟩ : ∃ wx, w5 = wx := ⟨_, rfl⟩
            rw [hwx] at e1 e2 ⊢
            clear hwx
            go_upto_region 5 with fail
            have hks := hk9
            obtain ⟨hkc, hkh, hgr⟩ := hks
            obtain ⟨u, hu⟩ : ∃ u, f + r = u := ⟨_, rfl⟩
            obtain ⟨v, hv⟩ : ∃ v, f + k = v := ⟨_, rfl⟩
            have hun : u < n := by omega
            have hvn : v < n := by omega
            have huI : (u : Int) < (n : Int) := by omega
            have hvI : (v : Int) < (n : Int) := by omega
            have hu0 : (0 : Int) ≤ (u : Int) := by omega
            have hv0 : (0 : Int) ≤ (v : Int) := by omega
            have hwu : IntKind.i64.wrap ((f : Int) + (r : Int)) = (u : Int) := by rw [wrap_i64] <;> omega
            have hwv : IntKind.i64.wrap ((f : Int) + (k : Int)) = (v : Int) := by rw [wrap_i64] <;> omega
            obtain ⟨x, hx⟩ : ∃ x, atD E u = x := ⟨_, rfl⟩
            obtain ⟨y, hy⟩ : ∃ y, atD E v = y := ⟨_, rfl⟩
            obtain ⟨⟨⟨c0, c1, c2, c3⟩, hsd⟩, r2, HR, HC⟩ := e1.cmp (i := u) (j := v) hun hvn hx hy
            obtain ⟨s2, hs2⟩ : ∃ s2, ahd x y = s2 := ⟨_, rfl⟩
            rw [hs2] at HR
            have HSD := Hid.mk' hsd
            cases s2 with
            | true =>
              have hgq : ahd (atD E (f + r)) (atD E (f + k)) = true := by rw [hu, hv, hx, hy]; exact hs2
              have HSW : Hid (∀ w5, Below wx.heap.size wx w5 → Sw p g c n w5 E ∧ ∀ w6, Sw p g c n w6 (swp E u v) → Keep (fun k => k = g) w5 w6 → LeftW p g c n f (f + hi) W w6 D (Dnx lo hi f k)) := fun w5 hb5 => ⟨e1.below hb5, fun w6 s6 k6 => ⟨_, s6, keep_keep (keep_below e2 hb5) k6, e3.trans (Pm.swp E (by omega) (by omega) (by omega) (by omega) (by have := e1.len; omega)), by rw [← hu, ← hv]; exact e4.step hlr hkc hkh (by have := e1.len; omega) hgq hgr⟩⟩
              have HX := Hid.mk' hx
              have HY := Hid.mk' hy
              have hrd : decide (r2 < 0) = true := HR.out
              have HJ : Hid (u < n ∧ v < n ∧ k < hi ∧ r < k ∧ lo ≤ k) := by
                refine ⟨hun, hvn, hkh, ?_, ?_⟩ <;> omega
              clear e1 e2 e3 e4 hx hy hsd hs2 hgq hgr hk9 hu hv hkc
              obtain ⟨xi, xk⟩ := x
              obtain ⟨yi, yk⟩ := y
              dsimp only at c0 c1 c2 c3 HC HSD
              go_wp2_with fail
              go_region_held3 (fun w' => w'.cell? ⟨g, u * 2, none⟩ = some (nu xi) ∧ w'.cell? ⟨g, u * 2 + 1, none⟩ = some (nu xk) ∧ w'.cell? ⟨g, v * 2, none⟩ = some (nu yi) ∧ w'.cell? ⟨g, v * 2 + 1, none⟩ = some (nu yk)) (first | assumption | exact HSD.out | exact hs5 | fail) (first | (go_at_call 50; with_reducible refine HC.out.mono ?_; rintro e w5 ⟨rfl, hs5, HB5⟩) | fail)
              obtain ⟨s5, t5⟩ := HSW.out w5 HB5.out
              have T5 := Hid.mk' t5
              obtain ⟨⟨b0, b1, b2, b3⟩, ⟨f0, f1, f2, f3⟩, ⟨z0, hz0⟩, ⟨z1, hz1⟩, w6, hw6, HW6⟩ := s5.swap (i := u) (j := v) HJ.out.1 HJ.out.2.1 HX.out HY.out
              dsimp only at b0 b1 b2 b3 hz0 hz1 hw6
              have HL6 : Hid (LeftW p g c n f (f + hi) W w6 D (Dnx lo hi f k)) := T5.out w6 HW6.out.1 HW6.out.2
              have HE6 := Hid.mk' hw6
              clear s5 t5 T5 HSW c0 c1 c2 c3 hs5 HB5 HC HSD hw6 HW6
              go_upto_region 6 with fail
              go_region
              rw [HE6.out]
              clear b0 b1 b2 b3 f0 f1 f2 f3 hz0 hz1 hwu hwv
              go_wp2
              go_roundw
              case rel => exact ⟨k, rfl, HJ.out.2.2.2.2, HJ.out.2.2.1, HL6⟩
              case measure => have := HJ.out; simp [intOf]; omega
            | false =>
              have HST : Hid (∀ w5, Below wx.heap.size wx w5 → LeftW p g c n f (f + hi) W w5 D (Dn lo hi f)) := fun w5 hb5 => ⟨E, e1.below hb5, keep_below e2 hb5, e3, e4.stop e1.unl (by have := e1.len; omega) hlr hkc hkh (by rw [hu, hv, hx, hy]; exact hs2) hgr⟩
              have hrd : decide (r2 < 0) = false := HR.out
              clear e1 e2 e3 e4 hx hy hsd hs2 hgr hk9 hu hv hkc
              obtain ⟨xi, xk⟩ := x
              obtain ⟨yi, yk⟩ := y
              dsimp only at c0 c1 c2 c3 HC HSD
              go_wp2_with fail
              go_region_held3 (fun w' => w'.cell? ⟨g, u * 2, none⟩ = some (nu xi) ∧ w'.cell? ⟨g, u * 2 + 1, none⟩ = some (nu xk) ∧ w'.cell? ⟨g, v * 2, none⟩ = some (nu yi) ∧ w'.cell? ⟨g, v * 2 + 1, none⟩ = some (nu yk)) (first | assumption | exact HSD.out | exact hs5 | fail) (first | (go_at_call 50; with_reducible refine HC.out.mono ?_; rintro e w5 ⟨rfl, hs5, HB5⟩) | fail)
              have HL5 := Hid.mk' (HST.out w5 HB5.out)
              clear c0 c1 c2 c3 hs5 HB5 HC HSD HST hwu hwv
              go_wp2
              (try simp only [Exit.inBlock, Exit.then])
              refine bodyPost_ret (results_none rfl _ _ _) rfl ?_
              exact ⟨rfl, HL5.out⟩
        · have hoI : decide ((k1 : Int) + 1 < (hi : Int)) = false := decide_eq_false (by omega)
          have HGR : Hid ((k1 = 2 * r + 1 ∨ k1 = 2 * r + 2) ∧ k1 < hi ∧ ∀ c, (c = 2 * r + 1 ∨ c = 2 * r + 2) → c < hi → c ≠ k1 → ahd (atD E (f + c)) (atD E (f + k1)) = true) := ⟨by omega, by omega, fun c h1 h2 h3 => by omega⟩
          have HST : Hid (∀ w5, Below wr.heap.size wr w5 → Sw p g c n w5 E ∧ Keep (fun k => k = g) W w5 ∧ Pm f (f + hi) D E ∧ Dnx lo hi f r E) := fun w5 hb5 => ⟨e1.below hb5, keep_below e2 hb5, e3, e4⟩
          clear e1 e2 e3 e4
          go_wp2_with fail
          go_quiet (fail)
          go_upto_region 5 with fail
          obtain ⟨e1, e2, e3, e4⟩ := HST.out (wr.drewN nq) ⟨rfl, rfl, rfl, Nat.le_refl _, fun _ _ => rfl⟩
          have hk9 := HGR.out
          have HKK : Hid (2 * r + 1 = k1) := hkk
          clear HGR HST hwk1 hkk hoI hone
          obtain ⟨k, hkq⟩ : ∃ k, k1 = k := ⟨_, rfl⟩
          rw [hkq] at hk9 ⊢
          obtain ⟨wx, hwx⟩ : ∃ wx, wr.drewN nq = wx := ⟨_, rfl⟩
          rw [hwx] at e1 e2 ⊢
          clear hwx
          have hks := hk9
          obtain ⟨hkc, hkh, hgr⟩ := hks
          obtain ⟨u, hu⟩ : ∃ u, f + r = u := ⟨_, rfl⟩
          obtain ⟨v, hv⟩ : ∃ v, f + k = v := ⟨_, rfl⟩
          have hun : u < n := by omega
          have hvn : v < n := by omega
          have huI : (u : Int) < (n : Int) := by omega
          have hvI : (v : Int) < (n : Int) := by omega
          have hu0 : (0 : Int) ≤ (u : Int) := by omega
          have hv0 : (0 : Int) ≤ (v : Int) := by omega
          have hwu : IntKind.i64.wrap ((f : Int) + (r : Int)) = (u : Int) := by rw [wrap_i64] <;> omega
          have hwv : IntKind.i64.wrap ((f : Int) + (k : Int)) = (v : Int) := by rw [wrap_i64] <;> omega
          obtain ⟨x, hx⟩ : ∃ x, atD E u = x := ⟨_, rfl⟩
          obtain ⟨y, hy⟩ : ∃ y, atD E v = y := ⟨_, rfl⟩
          obtain ⟨⟨⟨c0, c1, c2, c3⟩, hsd⟩, r2, HR, HC⟩ := e1.cmp (i := u) (j := v) hun hvn hx hy
          obtain ⟨s2, hs2⟩ : ∃ s2, ahd x y = s2 := ⟨_, rfl⟩
          rw [hs2] at HR
          have HSD := Hid.mk' hsd
          cases s2 with
          | true =>
            have hgq : ahd (atD E (f + r)) (atD E (f + k)) = true := by rw [hu, hv, hx, hy]; exact hs2
            have HSW : Hid (∀ w5, Below wx.heap.size wx w5 → Sw p g c n w5 E ∧ ∀ w6, Sw p g c n w6 (swp E u v) → Keep (fun k => k = g) w5 w6 → LeftW p g c n f (f + hi) W w6 D (Dnx lo hi f k)) := fun w5 hb5 => ⟨e1.below hb5, fun w6 s6 k6 => ⟨_, s6, keep_keep (keep_below e2 hb5) k6, e3.trans (Pm.swp E (by omega) (by omega) (by omega) (by omega) (by have := e1.len; omega)), by rw [← hu, ← hv]; exact e4.step hlr hkc hkh (by have := e1.len; omega) hgq hgr⟩⟩
            have HX := Hid.mk' hx
            have HY := Hid.mk' hy
            have hrd : decide (r2 < 0) = true := HR.out
            have HJ : Hid (u < n ∧ v < n ∧ k < hi ∧ r < k ∧ lo ≤ k) := by
              refine ⟨hun, hvn, hkh, ?_, ?_⟩ <;> omega
            clear e1 e2 e3 e4 hx hy hsd hs2 hgq hgr hk9 hu hv hkc
            obtain ⟨xi, xk⟩ := x
            obtain ⟨yi, yk⟩ := y
            dsimp only at c0 c1 c2 c3 HC HSD
            go_wp2_with fail
            go_region_held3 (fun w' => w'.cell? ⟨g, u * 2, none⟩ = some (nu xi) ∧ w'.cell? ⟨g, u * 2 + 1, none⟩ = some (nu xk) ∧ w'.cell? ⟨g, v * 2, none⟩ = some (nu yi) ∧ w'.cell? ⟨g, v * 2 + 1, none⟩ = some (nu yk)) (first | assumption | exact HSD.out | exact hs5 | fail) (first | (go_at_call 50; with_reducible refine HC.out.mono ?_; rintro e w5 ⟨rfl, hs5, HB5⟩) | fail)
            obtain ⟨s5, t5⟩ := HSW.out w5 HB5.out
            have T5 := Hid.mk' t5
            obtain ⟨⟨b0, b1, b2, b3⟩, ⟨f0, f1, f2, f3⟩, ⟨z0, hz0⟩, ⟨z1, hz1⟩, w6, hw6, HW6⟩ := s5.swap (i := u) (j := v) HJ.out.1 HJ.out.2.1 HX.out HY.out
            dsimp only at b0 b1 b2 b3 hz0 hz1 hw6
            have HL6 : Hid (LeftW p g c n f (f + hi) W w6 D (Dnx lo hi f k)) := T5.out w6 HW6.out.1 HW6.out.2
            have HE6 := Hid.mk' hw6
            clear s5 t5 T5 HSW c0 c1 c2 c3 hs5 HB5 HC HSD hw6 HW6
            go_upto_region 6 with fail
            go_region
            rw [HE6.out]
            clear b0 b1 b2 b3 f0 f1 f2 f3 hz0 hz1 hwu hwv
            go_wp2
            go_roundw
            case rel => exact ⟨k, rfl, HJ.out.2.2.2.2, HJ.out.2.2.1, HL6⟩
            case measure => have := HJ.out; simp [intOf]; omega
          | false =>
            have HST : Hid (∀ w5, Below wx.heap.size wx w5 → LeftW p g c n f (f + hi) W w5 D (Dn lo hi f)) := fun w5 hb5 => ⟨E, e1.below hb5, keep_below e2 hb5, e3, e4.stop e1.unl (by have := e1.len; omega) hlr hkc hkh (by rw [hu, hv, hx, hy]; exact hs2) hgr⟩
            have hrd : decide (r2 < 0) = false := HR.out
            clear e1 e2 e3 e4 hx hy hsd hs2 hgr hk9 hu hv hkc
            obtain ⟨xi, xk⟩ := x
            obtain ⟨yi, yk⟩ := y
            dsimp only at c0 c1 c2 c3 HC HSD
            go_wp2_with fail
            go_region_held3 (fun w' => w'.cell? ⟨g, u * 2, none⟩ = some (nu xi) ∧ w'.cell? ⟨g, u * 2 + 1, none⟩ = some (nu xk) ∧ w'.cell? ⟨g, v * 2, none⟩ = some (nu yi) ∧ w'.cell? ⟨g, v * 2 + 1, none⟩ = some (nu yk)) (first | assumption | exact HSD.out | exact hs5 | fail) (first | (go_at_call 50; with_reducible refine HC.out.mono ?_; rintro e w5 ⟨rfl, hs5, HB5⟩) | fail)
            have HL5 := Hid.mk' (HST.out w5 HB5.out)
            clear c0 c1 c2 c3 hs5 HB5 HC HSD HST hwu hwv
            go_wp2
            (try simp only [Exit.inBlock, Exit.then])
            refine bodyPost_ret (results_none rfl _ _ _) rfl ?_
            exact ⟨rfl, HL5.out⟩
end Hq
end Go.Proofs.YteclbmmhidmklaaDoor
