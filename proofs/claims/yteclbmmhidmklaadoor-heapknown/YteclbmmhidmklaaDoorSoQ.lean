import Derived.Test.YteclbmmhidmklaaDoorSoI
import Derived.Test.YteclbmmhidmklaaDoorSoJ
import Derived.Test.YteclbmmhidmklaaDoorSoV
import Derived.Test.YteclbmmhidmklaaDoorSoB
import Derived.Test.YteclbmmhidmklaaDoorSoT
import Derived.Test.YteclbmmhidmklaaDoorSoA
/- A row that is sorted: pdqsort. -/
namespace Go.Proofs.YteclbmmhidmklaaDoor
set_option linter.ambiguousOpen false
open Go.RowKit
namespace Hq
open Hh Ft
set_option linter.unusedSimpArgs false
set_option linter.unusedVariables false
attribute [local go_sem] Oper.semAt_some

/-- From a to b all stand in their order, but for those from u to v among themselves. -/
def Out (a b u v : Nat) (D : List It) : Prop := ∀ x y, a ≤ x → x < y → y < b → ¬ (u ≤ x ∧ y < v) → ahd (atD D x) (atD D y) = true

theorem Out.start (a b : Nat) (D : List It) : Out a b a b D := fun x y h1 h2 h3 h4 => absurd ⟨h1, h3⟩ h4

theorem Out.pm {a b u v : Nat} {D E : List It} (h : Out a b u v D) (hp : Pm u v D E) (hu : a ≤ u) (hv : v ≤ b) : Out a b u v E := by
  intro x y h1 h2 h3 h4
  by_cases hx : u ≤ x ∧ x < v
  · obtain ⟨k, k1, k2, k3⟩ := hp.seg x hx.1 hx.2
    rw [k3, hp.out y (by omega)]
    exact h k y (by omega) (by omega) h3 (by omega)
  · by_cases hy : u ≤ y ∧ y < v
    · obtain ⟨k, k1, k2, k3⟩ := hp.seg y hy.1 hy.2
      rw [k3, hp.out x (by omega)]
      exact h x k h1 (by omega) (by omega) (by omega)
    · rw [hp.out x (by omega), hp.out y (by omega)]
      exact h x y h1 h2 h3 h4

theorem Out.done {a b u v : Nat} {D : List It} (h : Out a b u v D) (hs : Srt u v D) : Srt a b D := fun x y h1 h2 h3 => by
  by_cases hc : u ≤ x ∧ y < v
  · exact hs x y hc.1 h2 hc.2
  · exact h x y h1 h2 h3 hc

theorem Out.bef {a b u v : Nat} {D : List It} (h : Out a b u v D) (hb : Bef a b D) (hu : a ≤ u) (hv : v ≤ b) : Bef u v D := fun x y h1 h2 h3 => by
  by_cases hx : x < a
  · exact hb x y hx (by omega) (by omega)
  · exact h x y (by omega) (by omega) (by omega) (by omega)

theorem Out.left {a b u v m : Nat} {D E : List It} (h : Out a b u v D) (hm : Mid u v m D) (h1 : u ≤ m) (h2 : m < v) (hu : a ≤ u) (hv : v ≤ b) (hp : Pm u m D E) (hs : Srt u m E) : Out a b (m + 1) v E := by
  have h' := h.pm (hp.wide (Nat.le_refl _) (Nat.le_of_lt h2)) hu hv
  have hlo : ∀ x, u ≤ x → x < m → ahd (atD E x) (atD E m) = true := fun x x1 x2 => by
    obtain ⟨k, k1, k2, k3⟩ := hp.seg x x1 x2
    rw [k3, hp.out m (by omega)]
    exact hm.1 k k1 k2
  have hhi : ∀ y, m < y → y < v → ahd (atD E m) (atD E y) = true := fun y y1 y2 => by
    rw [hp.out m (by omega), hp.out y (by omega)]
    exact hm.2 y y1 y2
  intro x y x1 x2 x3 x4
  by_cases hc : u ≤ x ∧ y < v
  · by_cases c1 : y < m
    · exact hs x y hc.1 x2 c1
    · by_cases c2 : y = m
      · rw [c2]
        exact hlo x hc.1 (by omega)
      · by_cases c3 : x = m
        · rw [c3]
          exact hhi y (by omega) hc.2
        · exact ahd_trans (hlo x hc.1 (by omega)) (hhi y (by omega) hc.2)
  · exact h' x y x1 x2 x3 hc

theorem Out.right {a b u v m : Nat} {D E : List It} (h : Out a b u v D) (hm : Mid u v m D) (h1 : u ≤ m) (h2 : m < v) (hu : a ≤ u) (hv : v ≤ b) (hp : Pm (m + 1) v D E) (hs : Srt (m + 1) v E) : Out a b u m E := by
  have h' := h.pm (hp.wide (by omega) (Nat.le_refl _)) hu hv
  have hlo : ∀ x, u ≤ x → x < m → ahd (atD E x) (atD E m) = true := fun x x1 x2 => by
    rw [hp.out m (by omega), hp.out x (by omega)]
    exact hm.1 x x1 x2
  have hhi : ∀ y, m < y → y < v → ahd (atD E m) (atD E y) = true := fun y y1 y2 => by
    obtain ⟨k, k1, k2, k3⟩ := hp.seg y (by omega) y2
    rw [k3, hp.out m (by omega)]
    exact hm.2 k (by omega) k2
  intro x y x1 x2 x3 x4
  by_cases hc : u ≤ x ∧ y < v
  · by_cases c1 : m < x
    · exact hs x y (by omega) x2 hc.2
    · by_cases c2 : x = m
      · rw [c2]
        exact hhi y (by omega) hc.2
      · by_cases c3 : y = m
        · rw [c3]
          exact hlo x hc.1 (by omega)
        · exact ahd_trans (hlo x hc.1 (by omega)) (hhi y (by omega) hc.2)
  · exact h' x y x1 x2 x3 hc

theorem Mid.bef {u v m : Nat} {D : List It} (hm : Mid u v m D) (hb : Bef u v D) (h1 : u ≤ m) (h2 : m < v) : Bef (m + 1) v D := fun x y x1 x2 x3 => by
  by_cases c1 : x < u
  · exact hb x y c1 (by omega) x3
  · by_cases c2 : x = m
    · rw [c2]
      exact hm.2 y (by omega) x3
    · exact ahd_trans (hm.1 x (by omega) (by omega)) (hm.2 y (by omega) x3)

def PartQ (p g c n a b u v : Nat) (W W' : World) (D : List It) (e : Ending) : Prop := ∃ o : Bool, e = .returned (.bool o) ∧ LeftW p g c n a b W W' D (fun E => Out a b u v E ∧ (o = true → Srt u v E))

set_option maxRecDepth 100000 in
set_option maxHeartbeats 16000000 in
theorem pdq_p {p g c n : Nat} (N : Nat) : ∀ {W : World} {D : List It} (h : Sw p g c n W D) (a b lim : Nat) (hab : a ≤ b) (hb : b ≤ n) (hN : b - a < N) (hlim : lim ≤ 1000) (hbf : Bef a b D),
    Calls Tryd.prog 60 #[slc g n c, nun a, nun b, nun lim, cmpV p] W fun e W' => e = .returned (.tuple #[]) ∧ LeftW p g c n a b W W' D (Srt a b) := by
  induction N with
  | zero => exact fun _ a b lim _ _ hN _ _ => absurd hN (by omega)
  | succ N IH =>
    intro W D h a b lim hab hb hN hlim hbf
    have hn := h.big
    have HBF := Hid.mk' hbf
    have HS0 : Hid (LeftW p g c n a b W W D (Out a b a b)) := LeftW.refl h (Out.start _ _ _)
    have HC0 : Hid (12 < b - a → (c : Int) ≤ 9223372036854775807) := fun h1 => (h.cap (by omega)).2
    clear h hbf
    go_enter Tryd.func60, Tryd.ntmps60
    go_wp2_with fail
    go_loopw [1, 2, 3, 10, 11, 12, 13, 14, 15, 16, 17, 18, 19, 20] (fun av bv lv wbv wpv v12 v13 v14 v15 v16 v17 v18 v19 v20 wr => ∃ (a' b' lm : Nat) (wb wp : Bool), av = nun a' ∧ bv = nun b' ∧ lv = nun lm ∧ wbv = .bool wb ∧ wpv = .bool wp ∧ a ≤ a' ∧ a' ≤ b' ∧ b' ≤ b ∧ lm ≤ 1000 ∧ Hid (LeftW p g c n a b W wr D (Out a b a' b'))) (fun av bv _ _ _ _ _ _ _ _ _ _ _ _ _ => (intOf bv).toNat - (intOf av).toNat)
    case atStart => exact ⟨a, b, lim, true, true, rfl, rfl, rfl, rfl, rfl, Nat.le_refl _, hab, Nat.le_refl _, hlim, HS0⟩
    case round =>
      clear HS0
      obtain ⟨a', b', lm, wb, wp, rfl, rfl, rfl, rfl, rfl, ha1, hab1, hb1, hlm, HL⟩ := hrel
      obtain ⟨l, hl⟩ : ∃ l, b' - a' = l := ⟨_, rfl⟩
      have hlI9 : (b' : Int) - (a' : Int) = (l : Int) := by omega
      have hlb : l ≤ 65536 := by omega
      by_cases h12 : l ≤ 12
      · have h12I : (l : Int) ≤ 12 := by omega
        have HC : Hid (Calls Tryd.prog 67 #[slc g n c, nun a', nun b', cmpV p] wr fun e W' => e = .returned (.tuple #[]) ∧ Hid (LeftW p g c n a b W W' D (Srt a b))) := by
          obtain ⟨E, e1, e2, e3, e4⟩ := HL.out
          refine (insertion_p e1 a' b' (by omega) hab1).mono ?_
          rintro e W' ⟨rfl, F, f1, f2, f3, f4⟩
          exact ⟨rfl, F, f1, keep_keep e2 f2, e3.trans (f3.wide ha1 hb1), (e4.pm f3 ha1 hb1).done f4⟩
        clear HL
        go_wp2_with fail
        refine HC.out.mono ?_
        rintro e w3 ⟨rfl, HE⟩
        clear HC
        go_wp2
        (try simp only [Exit.inBlock, Exit.then])
        refine bodyPost_ret (results_none rfl _ _ _) rfl ?_
        exact ⟨rfl, HE.out⟩
      · have h12I : ¬ (l : Int) ≤ 12 := by omega
        have hbig : a' + 12 < b' := by omega
        have hcap := HC0.out (by omega)
        by_cases hl0 : lm = 0
        · have hlI : ((lm : Int) == 0) = true := by
            rw [hl0]
            rfl
          have HC : Hid (Calls Tryd.prog 68 #[slc g n c, nun a', nun b', cmpV p] wr fun e W' => e = .returned (.tuple #[]) ∧ Hid (LeftW p g c n a b W W' D (Srt a b))) := by
            obtain ⟨E, e1, e2, e3, e4⟩ := HL.out
            refine (heapSort_p e1 a' b' (by omega) hbig).mono ?_
            rintro e W' ⟨rfl, F, f1, f2, f3, f4⟩
            exact ⟨rfl, F, f1, keep_keep e2 f2, e3.trans (f3.wide ha1 hb1), (e4.pm f3 ha1 hb1).done f4⟩
          clear HL hl0
          go_wp2_with fail
          refine HC.out.mono ?_
          rintro e w3 ⟨rfl, HE⟩
          clear HC
          go_wp2
          (try simp only [Exit.inBlock, Exit.then])
          refine bodyPost_ret (results_none rfl _ _ _) rfl ?_
          exact ⟨rfl, HE.out⟩
        · have hlI : ((lm : Int) == 0) = false := by
            simp only [beq_eq_false_iff_ne]
            omega
          obtain ⟨t8, ht8⟩ : ∃ t8, l / 8 = t8 := ⟨_, rfl⟩
          have ht8I : Int.tdiv (l : Int) 8 = (t8 : Int) := by
            rw [Int.tdiv_eq_ediv_of_nonneg (by omega)]
            omega
          have ht8b : t8 ≤ 65536 := by omega
          clear ht8 hl
          cases wb with
          | false =>
            have c2 : Hid (Calls Tryd.prog 69 #[slc g n c, nun a', nun b', cmpV p] wr fun e W' => e = .returned (.tuple #[]) ∧ Hid (LeftW p g c n a b W W' D (Out a b a' b'))) := by
              obtain ⟨E, e1, e2, e3, e4⟩ := HL.out
              refine (break_p e1 a' b' (by omega) hbig).mono ?_
              rintro e W' ⟨rfl, F, f1, f2, f3, _⟩
              exact ⟨rfl, F, f1, keep_keep e2 f2, e3.trans (f3.wide ha1 hb1), e4.pm f3 ha1 hb1⟩
            obtain ⟨li, hli1⟩ : ∃ li, li + 1 = lm := ⟨lm - 1, by omega⟩
            have hliI : (lm : Int) - 1 = (li : Int) := by omega
            have hli : li ≤ 1000 := by omega
            clear HL hli1
            go_wp2_with fail
            refine c2.out.mono ?_
            rintro e w8 ⟨rfl, HS⟩
            clear c2
            obtain ⟨wx, hwx⟩ : ∃ wx, w8 = wx := ⟨_, rfl⟩
            rw [hwx] at HS ⊢
            clear hwx
            have c3 : Hid (Calls Tryd.prog 70 #[slc g n c, nun a', nun b', cmpV p] wx fun e W' => ∃ (v : Nat) (o : Int), e = .returned (.tuple #[nun v, .int .i64 o]) ∧ (0 ≤ o ∧ o ≤ 2) ∧ (a' ≤ v ∧ v < b') ∧ Hid (LeftW p g c n a b W W' D (Out a b a' b'))) := by
              obtain ⟨E, e1, e2, e3, e4⟩ := HS.out
              refine (pivot_p e1 a' b' (by omega) hbig).mono ?_
              rintro e W' ⟨v, o, rfl, h1, h2, h3, h4, f1, f2⟩
              exact ⟨v, o, rfl, ⟨h1, h2⟩, ⟨h3, h4⟩, E, f1, keep_below e2 f2, e3, e4⟩
            clear HS
            go_wp2_with fail
            refine c3.out.mono ?_
            rintro e w8 ⟨v, o, rfl, ho, hv, HS⟩
            clear c3
            obtain ⟨wx, hwx⟩ : ∃ wx, w8 = wx := ⟨_, rfl⟩
            rw [hwx] at HS ⊢
            clear hwx
            by_cases ho2 : o = 2
            · subst ho2
              clear ho
              as_aux_lemma =>
                have c4 : Hid (Calls Tryd.prog 71 #[slc g n c, nun a', nun b', cmpV p] wx fun e W' => e = .returned (.tuple #[]) ∧ Hid (LeftW p g c n a b W W' D (Out a b a' b'))) := by
                  obtain ⟨E, e1, e2, e3, e4⟩ := HS.out
                  refine (reverse_p e1 a' b' (by omega) (by omega)).mono ?_
                  rintro e W' ⟨rfl, F, f1, f2, f3, _⟩
                  exact ⟨rfl, F, f1, keep_keep e2 f2, e3.trans (f3.wide ha1 hb1), e4.pm f3 ha1 hb1⟩
                obtain ⟨nv, hnv⟩ : ∃ nv, b' - 1 - (v - a') = nv := ⟨_, rfl⟩
                have hnvI : (b' : Int) - 1 - ((v : Int) - (a' : Int)) = (nv : Int) := by omega
                have hv' : a' ≤ nv ∧ nv < b' := by omega
                clear HS hnv
                go_wp2_with fail
                refine c4.out.mono ?_
                rintro e w8 ⟨rfl, HS⟩
                clear c4 hv
                obtain ⟨v, hvv⟩ : ∃ v, nv = v := ⟨_, rfl⟩
                rw [hvv] at hv' hnvI
                have hv := hv'
                obtain ⟨wx, hwx⟩ : ∃ wx, w8 = wx := ⟨_, rfl⟩
                rw [hwx] at HS ⊢
                clear hwx hv' hvv nv
                have HP0 : Hid (∀ w5, Below wx.heap.size wx w5 → Calls Tryd.prog 74 #[slc g n c, nun a', nun b', nun v, cmpV p] w5 fun e W' => ∃ (m : Nat) (o : Bool), e = .returned (.tuple #[nun m, .bool o]) ∧ (a' ≤ m ∧ m < b' ∧ b' ≤ b ∧ b ≤ n ∧ a ≤ a' ∧ b - a < N + 1) ∧ LeftW p g c n a b W W' D (fun F => Out a b a' b' F ∧ Mid a' b' m F ∧ Bef a' b' F)) := fun w5 hb5 => by
                  obtain ⟨E, e1, e2, e3, e4⟩ := HS.out
                  refine (partition_p (e1.below hb5) a' b' v (by omega) hbig hv.1 hv.2).mono ?_
                  rintro e W' ⟨m, o, rfl, h1, h2, F, f1, f2, f3, f4⟩
                  exact ⟨m, o, rfl, ⟨h1, h2, hb1, hb, ha1, hN⟩, F, f1, keep_keep (keep_below e2 hb5) f2, e3.trans (f3.wide ha1 hb1), e4.pm f3 ha1 hb1, f4, (e4.bef (HBF.out.pm e3) ha1 hb1).pm f3⟩
                by_cases ha0 : 0 < a'
                · have ha0I : (a' : Int) > 0 := by omega
                  have ha0I2 : (0 : Int) < (a' : Int) := by omega
                  obtain ⟨u, hu⟩ : ∃ u, u + 1 = a' := ⟨a' - 1, by omega⟩
                  have hun : (u : Int) < (n : Int) := by omega
                  have hu0 : (0 : Int) ≤ (u : Int) := by omega
                  have hvn : (v : Int) < (n : Int) := by omega
                  have hv0 : (0 : Int) ≤ (v : Int) := by omega
                  have hwu : IntKind.i64.wrap ((a' : Int) - 1) = (u : Int) := by rw [wrap_i64] <;> omega
                  obtain ⟨E, e1, e2, e3, e4⟩ := HS.out
                  obtain ⟨x, hx⟩ : ∃ x, atD E u = x := ⟨_, rfl⟩
                  obtain ⟨y, hy⟩ : ∃ y, atD E v = y := ⟨_, rfl⟩
                  obtain ⟨⟨⟨c0, c1, c2, c3⟩, hsd⟩, r, HR, HC⟩ := e1.cmp (i := u) (j := v) (by omega) (by omega) hx hy
                  have hbe := (e4.bef (HBF.out.pm e3) ha1 hb1) u v (by omega) hv.1 hv.2
                  rw [hx, hy] at hbe
                  rw [hbe] at HR
                  have hrd : decide (r < 0) = true := HR.out
                  have HSD := Hid.mk' hsd
                  clear e1 e2 e3 e4 hx hy hsd hbe HS hu
                  obtain ⟨xi, xk⟩ := x
                  obtain ⟨yi, yk⟩ := y
                  dsimp only at c0 c1 c2 c3 HC HSD
                  go_wp2_with fail
                  go_region_held3 (fun w' => w'.cell? ⟨g, u * 2, none⟩ = some (nu xi) ∧ w'.cell? ⟨g, u * 2 + 1, none⟩ = some (nu xk) ∧ w'.cell? ⟨g, v * 2, none⟩ = some (nu yi) ∧ w'.cell? ⟨g, v * 2 + 1, none⟩ = some (nu yk)) (first | assumption | exact HSD.out | exact hs5 | fail) (first | (go_at_call 50; with_reducible refine HC.out.mono ?_; rintro e w5 ⟨rfl, hs5, HB5⟩) | fail)
                  have c9 := Hid.mk' (HP0.out w5 HB5.out)
                  clear c0 c1 c2 c3 hs5 HB5 HC HSD HP0 hwu
                  go_wp2_with fail
                  refine c9.out.mono ?_
                  rintro e w2 ⟨m, o, rfl, hpm, hp⟩
                  have hL := True.intro
                  clear c9
                  have HP := Hid.mk' hp
                  have HPM := Hid.mk' hpm
                  clear hp hpm hL
                  have hma : (m : Int) - (a' : Int) = ((m - a' : Nat) : Int) := by have := HPM.out; omega
                  have hbm : (b' : Int) - (m : Int) = ((b' - m : Nat) : Int) := by have := HPM.out; omega
                  obtain ⟨ll, hll⟩ : ∃ ll, m - a' = ll := ⟨_, rfl⟩
                  obtain ⟨rl, hrl⟩ : ∃ rl, b' - m = rl := ⟨_, rfl⟩
                  rw [hll] at hma
                  rw [hrl] at hbm
                  have hllb : ll ≤ 65536 := by have := HPM.out; omega
                  have hrlb : rl ≤ 65536 := by have := HPM.out; omega
                  by_cases hlr : ll < rl
                  · have hlrI : (ll : Int) < (rl : Int) := by omega
                    have HC : Hid (Calls Tryd.prog 60 #[slc g n c, nun a', nun m, nun li, cmpV p] w2 fun e W' => e = .returned (.tuple #[]) ∧ Hid (LeftW p g c n a b W W' D (Out a b (m + 1) b'))) := by
                      obtain ⟨F, f1, f2, f3, f4, f5, f6⟩ := HP.out
                      have hpmo := HPM.out
                      refine (IH f1 a' m li (by omega) (by omega) (by omega) hli (fun x y h1 h2 h3 => f6 x y h1 h2 (by omega))).mono ?_
                      rintro e W' ⟨rfl, G, g1, g2, g3, g4⟩
                      exact ⟨rfl, G, g1, keep_keep f2 g2, f3.trans (g3.wide (by omega) (by omega)), f4.left f5 (by omega) (by omega) ha1 hb1 g3 g4⟩
                    have hm1 : (m : Int) + 1 = ((m + 1 : Nat) : Int) := by omega
                    obtain ⟨m1, hm1'⟩ : ∃ m1, m + 1 = m1 := ⟨_, rfl⟩
                    rw [hm1'] at hm1 HC
                    have HJ : Hid (a ≤ m1 ∧ m1 ≤ b' ∧ b' ≤ b ∧ a' < m1) := by
                      have := HPM.out
                      show _ ∧ _
                      omega
                    clear HP hll hrl hm1'
                    go_wp2_with fail
                    refine HC.out.mono ?_
                    rintro e w3 ⟨rfl, HL3⟩
                    clear HC
                    go_wp2
                    go_roundw
                    case rel => exact ⟨m1, b', li, _, _, rfl, rfl, rfl, rfl, rfl, HJ.out.1, HJ.out.2.1, HJ.out.2.2.1, hli, HL3⟩
                    case measure => have := HJ.out; simp [intOf]; omega
                  · have hlrI : ¬ (ll : Int) < (rl : Int) := by omega
                    obtain ⟨m1, hm1'⟩ : ∃ m1, m + 1 = m1 := ⟨_, rfl⟩
                    have hm1 : (m : Int) + 1 = (m1 : Int) := by omega
                    have HC : Hid (Calls Tryd.prog 60 #[slc g n c, nun m1, nun b', nun li, cmpV p] w2 fun e W' => e = .returned (.tuple #[]) ∧ Hid (LeftW p g c n a b W W' D (Out a b a' m))) := by
                      rw [← hm1']
                      obtain ⟨F, f1, f2, f3, f4, f5, f6⟩ := HP.out
                      have hpmo := HPM.out
                      refine (IH f1 (m + 1) b' li (by omega) (by omega) (by omega) hli (f5.bef f6 (by omega) (by omega))).mono ?_
                      rintro e W' ⟨rfl, G, g1, g2, g3, g4⟩
                      exact ⟨rfl, G, g1, keep_keep f2 g2, f3.trans (g3.wide (by omega) (by omega)), f4.right f5 (by omega) (by omega) ha1 hb1 g3 g4⟩
                    have HJ : Hid (a' ≤ m ∧ m ≤ b ∧ m < b') := by
                      have := HPM.out
                      show _ ∧ _
                      omega
                    clear HP hll hrl hm1'
                    go_wp2_with fail
                    refine HC.out.mono ?_
                    rintro e w3 ⟨rfl, HL3⟩
                    clear HC
                    go_wp2
                    go_roundw
                    case rel => exact ⟨a', m, li, _, _, rfl, rfl, rfl, rfl, rfl, ha1, HJ.out.1, HJ.out.2.1, hli, HL3⟩
                    case measure => have := HJ.out; simp [intOf]; omega
                · have ha0I : ¬ (a' : Int) > 0 := by omega
                  have ha0I2 : ¬ (0 : Int) < (a' : Int) := by omega
                  have HP1 : Hid (∀ k, Calls Tryd.prog 74 #[slc g n c, nun a', nun b', nun v, cmpV p] (wx.drewN k) fun e W' => ∃ (m : Nat) (o : Bool), e = .returned (.tuple #[nun m, .bool o]) ∧ (a' ≤ m ∧ m < b' ∧ b' ≤ b ∧ b ≤ n ∧ a ≤ a' ∧ b - a < N + 1) ∧ LeftW p g c n a b W W' D (fun F => Out a b a' b' F ∧ Mid a' b' m F ∧ Bef a' b' F)) := fun k => HP0.out (wx.drewN k) ⟨rfl, rfl, rfl, Nat.le_refl _, fun _ _ => rfl⟩
                  clear HS HP0
                  go_wp2_with fail
                  go_quiet (fail)
                  go_wp2_with fail
                  refine (HP1.out _).mono ?_
                  rintro e w2 ⟨m, o, rfl, hpm, hp⟩
                  have hL := True.intro
                  clear HP1
                  have HP := Hid.mk' hp
                  have HPM := Hid.mk' hpm
                  clear hp hpm hL
                  have hma : (m : Int) - (a' : Int) = ((m - a' : Nat) : Int) := by have := HPM.out; omega
                  have hbm : (b' : Int) - (m : Int) = ((b' - m : Nat) : Int) := by have := HPM.out; omega
                  obtain ⟨ll, hll⟩ : ∃ ll, m - a' = ll := ⟨_, rfl⟩
                  obtain ⟨rl, hrl⟩ : ∃ rl, b' - m = rl := ⟨_, rfl⟩
                  rw [hll] at hma
                  rw [hrl] at hbm
                  have hllb : ll ≤ 65536 := by have := HPM.out; omega
                  have hrlb : rl ≤ 65536 := by have := HPM.out; omega
                  by_cases hlr : ll < rl
                  · have hlrI : (ll : Int) < (rl : Int) := by omega
                    have HC : Hid (Calls Tryd.prog 60 #[slc g n c, nun a', nun m, nun li, cmpV p] w2 fun e W' => e = .returned (.tuple #[]) ∧ Hid (LeftW p g c n a b W W' D (Out a b (m + 1) b'))) := by
                      obtain ⟨F, f1, f2, f3, f4, f5, f6⟩ := HP.out
                      have hpmo := HPM.out
                      refine (IH f1 a' m li (by omega) (by omega) (by omega) hli (fun x y h1 h2 h3 => f6 x y h1 h2 (by omega))).mono ?_
                      rintro e W' ⟨rfl, G, g1, g2, g3, g4⟩
                      exact ⟨rfl, G, g1, keep_keep f2 g2, f3.trans (g3.wide (by omega) (by omega)), f4.left f5 (by omega) (by omega) ha1 hb1 g3 g4⟩
                    have hm1 : (m : Int) + 1 = ((m + 1 : Nat) : Int) := by omega
                    obtain ⟨m1, hm1'⟩ : ∃ m1, m + 1 = m1 := ⟨_, rfl⟩
                    rw [hm1'] at hm1 HC
                    have HJ : Hid (a ≤ m1 ∧ m1 ≤ b' ∧ b' ≤ b ∧ a' < m1) := by
                      have := HPM.out
                      show _ ∧ _
                      omega
                    clear HP hll hrl hm1'
                    go_wp2_with fail
                    refine HC.out.mono ?_
                    rintro e w3 ⟨rfl, HL3⟩
                    clear HC
                    go_wp2
                    go_roundw
                    case rel => exact ⟨m1, b', li, _, _, rfl, rfl, rfl, rfl, rfl, HJ.out.1, HJ.out.2.1, HJ.out.2.2.1, hli, HL3⟩
                    case measure => have := HJ.out; simp [intOf]; omega
                  · have hlrI : ¬ (ll : Int) < (rl : Int) := by omega
                    obtain ⟨m1, hm1'⟩ : ∃ m1, m + 1 = m1 := ⟨_, rfl⟩
                    have hm1 : (m : Int) + 1 = (m1 : Int) := by omega
                    have HC : Hid (Calls Tryd.prog 60 #[slc g n c, nun m1, nun b', nun li, cmpV p] w2 fun e W' => e = .returned (.tuple #[]) ∧ Hid (LeftW p g c n a b W W' D (Out a b a' m))) := by
                      rw [← hm1']
                      obtain ⟨F, f1, f2, f3, f4, f5, f6⟩ := HP.out
                      have hpmo := HPM.out
                      refine (IH f1 (m + 1) b' li (by omega) (by omega) (by omega) hli (f5.bef f6 (by omega) (by omega))).mono ?_
                      rintro e W' ⟨rfl, G, g1, g2, g3, g4⟩
                      exact ⟨rfl, G, g1, keep_keep f2 g2, f3.trans (g3.wide (by omega) (by omega)), f4.right f5 (by omega) (by omega) ha1 hb1 g3 g4⟩
                    have HJ : Hid (a' ≤ m ∧ m ≤ b ∧ m < b') := by
                      have := HPM.out
                      show _ ∧ _
                      omega
                    clear HP hll hrl hm1'
                    go_wp2_with fail
                    refine HC.out.mono ?_
                    rintro e w3 ⟨rfl, HL3⟩
                    clear HC
                    go_wp2
                    go_roundw
                    case rel => exact ⟨a', m, li, _, _, rfl, rfl, rfl, rfl, rfl, ha1, HJ.out.1, HJ.out.2.1, hli, HL3⟩
                    case measure => have := HJ.out; simp [intOf]; omega
            · by_cases ho1 : o = 1
              · subst ho1
                clear ho ho2
                as_aux_lemma =>
                  have HP0 : Hid (∀ w5, Below wx.heap.size wx w5 → Calls Tryd.prog 74 #[slc g n c, nun a', nun b', nun v, cmpV p] w5 fun e W' => ∃ (m : Nat) (o : Bool), e = .returned (.tuple #[nun m, .bool o]) ∧ (a' ≤ m ∧ m < b' ∧ b' ≤ b ∧ b ≤ n ∧ a ≤ a' ∧ b - a < N + 1) ∧ LeftW p g c n a b W W' D (fun F => Out a b a' b' F ∧ Mid a' b' m F ∧ Bef a' b' F)) := fun w5 hb5 => by
                    obtain ⟨E, e1, e2, e3, e4⟩ := HS.out
                    refine (partition_p (e1.below hb5) a' b' v (by omega) hbig hv.1 hv.2).mono ?_
                    rintro e W' ⟨m, o, rfl, h1, h2, F, f1, f2, f3, f4⟩
                    exact ⟨m, o, rfl, ⟨h1, h2, hb1, hb, ha1, hN⟩, F, f1, keep_keep (keep_below e2 hb5) f2, e3.trans (f3.wide ha1 hb1), e4.pm f3 ha1 hb1, f4, (e4.bef (HBF.out.pm e3) ha1 hb1).pm f3⟩
                  by_cases ha0 : 0 < a'
                  · have ha0I : (a' : Int) > 0 := by omega
                    have ha0I2 : (0 : Int) < (a' : Int) := by omega
                    obtain ⟨u, hu⟩ : ∃ u, u + 1 = a' := ⟨a' - 1, by omega⟩
                    have hun : (u : Int) < (n : Int) := by omega
                    have hu0 : (0 : Int) ≤ (u : Int) := by omega
                    have hvn : (v : Int) < (n : Int) := by omega
                    have hv0 : (0 : Int) ≤ (v : Int) := by omega
                    have hwu : IntKind.i64.wrap ((a' : Int) - 1) = (u : Int) := by rw [wrap_i64] <;> omega
                    obtain ⟨E, e1, e2, e3, e4⟩ := HS.out
                    obtain ⟨x, hx⟩ : ∃ x, atD E u = x := ⟨_, rfl⟩
                    obtain ⟨y, hy⟩ : ∃ y, atD E v = y := ⟨_, rfl⟩
                    obtain ⟨⟨⟨c0, c1, c2, c3⟩, hsd⟩, r, HR, HC⟩ := e1.cmp (i := u) (j := v) (by omega) (by omega) hx hy
                    have hbe := (e4.bef (HBF.out.pm e3) ha1 hb1) u v (by omega) hv.1 hv.2
                    rw [hx, hy] at hbe
                    rw [hbe] at HR
                    have hrd : decide (r < 0) = true := HR.out
                    have HSD := Hid.mk' hsd
                    clear e1 e2 e3 e4 hx hy hsd hbe HS hu
                    obtain ⟨xi, xk⟩ := x
                    obtain ⟨yi, yk⟩ := y
                    dsimp only at c0 c1 c2 c3 HC HSD
                    go_wp2_with fail
                    go_region_held3 (fun w' => w'.cell? ⟨g, u * 2, none⟩ = some (nu xi) ∧ w'.cell? ⟨g, u * 2 + 1, none⟩ = some (nu xk) ∧ w'.cell? ⟨g, v * 2, none⟩ = some (nu yi) ∧ w'.cell? ⟨g, v * 2 + 1, none⟩ = some (nu yk)) (first | assumption | exact HSD.out | exact hs5 | fail) (first | (go_at_call 50; with_reducible refine HC.out.mono ?_; rintro e w5 ⟨rfl, hs5, HB5⟩) | fail)
                    have c9 := Hid.mk' (HP0.out w5 HB5.out)
                    clear c0 c1 c2 c3 hs5 HB5 HC HSD HP0 hwu
                    go_wp2_with fail
                    refine c9.out.mono ?_
                    rintro e w2 ⟨m, o, rfl, hpm, hp⟩
                    have hL := True.intro
                    clear c9
                    have HP := Hid.mk' hp
                    have HPM := Hid.mk' hpm
                    clear hp hpm hL
                    have hma : (m : Int) - (a' : Int) = ((m - a' : Nat) : Int) := by have := HPM.out; omega
                    have hbm : (b' : Int) - (m : Int) = ((b' - m : Nat) : Int) := by have := HPM.out; omega
                    obtain ⟨ll, hll⟩ : ∃ ll, m - a' = ll := ⟨_, rfl⟩
                    obtain ⟨rl, hrl⟩ : ∃ rl, b' - m = rl := ⟨_, rfl⟩
                    rw [hll] at hma
                    rw [hrl] at hbm
                    have hllb : ll ≤ 65536 := by have := HPM.out; omega
                    have hrlb : rl ≤ 65536 := by have := HPM.out; omega
                    by_cases hlr : ll < rl
                    · have hlrI : (ll : Int) < (rl : Int) := by omega
                      have HC : Hid (Calls Tryd.prog 60 #[slc g n c, nun a', nun m, nun li, cmpV p] w2 fun e W' => e = .returned (.tuple #[]) ∧ Hid (LeftW p g c n a b W W' D (Out a b (m + 1) b'))) := by
                        obtain ⟨F, f1, f2, f3, f4, f5, f6⟩ := HP.out
                        have hpmo := HPM.out
                        refine (IH f1 a' m li (by omega) (by omega) (by omega) hli (fun x y h1 h2 h3 => f6 x y h1 h2 (by omega))).mono ?_
                        rintro e W' ⟨rfl, G, g1, g2, g3, g4⟩
                        exact ⟨rfl, G, g1, keep_keep f2 g2, f3.trans (g3.wide (by omega) (by omega)), f4.left f5 (by omega) (by omega) ha1 hb1 g3 g4⟩
                      have hm1 : (m : Int) + 1 = ((m + 1 : Nat) : Int) := by omega
                      obtain ⟨m1, hm1'⟩ : ∃ m1, m + 1 = m1 := ⟨_, rfl⟩
                      rw [hm1'] at hm1 HC
                      have HJ : Hid (a ≤ m1 ∧ m1 ≤ b' ∧ b' ≤ b ∧ a' < m1) := by
                        have := HPM.out
                        show _ ∧ _
                        omega
                      clear HP hll hrl hm1'
                      go_wp2_with fail
                      refine HC.out.mono ?_
                      rintro e w3 ⟨rfl, HL3⟩
                      clear HC
                      go_wp2
                      go_roundw
                      case rel => exact ⟨m1, b', li, _, _, rfl, rfl, rfl, rfl, rfl, HJ.out.1, HJ.out.2.1, HJ.out.2.2.1, hli, HL3⟩
                      case measure => have := HJ.out; simp [intOf]; omega
                    · have hlrI : ¬ (ll : Int) < (rl : Int) := by omega
                      obtain ⟨m1, hm1'⟩ : ∃ m1, m + 1 = m1 := ⟨_, rfl⟩
                      have hm1 : (m : Int) + 1 = (m1 : Int) := by omega
                      have HC : Hid (Calls Tryd.prog 60 #[slc g n c, nun m1, nun b', nun li, cmpV p] w2 fun e W' => e = .returned (.tuple #[]) ∧ Hid (LeftW p g c n a b W W' D (Out a b a' m))) := by
                        rw [← hm1']
                        obtain ⟨F, f1, f2, f3, f4, f5, f6⟩ := HP.out
                        have hpmo := HPM.out
                        refine (IH f1 (m + 1) b' li (by omega) (by omega) (by omega) hli (f5.bef f6 (by omega) (by omega))).mono ?_
                        rintro e W' ⟨rfl, G, g1, g2, g3, g4⟩
                        exact ⟨rfl, G, g1, keep_keep f2 g2, f3.trans (g3.wide (by omega) (by omega)), f4.right f5 (by omega) (by omega) ha1 hb1 g3 g4⟩
                      have HJ : Hid (a' ≤ m ∧ m ≤ b ∧ m < b') := by
                        have := HPM.out
                        show _ ∧ _
                        omega
                      clear HP hll hrl hm1'
                      go_wp2_with fail
                      refine HC.out.mono ?_
                      rintro e w3 ⟨rfl, HL3⟩
                      clear HC
                      go_wp2
                      go_roundw
                      case rel => exact ⟨a', m, li, _, _, rfl, rfl, rfl, rfl, rfl, ha1, HJ.out.1, HJ.out.2.1, hli, HL3⟩
                      case measure => have := HJ.out; simp [intOf]; omega
                  · have ha0I : ¬ (a' : Int) > 0 := by omega
                    have ha0I2 : ¬ (0 : Int) < (a' : Int) := by omega
                    have HP1 : Hid (∀ k, Calls Tryd.prog 74 #[slc g n c, nun a', nun b', nun v, cmpV p] (wx.drewN k) fun e W' => ∃ (m : Nat) (o : Bool), e = .returned (.tuple #[nun m, .bool o]) ∧ (a' ≤ m ∧ m < b' ∧ b' ≤ b ∧ b ≤ n ∧ a ≤ a' ∧ b - a < N + 1) ∧ LeftW p g c n a b W W' D (fun F => Out a b a' b' F ∧ Mid a' b' m F ∧ Bef a' b' F)) := fun k => HP0.out (wx.drewN k) ⟨rfl, rfl, rfl, Nat.le_refl _, fun _ _ => rfl⟩
                    clear HS HP0
                    go_wp2_with fail
                    go_quiet (fail)
                    go_wp2_with fail
                    refine (HP1.out _).mono ?_
                    rintro e w2 ⟨m, o, rfl, hpm, hp⟩
                    have hL := True.intro
                    clear HP1
                    have HP := Hid.mk' hp
                    have HPM := Hid.mk' hpm
                    clear hp hpm hL
                    have hma : (m : Int) - (a' : Int) = ((m - a' : Nat) : Int) := by have := HPM.out; omega
                    have hbm : (b' : Int) - (m : Int) = ((b' - m : Nat) : Int) := by have := HPM.out; omega
                    obtain ⟨ll, hll⟩ : ∃ ll, m - a' = ll := ⟨_, rfl⟩
                    obtain ⟨rl, hrl⟩ : ∃ rl, b' - m = rl := ⟨_, rfl⟩
                    rw [hll] at hma
                    rw [hrl] at hbm
                    have hllb : ll ≤ 65536 := by have := HPM.out; omega
                    have hrlb : rl ≤ 65536 := by have := HPM.out; omega
                    by_cases hlr : ll < rl
                    · have hlrI : (ll : Int) < (rl : Int) := by omega
                      have HC : Hid (Calls Tryd.prog 60 #[slc g n c, nun a', nun m, nun li, cmpV p] w2 fun e W' => e = .returned (.tuple #[]) ∧ Hid (LeftW p g c n a b W W' D (Out a b (m + 1) b'))) := by
                        obtain ⟨F, f1, f2, f3, f4, f5, f6⟩ := HP.out
                        have hpmo := HPM.out
                        refine (IH f1 a' m li (by omega) (by omega) (by omega) hli (fun x y h1 h2 h3 => f6 x y h1 h2 (by omega))).mono ?_
                        rintro e W' ⟨rfl, G, g1, g2, g3, g4⟩
                        exact ⟨rfl, G, g1, keep_keep f2 g2, f3.trans (g3.wide (by omega) (by omega)), f4.left f5 (by omega) (by omega) ha1 hb1 g3 g4⟩
                      have hm1 : (m : Int) + 1 = ((m + 1 : Nat) : Int) := by omega
                      obtain ⟨m1, hm1'⟩ : ∃ m1, m + 1 = m1 := ⟨_, rfl⟩
                      rw [hm1'] at hm1 HC
                      have HJ : Hid (a ≤ m1 ∧ m1 ≤ b' ∧ b' ≤ b ∧ a' < m1) := by
                        have := HPM.out
                        show _ ∧ _
                        omega
                      clear HP hll hrl hm1'
                      go_wp2_with fail
                      refine HC.out.mono ?_
                      rintro e w3 ⟨rfl, HL3⟩
                      clear HC
                      go_wp2
                      go_roundw
                      case rel => exact ⟨m1, b', li, _, _, rfl, rfl, rfl, rfl, rfl, HJ.out.1, HJ.out.2.1, HJ.out.2.2.1, hli, HL3⟩
                      case measure => have := HJ.out; simp [intOf]; omega
                    · have hlrI : ¬ (ll : Int) < (rl : Int) := by omega
                      obtain ⟨m1, hm1'⟩ : ∃ m1, m + 1 = m1 := ⟨_, rfl⟩
                      have hm1 : (m : Int) + 1 = (m1 : Int) := by omega
                      have HC : Hid (Calls Tryd.prog 60 #[slc g n c, nun m1, nun b', nun li, cmpV p] w2 fun e W' => e = .returned (.tuple #[]) ∧ Hid (LeftW p g c n a b W W' D (Out a b a' m))) := by
                        rw [← hm1']
                        obtain ⟨F, f1, f2, f3, f4, f5, f6⟩ := HP.out
                        have hpmo := HPM.out
                        refine (IH f1 (m + 1) b' li (by omega) (by omega) (by omega) hli (f5.bef f6 (by omega) (by omega))).mono ?_
                        rintro e W' ⟨rfl, G, g1, g2, g3, g4⟩
                        exact ⟨rfl, G, g1, keep_keep f2 g2, f3.trans (g3.wide (by omega) (by omega)), f4.right f5 (by omega) (by omega) ha1 hb1 g3 g4⟩
                      have HJ : Hid (a' ≤ m ∧ m ≤ b ∧ m < b') := by
                        have := HPM.out
                        show _ ∧ _
                        omega
                      clear HP hll hrl hm1'
                      go_wp2_with fail
                      refine HC.out.mono ?_
                      rintro e w3 ⟨rfl, HL3⟩
                      clear HC
                      go_wp2
                      go_roundw
                      case rel => exact ⟨a', m, li, _, _, rfl, rfl, rfl, rfl, rfl, ha1, HJ.out.1, HJ.out.2.1, hli, HL3⟩
                      case measure => have := HJ.out; simp [intOf]; omega
              · obtain rfl : o = 0 := by omega
                clear ho ho1 ho2
                as_aux_lemma =>
                  have HP0 : Hid (∀ w5, Below wx.heap.size wx w5 → Calls Tryd.prog 74 #[slc g n c, nun a', nun b', nun v, cmpV p] w5 fun e W' => ∃ (m : Nat) (o : Bool), e = .returned (.tuple #[nun m, .bool o]) ∧ (a' ≤ m ∧ m < b' ∧ b' ≤ b ∧ b ≤ n ∧ a ≤ a' ∧ b - a < N + 1) ∧ LeftW p g c n a b W W' D (fun F => Out a b a' b' F ∧ Mid a' b' m F ∧ Bef a' b' F)) := fun w5 hb5 => by
                    obtain ⟨E, e1, e2, e3, e4⟩ := HS.out
                    refine (partition_p (e1.below hb5) a' b' v (by omega) hbig hv.1 hv.2).mono ?_
                    rintro e W' ⟨m, o, rfl, h1, h2, F, f1, f2, f3, f4⟩
                    exact ⟨m, o, rfl, ⟨h1, h2, hb1, hb, ha1, hN⟩, F, f1, keep_keep (keep_below e2 hb5) f2, e3.trans (f3.wide ha1 hb1), e4.pm f3 ha1 hb1, f4, (e4.bef (HBF.out.pm e3) ha1 hb1).pm f3⟩
                  by_cases ha0 : 0 < a'
                  · have ha0I : (a' : Int) > 0 := by omega
                    have ha0I2 : (0 : Int) < (a' : Int) := by omega
                    obtain ⟨u, hu⟩ : ∃ u, u + 1 = a' := ⟨a' - 1, by omega⟩
                    have hun : (u : Int) < (n : Int) := by omega
                    have hu0 : (0 : Int) ≤ (u : Int) := by omega
                    have hvn : (v : Int) < (n : Int) := by omega
                    have hv0 : (0 : Int) ≤ (v : Int) := by omega
                    have hwu : IntKind.i64.wrap ((a' : Int) - 1) = (u : Int) := by rw [wrap_i64] <;> omega
                    obtain ⟨E, e1, e2, e3, e4⟩ := HS.out
                    obtain ⟨x, hx⟩ : ∃ x, atD E u = x := ⟨_, rfl⟩
                    obtain ⟨y, hy⟩ : ∃ y, atD E v = y := ⟨_, rfl⟩
                    obtain ⟨⟨⟨c0, c1, c2, c3⟩, hsd⟩, r, HR, HC⟩ := e1.cmp (i := u) (j := v) (by omega) (by omega) hx hy
                    have hbe := (e4.bef (HBF.out.pm e3) ha1 hb1) u v (by omega) hv.1 hv.2
                    rw [hx, hy] at hbe
                    rw [hbe] at HR
                    have hrd : decide (r < 0) = true := HR.out
                    have HSD := Hid.mk' hsd
                    clear e1 e2 e3 e4 hx hy hsd hbe HS hu
                    obtain ⟨xi, xk⟩ := x
                    obtain ⟨yi, yk⟩ := y
                    dsimp only at c0 c1 c2 c3 HC HSD
                    go_wp2_with fail
                    go_region_held3 (fun w' => w'.cell? ⟨g, u * 2, none⟩ = some (nu xi) ∧ w'.cell? ⟨g, u * 2 + 1, none⟩ = some (nu xk) ∧ w'.cell? ⟨g, v * 2, none⟩ = some (nu yi) ∧ w'.cell? ⟨g, v * 2 + 1, none⟩ = some (nu yk)) (first | assumption | exact HSD.out | exact hs5 | fail) (first | (go_at_call 50; with_reducible refine HC.out.mono ?_; rintro e w5 ⟨rfl, hs5, HB5⟩) | fail)
                    have c9 := Hid.mk' (HP0.out w5 HB5.out)
                    clear c0 c1 c2 c3 hs5 HB5 HC HSD HP0 hwu
                    go_wp2_with fail
                    refine c9.out.mono ?_
                    rintro e w2 ⟨m, o, rfl, hpm, hp⟩
                    have hL := True.intro
                    clear c9
                    have HP := Hid.mk' hp
                    have HPM := Hid.mk' hpm
                    clear hp hpm hL
                    have hma : (m : Int) - (a' : Int) = ((m - a' : Nat) : Int) := by have := HPM.out; omega
                    have hbm : (b' : Int) - (m : Int) = ((b' - m : Nat) : Int) := by have := HPM.out; omega
                    obtain ⟨ll, hll⟩ : ∃ ll, m - a' = ll := ⟨_, rfl⟩
                    obtain ⟨rl, hrl⟩ : ∃ rl, b' - m = rl := ⟨_, rfl⟩
                    rw [hll] at hma
                    rw [hrl] at hbm
                    have hllb : ll ≤ 65536 := by have := HPM.out; omega
                    have hrlb : rl ≤ 65536 := by have := HPM.out; omega
                    by_cases hlr : ll < rl
                    · have hlrI : (ll : Int) < (rl : Int) := by omega
                      have HC : Hid (Calls Tryd.prog 60 #[slc g n c, nun a', nun m, nun li, cmpV p] w2 fun e W' => e = .returned (.tuple #[]) ∧ Hid (LeftW p g c n a b W W' D (Out a b (m + 1) b'))) := by
                        obtain ⟨F, f1, f2, f3, f4, f5, f6⟩ := HP.out
                        have hpmo := HPM.out
                        refine (IH f1 a' m li (by omega) (by omega) (by omega) hli (fun x y h1 h2 h3 => f6 x y h1 h2 (by omega))).mono ?_
                        rintro e W' ⟨rfl, G, g1, g2, g3, g4⟩
                        exact ⟨rfl, G, g1, keep_keep f2 g2, f3.trans (g3.wide (by omega) (by omega)), f4.left f5 (by omega) (by omega) ha1 hb1 g3 g4⟩
                      have hm1 : (m : Int) + 1 = ((m + 1 : Nat) : Int) := by omega
                      obtain ⟨m1, hm1'⟩ : ∃ m1, m + 1 = m1 := ⟨_, rfl⟩
                      rw [hm1'] at hm1 HC
                      have HJ : Hid (a ≤ m1 ∧ m1 ≤ b' ∧ b' ≤ b ∧ a' < m1) := by
                        have := HPM.out
                        show _ ∧ _
                        omega
                      clear HP hll hrl hm1'
                      go_wp2_with fail
                      refine HC.out.mono ?_
                      rintro e w3 ⟨rfl, HL3⟩
                      clear HC
                      go_wp2
                      go_roundw
                      case rel => exact ⟨m1, b', li, _, _, rfl, rfl, rfl, rfl, rfl, HJ.out.1, HJ.out.2.1, HJ.out.2.2.1, hli, HL3⟩
                      case measure => have := HJ.out; simp [intOf]; omega
                    · have hlrI : ¬ (ll : Int) < (rl : Int) := by omega
                      obtain ⟨m1, hm1'⟩ : ∃ m1, m + 1 = m1 := ⟨_, rfl⟩
                      have hm1 : (m : Int) + 1 = (m1 : Int) := by omega
                      have HC : Hid (Calls Tryd.prog 60 #[slc g n c, nun m1, nun b', nun li, cmpV p] w2 fun e W' => e = .returned (.tuple #[]) ∧ Hid (LeftW p g c n a b W W' D (Out a b a' m))) := by
                        rw [← hm1']
                        obtain ⟨F, f1, f2, f3, f4, f5, f6⟩ := HP.out
                        have hpmo := HPM.out
                        refine (IH f1 (m + 1) b' li (by omega) (by omega) (by omega) hli (f5.bef f6 (by omega) (by omega))).mono ?_
                        rintro e W' ⟨rfl, G, g1, g2, g3, g4⟩
                        exact ⟨rfl, G, g1, keep_keep f2 g2, f3.trans (g3.wide (by omega) (by omega)), f4.right f5 (by omega) (by omega) ha1 hb1 g3 g4⟩
                      have HJ : Hid (a' ≤ m ∧ m ≤ b ∧ m < b') := by
                        have := HPM.out
                        show _ ∧ _
                        omega
                      clear HP hll hrl hm1'
                      go_wp2_with fail
                      refine HC.out.mono ?_
                      rintro e w3 ⟨rfl, HL3⟩
                      clear HC
                      go_wp2
                      go_roundw
                      case rel => exact ⟨a', m, li, _, _, rfl, rfl, rfl, rfl, rfl, ha1, HJ.out.1, HJ.out.2.1, hli, HL3⟩
                      case measure => have := HJ.out; simp [intOf]; omega
                  · have ha0I : ¬ (a' : Int) > 0 := by omega
                    have ha0I2 : ¬ (0 : Int) < (a' : Int) := by omega
                    have HP1 : Hid (∀ k, Calls Tryd.prog 74 #[slc g n c, nun a', nun b', nun v, cmpV p] (wx.drewN k) fun e W' => ∃ (m : Nat) (o : Bool), e = .returned (.tuple #[nun m, .bool o]) ∧ (a' ≤ m ∧ m < b' ∧ b' ≤ b ∧ b ≤ n ∧ a ≤ a' ∧ b - a < N + 1) ∧ LeftW p g c n a b W W' D (fun F => Out a b a' b' F ∧ Mid a' b' m F ∧ Bef a' b' F)) := fun k => HP0.out (wx.drewN k) ⟨rfl, rfl, rfl, Nat.le_refl _, fun _ _ => rfl⟩
                    clear HS HP0
                    go_wp2_with fail
                    go_quiet (fail)
                    go_wp2_with fail
                    refine (HP1.out _).mono ?_
                    rintro e w2 ⟨m, o, rfl, hpm, hp⟩
                    have hL := True.intro
                    clear HP1
                    have HP := Hid.mk' hp
                    have HPM := Hid.mk' hpm
                    clear hp hpm hL
                    have hma : (m : Int) - (a' : Int) = ((m - a' : Nat) : Int) := by have := HPM.out; omega
                    have hbm : (b' : Int) - (m : Int) = ((b' - m : Nat) : Int) := by have := HPM.out; omega
                    obtain ⟨ll, hll⟩ : ∃ ll, m - a' = ll := ⟨_, rfl⟩
                    obtain ⟨rl, hrl⟩ : ∃ rl, b' - m = rl := ⟨_, rfl⟩
                    rw [hll] at hma
                    rw [hrl] at hbm
                    have hllb : ll ≤ 65536 := by have := HPM.out; omega
                    have hrlb : rl ≤ 65536 := by have := HPM.out; omega
                    by_cases hlr : ll < rl
                    · have hlrI : (ll : Int) < (rl : Int) := by omega
                      have HC : Hid (Calls Tryd.prog 60 #[slc g n c, nun a', nun m, nun li, cmpV p] w2 fun e W' => e = .returned (.tuple #[]) ∧ Hid (LeftW p g c n a b W W' D (Out a b (m + 1) b'))) := by
                        obtain ⟨F, f1, f2, f3, f4, f5, f6⟩ := HP.out
                        have hpmo := HPM.out
                        refine (IH f1 a' m li (by omega) (by omega) (by omega) hli (fun x y h1 h2 h3 => f6 x y h1 h2 (by omega))).mono ?_
                        rintro e W' ⟨rfl, G, g1, g2, g3, g4⟩
                        exact ⟨rfl, G, g1, keep_keep f2 g2, f3.trans (g3.wide (by omega) (by omega)), f4.left f5 (by omega) (by omega) ha1 hb1 g3 g4⟩
                      have hm1 : (m : Int) + 1 = ((m + 1 : Nat) : Int) := by omega
                      obtain ⟨m1, hm1'⟩ : ∃ m1, m + 1 = m1 := ⟨_, rfl⟩
                      rw [hm1'] at hm1 HC
                      have HJ : Hid (a ≤ m1 ∧ m1 ≤ b' ∧ b' ≤ b ∧ a' < m1) := by
                        have := HPM.out
                        show _ ∧ _
                        omega
                      clear HP hll hrl hm1'
                      go_wp2_with fail
                      refine HC.out.mono ?_
                      rintro e w3 ⟨rfl, HL3⟩
                      clear HC
                      go_wp2
                      go_roundw
                      case rel => exact ⟨m1, b', li, _, _, rfl, rfl, rfl, rfl, rfl, HJ.out.1, HJ.out.2.1, HJ.out.2.2.1, hli, HL3⟩
                      case measure => have := HJ.out; simp [intOf]; omega
                    · have hlrI : ¬ (ll : Int) < (rl : Int) := by omega
                      obtain ⟨m1, hm1'⟩ : ∃ m1, m + 1 = m1 := ⟨_, rfl⟩
                      have hm1 : (m : Int) + 1 = (m1 : Int) := by omega
                      have HC : Hid (Calls Tryd.prog 60 #[slc g n c, nun m1, nun b', nun li, cmpV p] w2 fun e W' => e = .returned (.tuple #[]) ∧ Hid (LeftW p g c n a b W W' D (Out a b a' m))) := by
                        rw [← hm1']
                        obtain ⟨F, f1, f2, f3, f4, f5, f6⟩ := HP.out
                        have hpmo := HPM.out
                        refine (IH f1 (m + 1) b' li (by omega) (by omega) (by omega) hli (f5.bef f6 (by omega) (by omega))).mono ?_
                        rintro e W' ⟨rfl, G, g1, g2, g3, g4⟩
                        exact ⟨rfl, G, g1, keep_keep f2 g2, f3.trans (g3.wide (by omega) (by omega)), f4.right f5 (by omega) (by omega) ha1 hb1 g3 g4⟩
                      have HJ : Hid (a' ≤ m ∧ m ≤ b ∧ m < b') := by
                        have := HPM.out
                        show _ ∧ _
                        omega
                      clear HP hll hrl hm1'
                      go_wp2_with fail
                      refine HC.out.mono ?_
                      rintro e w3 ⟨rfl, HL3⟩
                      clear HC
                      go_wp2
                      go_roundw
                      case rel => exact ⟨a', m, li, _, _, rfl, rfl, rfl, rfl, rfl, ha1, HJ.out.1, HJ.out.2.1, hli, HL3⟩
                      case measure => have := HJ.out; simp [intOf]; omega
          | true =>
            obtain ⟨li, hli1⟩ : ∃ li, lm = li := ⟨_, rfl⟩
            rw [hli1] at hlm hl0 hlI ⊢
            have hli : li ≤ 1000 := hlm
            have HS := HL
            clear HL hli1
            obtain ⟨wx, hwx⟩ : ∃ wx, wr = wx := ⟨_, rfl⟩
            rw [hwx] at HS ⊢
            clear hwx
            have c3 : Hid (Calls Tryd.prog 70 #[slc g n c, nun a', nun b', cmpV p] wx fun e W' => ∃ (v : Nat) (o : Int), e = .returned (.tuple #[nun v, .int .i64 o]) ∧ (0 ≤ o ∧ o ≤ 2) ∧ (a' ≤ v ∧ v < b') ∧ Hid (LeftW p g c n a b W W' D (Out a b a' b'))) := by
              obtain ⟨E, e1, e2, e3, e4⟩ := HS.out
              refine (pivot_p e1 a' b' (by omega) hbig).mono ?_
              rintro e W' ⟨v, o, rfl, h1, h2, h3, h4, f1, f2⟩
              exact ⟨v, o, rfl, ⟨h1, h2⟩, ⟨h3, h4⟩, E, f1, keep_below e2 f2, e3, e4⟩
            clear HS
            go_wp2_with fail
            refine c3.out.mono ?_
            rintro e w8 ⟨v, o, rfl, ho, hv, HS⟩
            clear c3
            obtain ⟨wx, hwx⟩ : ∃ wx, w8 = wx := ⟨_, rfl⟩
            rw [hwx] at HS ⊢
            clear hwx
            by_cases ho2 : o = 2
            · subst ho2
              clear ho
              as_aux_lemma =>
                have c4 : Hid (Calls Tryd.prog 71 #[slc g n c, nun a', nun b', cmpV p] wx fun e W' => e = .returned (.tuple #[]) ∧ Hid (LeftW p g c n a b W W' D (Out a b a' b'))) := by
                  obtain ⟨E, e1, e2, e3, e4⟩ := HS.out
                  refine (reverse_p e1 a' b' (by omega) (by omega)).mono ?_
                  rintro e W' ⟨rfl, F, f1, f2, f3, _⟩
                  exact ⟨rfl, F, f1, keep_keep e2 f2, e3.trans (f3.wide ha1 hb1), e4.pm f3 ha1 hb1⟩
                obtain ⟨nv, hnv⟩ : ∃ nv, b' - 1 - (v - a') = nv := ⟨_, rfl⟩
                have hnvI : (b' : Int) - 1 - ((v : Int) - (a' : Int)) = (nv : Int) := by omega
                have hv' : a' ≤ nv ∧ nv < b' := by omega
                clear HS hnv
                go_wp2_with fail
                refine c4.out.mono ?_
                rintro e w8 ⟨rfl, HS⟩
                clear c4 hv
                obtain ⟨v, hvv⟩ : ∃ v, nv = v := ⟨_, rfl⟩
                rw [hvv] at hv' hnvI
                have hv := hv'
                obtain ⟨wx, hwx⟩ : ∃ wx, w8 = wx := ⟨_, rfl⟩
                rw [hwx] at HS ⊢
                clear hwx hv' hvv nv
                cases wp with
                | true =>
                  have c5 : Hid (Calls Tryd.prog 72 #[slc g n c, nun a', nun b', cmpV p] wx fun e W' => PartQ p g c n a b a' b' W W' D e) := by
                    obtain ⟨E, e1, e2, e3, e4⟩ := HS.out
                    refine (partial_p e1 a' b' (by omega) hbig (e4.bef (HBF.out.pm e3) ha1 hb1)).mono ?_
                    rintro e W' ⟨o, rfl, F, f1, f2, f3, f4⟩
                    exact ⟨o, rfl, F, f1, keep_keep e2 f2, e3.trans (f3.wide ha1 hb1), e4.pm f3 ha1 hb1, f4⟩
                  clear HS
                  go_wp2_with fail
                  refine c5.out.mono ?_
                  rintro e w8 ⟨po, rfl, hpo⟩
                  clear c5
                  cases po with
                  | true =>
                    have HE : Hid (LeftW p g c n a b W w8 D (Srt a b)) := by
                      obtain ⟨F, f1, f2, f3, f4, f5⟩ := hpo
                      exact ⟨F, f1, f2, f3, f4.done (f5 rfl)⟩
                    clear hpo
                    go_wp2
                    (try simp only [Exit.inBlock, Exit.then])
                    refine bodyPost_ret (results_none rfl _ _ _) rfl ?_
                    exact ⟨rfl, HE.out⟩
                  | false =>
                    have HS : Hid (LeftW p g c n a b W w8 D (Out a b a' b')) := by
                      obtain ⟨F, f1, f2, f3, f4, f5⟩ := hpo
                      exact ⟨F, f1, f2, f3, f4⟩
                    obtain ⟨wx, hwx⟩ : ∃ wx, w8 = wx := ⟨_, rfl⟩
                    rw [hwx] at HS ⊢
                    clear hpo hwx
                    have HP0 : Hid (∀ w5, Below wx.heap.size wx w5 → Calls Tryd.prog 74 #[slc g n c, nun a', nun b', nun v, cmpV p] w5 fun e W' => ∃ (m : Nat) (o : Bool), e = .returned (.tuple #[nun m, .bool o]) ∧ (a' ≤ m ∧ m < b' ∧ b' ≤ b ∧ b ≤ n ∧ a ≤ a' ∧ b - a < N + 1) ∧ LeftW p g c n a b W W' D (fun F => Out a b a' b' F ∧ Mid a' b' m F ∧ Bef a' b' F)) := fun w5 hb5 => by
                      obtain ⟨E, e1, e2, e3, e4⟩ := HS.out
                      refine (partition_p (e1.below hb5) a' b' v (by omega) hbig hv.1 hv.2).mono ?_
                      rintro e W' ⟨m, o, rfl, h1, h2, F, f1, f2, f3, f4⟩
                      exact ⟨m, o, rfl, ⟨h1, h2, hb1, hb, ha1, hN⟩, F, f1, keep_keep (keep_below e2 hb5) f2, e3.trans (f3.wide ha1 hb1), e4.pm f3 ha1 hb1, f4, (e4.bef (HBF.out.pm e3) ha1 hb1).pm f3⟩
                    by_cases ha0 : 0 < a'
                    · have ha0I : (a' : Int) > 0 := by omega
                      have ha0I2 : (0 : Int) < (a' : Int) := by omega
                      obtain ⟨u, hu⟩ : ∃ u, u + 1 = a' := ⟨a' - 1, by omega⟩
                      have hun : (u : Int) < (n : Int) := by omega
                      have hu0 : (0 : Int) ≤ (u : Int) := by omega
                      have hvn : (v : Int) < (n : Int) := by omega
                      have hv0 : (0 : Int) ≤ (v : Int) := by omega
                      have hwu : IntKind.i64.wrap ((a' : Int) - 1) = (u : Int) := by rw [wrap_i64] <;> omega
                      obtain ⟨E, e1, e2, e3, e4⟩ := HS.out
                      obtain ⟨x, hx⟩ : ∃ x, atD E u = x := ⟨_, rfl⟩
                      obtain ⟨y, hy⟩ : ∃ y, atD E v = y := ⟨_, rfl⟩
                      obtain ⟨⟨⟨c0, c1, c2, c3⟩, hsd⟩, r, HR, HC⟩ := e1.cmp (i := u) (j := v) (by omega) (by omega) hx hy
                      have hbe := (e4.bef (HBF.out.pm e3) ha1 hb1) u v (by omega) hv.1 hv.2
                      rw [hx, hy] at hbe
                      rw [hbe] at HR
                      have hrd : decide (r < 0) = true := HR.out
                      have HSD := Hid.mk' hsd
                      clear e1 e2 e3 e4 hx hy hsd hbe HS hu
                      obtain ⟨xi, xk⟩ := x
                      obtain ⟨yi, yk⟩ := y
                      dsimp only at c0 c1 c2 c3 HC HSD
                      go_wp2_with fail
                      go_region_held3 (fun w' => w'.cell? ⟨g, u * 2, none⟩ = some (nu xi) ∧ w'.cell? ⟨g, u * 2 + 1, none⟩ = some (nu xk) ∧ w'.cell? ⟨g, v * 2, none⟩ = some (nu yi) ∧ w'.cell? ⟨g, v * 2 + 1, none⟩ = some (nu yk)) (first | assumption | exact HSD.out | exact hs5 | fail) (first | (go_at_call 50; with_reducible refine HC.out.mono ?_; rintro e w5 ⟨rfl, hs5, HB5⟩) | fail)
                      have c9 := Hid.mk' (HP0.out w5 HB5.out)
                      clear c0 c1 c2 c3 hs5 HB5 HC HSD HP0 hwu
                      go_wp2_with fail
                      refine c9.out.mono ?_
                      rintro e w2 ⟨m, o, rfl, hpm, hp⟩
                      have hL := True.intro
                      clear c9
                      have HP := Hid.mk' hp
                      have HPM := Hid.mk' hpm
                      clear hp hpm hL
                      have hma : (m : Int) - (a' : Int) = ((m - a' : Nat) : Int) := by have := HPM.out; omega
                      have hbm : (b' : Int) - (m : Int) = ((b' - m : Nat) : Int) := by have := HPM.out; omega
                      obtain ⟨ll, hll⟩ : ∃ ll, m - a' = ll := ⟨_, rfl⟩
                      obtain ⟨rl, hrl⟩ : ∃ rl, b' - m = rl := ⟨_, rfl⟩
                      rw [hll] at hma
                      rw [hrl] at hbm
                      have hllb : ll ≤ 65536 := by have := HPM.out; omega
                      have hrlb : rl ≤ 65536 := by have := HPM.out; omega
                      by_cases hlr : ll < rl
                      · have hlrI : (ll : Int) < (rl : Int) := by omega
                        have HC : Hid (Calls Tryd.prog 60 #[slc g n c, nun a', nun m, nun li, cmpV p] w2 fun e W' => e = .returned (.tuple #[]) ∧ Hid (LeftW p g c n a b W W' D (Out a b (m + 1) b'))) := by
                          obtain ⟨F, f1, f2, f3, f4, f5, f6⟩ := HP.out
                          have hpmo := HPM.out
                          refine (IH f1 a' m li (by omega) (by omega) (by omega) hli (fun x y h1 h2 h3 => f6 x y h1 h2 (by omega))).mono ?_
                          rintro e W' ⟨rfl, G, g1, g2, g3, g4⟩
                          exact ⟨rfl, G, g1, keep_keep f2 g2, f3.trans (g3.wide (by omega) (by omega)), f4.left f5 (by omega) (by omega) ha1 hb1 g3 g4⟩
                        have hm1 : (m : Int) + 1 = ((m + 1 : Nat) : Int) := by omega
                        obtain ⟨m1, hm1'⟩ : ∃ m1, m + 1 = m1 := ⟨_, rfl⟩
                        rw [hm1'] at hm1 HC
                        have HJ : Hid (a ≤ m1 ∧ m1 ≤ b' ∧ b' ≤ b ∧ a' < m1) := by
                          have := HPM.out
                          show _ ∧ _
                          omega
                        clear HP hll hrl hm1'
                        go_wp2_with fail
                        refine HC.out.mono ?_
                        rintro e w3 ⟨rfl, HL3⟩
                        clear HC
                        go_wp2
                        go_roundw
                        case rel => exact ⟨m1, b', li, _, _, rfl, rfl, rfl, rfl, rfl, HJ.out.1, HJ.out.2.1, HJ.out.2.2.1, hli, HL3⟩
                        case measure => have := HJ.out; simp [intOf]; omega
                      · have hlrI : ¬ (ll : Int) < (rl : Int) := by omega
                        obtain ⟨m1, hm1'⟩ : ∃ m1, m + 1 = m1 := ⟨_, rfl⟩
                        have hm1 : (m : Int) + 1 = (m1 : Int) := by omega
                        have HC : Hid (Calls Tryd.prog 60 #[slc g n c, nun m1, nun b', nun li, cmpV p] w2 fun e W' => e = .returned (.tuple #[]) ∧ Hid (LeftW p g c n a b W W' D (Out a b a' m))) := by
                          rw [← hm1']
                          obtain ⟨F, f1, f2, f3, f4, f5, f6⟩ := HP.out
                          have hpmo := HPM.out
                          refine (IH f1 (m + 1) b' li (by omega) (by omega) (by omega) hli (f5.bef f6 (by omega) (by omega))).mono ?_
                          rintro e W' ⟨rfl, G, g1, g2, g3, g4⟩
                          exact ⟨rfl, G, g1, keep_keep f2 g2, f3.trans (g3.wide (by omega) (by omega)), f4.right f5 (by omega) (by omega) ha1 hb1 g3 g4⟩
                        have HJ : Hid (a' ≤ m ∧ m ≤ b ∧ m < b') := by
                          have := HPM.out
                          show _ ∧ _
                          omega
                        clear HP hll hrl hm1'
                        go_wp2_with fail
                        refine HC.out.mono ?_
                        rintro e w3 ⟨rfl, HL3⟩
                        clear HC
                        go_wp2
                        go_roundw
                        case rel => exact ⟨a', m, li, _, _, rfl, rfl, rfl, rfl, rfl, ha1, HJ.out.1, HJ.out.2.1, hli, HL3⟩
                        case measure => have := HJ.out; simp [intOf]; omega
                    · have ha0I : ¬ (a' : Int) > 0 := by omega
                      have ha0I2 : ¬ (0 : Int) < (a' : Int) := by omega
                      have HP1 : Hid (∀ k, Calls Tryd.prog 74 #[slc g n c, nun a', nun b', nun v, cmpV p] (wx.drewN k) fun e W' => ∃ (m : Nat) (o : Bool), e = .returned (.tuple #[nun m, .bool o]) ∧ (a' ≤ m ∧ m < b' ∧ b' ≤ b ∧ b ≤ n ∧ a ≤ a' ∧ b - a < N + 1) ∧ LeftW p g c n a b W W' D (fun F => Out a b a' b' F ∧ Mid a' b' m F ∧ Bef a' b' F)) := fun k => HP0.out (wx.drewN k) ⟨rfl, rfl, rfl, Nat.le_refl _, fun _ _ => rfl⟩
                      clear HS HP0
                      go_wp2_with fail
                      go_quiet (fail)
                      go_wp2_with fail
                      refine (HP1.out _).mono ?_
                      rintro e w2 ⟨m, o, rfl, hpm, hp⟩
                      have hL := True.intro
                      clear HP1
                      have HP := Hid.mk' hp
                      have HPM := Hid.mk' hpm
                      clear hp hpm hL
                      have hma : (m : Int) - (a' : Int) = ((m - a' : Nat) : Int) := by have := HPM.out; omega
                      have hbm : (b' : Int) - (m : Int) = ((b' - m : Nat) : Int) := by have := HPM.out; omega
                      obtain ⟨ll, hll⟩ : ∃ ll, m - a' = ll := ⟨_, rfl⟩
                      obtain ⟨rl, hrl⟩ : ∃ rl, b' - m = rl := ⟨_, rfl⟩
                      rw [hll] at hma
                      rw [hrl] at hbm
                      have hllb : ll ≤ 65536 := by have := HPM.out; omega
                      have hrlb : rl ≤ 65536 := by have := HPM.out; omega
                      by_cases hlr : ll < rl
                      · have hlrI : (ll : Int) < (rl : Int) := by omega
                        have HC : Hid (Calls Tryd.prog 60 #[slc g n c, nun a', nun m, nun li, cmpV p] w2 fun e W' => e = .returned (.tuple #[]) ∧ Hid (LeftW p g c n a b W W' D (Out a b (m + 1) b'))) := by
                          obtain ⟨F, f1, f2, f3, f4, f5, f6⟩ := HP.out
                          have hpmo := HPM.out
                          refine (IH f1 a' m li (by omega) (by omega) (by omega) hli (fun x y h1 h2 h3 => f6 x y h1 h2 (by omega))).mono ?_
                          rintro e W' ⟨rfl, G, g1, g2, g3, g4⟩
                          exact ⟨rfl, G, g1, keep_keep f2 g2, f3.trans (g3.wide (by omega) (by omega)), f4.left f5 (by omega) (by omega) ha1 hb1 g3 g4⟩
                        have hm1 : (m : Int) + 1 = ((m + 1 : Nat) : Int) := by omega
                        obtain ⟨m1, hm1'⟩ : ∃ m1, m + 1 = m1 := ⟨_, rfl⟩
                        rw [hm1'] at hm1 HC
                        have HJ : Hid (a ≤ m1 ∧ m1 ≤ b' ∧ b' ≤ b ∧ a' < m1) := by
                          have := HPM.out
                          show _ ∧ _
                          omega
                        clear HP hll hrl hm1'
                        go_wp2_with fail
                        refine HC.out.mono ?_
                        rintro e w3 ⟨rfl, HL3⟩
                        clear HC
                        go_wp2
                        go_roundw
                        case rel => exact ⟨m1, b', li, _, _, rfl, rfl, rfl, rfl, rfl, HJ.out.1, HJ.out.2.1, HJ.out.2.2.1, hli, HL3⟩
                        case measure => have := HJ.out; simp [intOf]; omega
                      · have hlrI : ¬ (ll : Int) < (rl : Int) := by omega
                        obtain ⟨m1, hm1'⟩ : ∃ m1, m + 1 = m1 := ⟨_, rfl⟩
                        have hm1 : (m : Int) + 1 = (m1 : Int) := by omega
                        have HC : Hid (Calls Tryd.prog 60 #[slc g n c, nun m1, nun b', nun li, cmpV p] w2 fun e W' => e = .returned (.tuple #[]) ∧ Hid (LeftW p g c n a b W W' D (Out a b a' m))) := by
                          rw [← hm1']
                          obtain ⟨F, f1, f2, f3, f4, f5, f6⟩ := HP.out
                          have hpmo := HPM.out
                          refine (IH f1 (m + 1) b' li (by omega) (by omega) (by omega) hli (f5.bef f6 (by omega) (by omega))).mono ?_
                          rintro e W' ⟨rfl, G, g1, g2, g3, g4⟩
                          exact ⟨rfl, G, g1, keep_keep f2 g2, f3.trans (g3.wide (by omega) (by omega)), f4.right f5 (by omega) (by omega) ha1 hb1 g3 g4⟩
                        have HJ : Hid (a' ≤ m ∧ m ≤ b ∧ m < b') := by
                          have := HPM.out
                          show _ ∧ _
                          omega
                        clear HP hll hrl hm1'
                        go_wp2_with fail
                        refine HC.out.mono ?_
                        rintro e w3 ⟨rfl, HL3⟩
                        clear HC
                        go_wp2
                        go_roundw
                        case rel => exact ⟨a', m, li, _, _, rfl, rfl, rfl, rfl, rfl, ha1, HJ.out.1, HJ.out.2.1, hli, HL3⟩
                        case measure => have := HJ.out; simp [intOf]; omega
                | false =>
                  have HP0 : Hid (∀ w5, Below wx.heap.size wx w5 → Calls Tryd.prog 74 #[slc g n c, nun a', nun b', nun v, cmpV p] w5 fun e W' => ∃ (m : Nat) (o : Bool), e = .returned (.tuple #[nun m, .bool o]) ∧ (a' ≤ m ∧ m < b' ∧ b' ≤ b ∧ b ≤ n ∧ a ≤ a' ∧ b - a < N + 1) ∧ LeftW p g c n a b W W' D (fun F => Out a b a' b' F ∧ Mid a' b' m F ∧ Bef a' b' F)) := fun w5 hb5 => by
                    obtain ⟨E, e1, e2, e3, e4⟩ := HS.out
                    refine (partition_p (e1.below hb5) a' b' v (by omega) hbig hv.1 hv.2).mono ?_
                    rintro e W' ⟨m, o, rfl, h1, h2, F, f1, f2, f3, f4⟩
                    exact ⟨m, o, rfl, ⟨h1, h2, hb1, hb, ha1, hN⟩, F, f1, keep_keep (keep_below e2 hb5) f2, e3.trans (f3.wide ha1 hb1), e4.pm f3 ha1 hb1, f4, (e4.bef (HBF.out.pm e3) ha1 hb1).pm f3⟩
                  by_cases ha0 : 0 < a'
                  · have ha0I : (a' : Int) > 0 := by omega
                    have ha0I2 : (0 : Int) < (a' : Int) := by omega
                    obtain ⟨u, hu⟩ : ∃ u, u + 1 = a' := ⟨a' - 1, by omega⟩
                    have hun : (u : Int) < (n : Int) := by omega
                    have hu0 : (0 : Int) ≤ (u : Int) := by omega
                    have hvn : (v : Int) < (n : Int) := by omega
                    have hv0 : (0 : Int) ≤ (v : Int) := by omega
                    have hwu : IntKind.i64.wrap ((a' : Int) - 1) = (u : Int) := by rw [wrap_i64] <;> omega
                    obtain ⟨E, e1, e2, e3, e4⟩ := HS.out
                    obtain ⟨x, hx⟩ : ∃ x, atD E u = x := ⟨_, rfl⟩
                    obtain ⟨y, hy⟩ : ∃ y, atD E v = y := ⟨_, rfl⟩
                    obtain ⟨⟨⟨c0, c1, c2, c3⟩, hsd⟩, r, HR, HC⟩ := e1.cmp (i := u) (j := v) (by omega) (by omega) hx hy
                    have hbe := (e4.bef (HBF.out.pm e3) ha1 hb1) u v (by omega) hv.1 hv.2
                    rw [hx, hy] at hbe
                    rw [hbe] at HR
                    have hrd : decide (r < 0) = true := HR.out
                    have HSD := Hid.mk' hsd
                    clear e1 e2 e3 e4 hx hy hsd hbe HS hu
                    obtain ⟨xi, xk⟩ := x
                    obtain ⟨yi, yk⟩ := y
                    dsimp only at c0 c1 c2 c3 HC HSD
                    go_wp2_with fail
                    go_region_held3 (fun w' => w'.cell? ⟨g, u * 2, none⟩ = some (nu xi) ∧ w'.cell? ⟨g, u * 2 + 1, none⟩ = some (nu xk) ∧ w'.cell? ⟨g, v * 2, none⟩ = some (nu yi) ∧ w'.cell? ⟨g, v * 2 + 1, none⟩ = some (nu yk)) (first | assumption | exact HSD.out | exact hs5 | fail) (first | (go_at_call 50; with_reducible refine HC.out.mono ?_; rintro e w5 ⟨rfl, hs5, HB5⟩) | fail)
                    have c9 := Hid.mk' (HP0.out w5 HB5.out)
                    clear c0 c1 c2 c3 hs5 HB5 HC HSD HP0 hwu
                    go_wp2_with fail
                    refine c9.out.mono ?_
                    rintro e w2 ⟨m, o, rfl, hpm, hp⟩
                    have hL := True.intro
                    clear c9
                    have HP := Hid.mk' hp
                    have HPM := Hid.mk' hpm
                    clear hp hpm hL
                    have hma : (m : Int) - (a' : Int) = ((m - a' : Nat) : Int) := by have := HPM.out; omega
                    have hbm : (b' : Int) - (m : Int) = ((b' - m : Nat) : Int) := by have := HPM.out; omega
                    obtain ⟨ll, hll⟩ : ∃ ll, m - a' = ll := ⟨_, rfl⟩
                    obtain ⟨rl, hrl⟩ : ∃ rl, b' - m = rl := ⟨_, rfl⟩
                    rw [hll] at hma
                    rw [hrl] at hbm
                    have hllb : ll ≤ 65536 := by have := HPM.out; omega
                    have hrlb : rl ≤ 65536 := by have := HPM.out; omega
                    by_cases hlr : ll < rl
                    · have hlrI : (ll : Int) < (rl : Int) := by omega
                      have HC : Hid (Calls Tryd.prog 60 #[slc g n c, nun a', nun m, nun li, cmpV p] w2 fun e W' => e = .returned (.tuple #[]) ∧ Hid (LeftW p g c n a b W W' D (Out a b (m + 1) b'))) := by
                        obtain ⟨F, f1, f2, f3, f4, f5, f6⟩ := HP.out
                        have hpmo := HPM.out
                        refine (IH f1 a' m li (by omega) (by omega) (by omega) hli (fun x y h1 h2 h3 => f6 x y h1 h2 (by omega))).mono ?_
                        rintro e W' ⟨rfl, G, g1, g2, g3, g4⟩
                        exact ⟨rfl, G, g1, keep_keep f2 g2, f3.trans (g3.wide (by omega) (by omega)), f4.left f5 (by omega) (by omega) ha1 hb1 g3 g4⟩
                      have hm1 : (m : Int) + 1 = ((m + 1 : Nat) : Int) := by omega
                      obtain ⟨m1, hm1'⟩ : ∃ m1, m + 1 = m1 := ⟨_, rfl⟩
                      rw [hm1'] at hm1 HC
                      have HJ : Hid (a ≤ m1 ∧ m1 ≤ b' ∧ b' ≤ b ∧ a' < m1) := by
                        have := HPM.out
                        show _ ∧ _
                        omega
                      clear HP hll hrl hm1'
                      go_wp2_with fail
                      refine HC.out.mono ?_
                      rintro e w3 ⟨rfl, HL3⟩
                      clear HC
                      go_wp2
                      go_roundw
                      case rel => exact ⟨m1, b', li, _, _, rfl, rfl, rfl, rfl, rfl, HJ.out.1, HJ.out.2.1, HJ.out.2.2.1, hli, HL3⟩
                      case measure => have := HJ.out; simp [intOf]; omega
                    · have hlrI : ¬ (ll : Int) < (rl : Int) := by omega
                      obtain ⟨m1, hm1'⟩ : ∃ m1, m + 1 = m1 := ⟨_, rfl⟩
                      have hm1 : (m : Int) + 1 = (m1 : Int) := by omega
                      have HC : Hid (Calls Tryd.prog 60 #[slc g n c, nun m1, nun b', nun li, cmpV p] w2 fun e W' => e = .returned (.tuple #[]) ∧ Hid (LeftW p g c n a b W W' D (Out a b a' m))) := by
                        rw [← hm1']
                        obtain ⟨F, f1, f2, f3, f4, f5, f6⟩ := HP.out
                        have hpmo := HPM.out
                        refine (IH f1 (m + 1) b' li (by omega) (by omega) (by omega) hli (f5.bef f6 (by omega) (by omega))).mono ?_
                        rintro e W' ⟨rfl, G, g1, g2, g3, g4⟩
                        exact ⟨rfl, G, g1, keep_keep f2 g2, f3.trans (g3.wide (by omega) (by omega)), f4.right f5 (by omega) (by omega) ha1 hb1 g3 g4⟩
                      have HJ : Hid (a' ≤ m ∧ m ≤ b ∧ m < b') := by
                        have := HPM.out
                        show _ ∧ _
                        omega
                      clear HP hll hrl hm1'
                      go_wp2_with fail
                      refine HC.out.mono ?_
                      rintro e w3 ⟨rfl, HL3⟩
                      clear HC
                      go_wp2
                      go_roundw
                      case rel => exact ⟨a', m, li, _, _, rfl, rfl, rfl, rfl, rfl, ha1, HJ.out.1, HJ.out.2.1, hli, HL3⟩
                      case measure => have := HJ.out; simp [intOf]; omega
                  · have ha0I : ¬ (a' : Int) > 0 := by omega
                    have ha0I2 : ¬ (0 : Int) < (a' : Int) := by omega
                    have HP1 : Hid (∀ k, Calls Tryd.prog 74 #[slc g n c, nun a', nun b', nun v, cmpV p] (wx.drewN k) fun e W' => ∃ (m : Nat) (o : Bool), e = .returned (.tuple #[nun m, .bool o]) ∧ (a' ≤ m ∧ m < b' ∧ b' ≤ b ∧ b ≤ n ∧ a ≤ a' ∧ b - a < N + 1) ∧ LeftW p g c n a b W W' D (fun F => Out a b a' b' F ∧ Mid a' b' m F ∧ Bef a' b' F)) := fun k => HP0.out (wx.drewN k) ⟨rfl, rfl, rfl, Nat.le_refl _, fun _ _ => rfl⟩
                    clear HS HP0
                    go_wp2_with fail
                    go_quiet (fail)
                    go_wp2_with fail
                    refine (HP1.out _).mono ?_
                    rintro e w2 ⟨m, o, rfl, hpm, hp⟩
                    have hL := True.intro
                    clear HP1
                    have HP := Hid.mk' hp
                    have HPM := Hid.mk' hpm
                    clear hp hpm hL
                    have hma : (m : Int) - (a' : Int) = ((m - a' : Nat) : Int) := by have := HPM.out; omega
                    have hbm : (b' : Int) - (m : Int) = ((b' - m : Nat) : Int) := by have := HPM.out; omega
                    obtain ⟨ll, hll⟩ : ∃ ll, m - a' = ll := ⟨_, rfl⟩
                    obtain ⟨rl, hrl⟩ : ∃ rl, b' - m = rl := ⟨_, rfl⟩
                    rw [hll] at hma
                    rw [hrl] at hbm
                    have hllb : ll ≤ 65536 := by have := HPM.out; omega
                    have hrlb : rl ≤ 65536 := by have := HPM.out; omega
                    by_cases hlr : ll < rl
                    · have hlrI : (ll : Int) < (rl : Int) := by omega
                      have HC : Hid (Calls Tryd.prog 60 #[slc g n c, nun a', nun m, nun li, cmpV p] w2 fun e W' => e = .returned (.tuple #[]) ∧ Hid (LeftW p g c n a b W W' D (Out a b (m + 1) b'))) := by
                        obtain ⟨F, f1, f2, f3, f4, f5, f6⟩ := HP.out
                        have hpmo := HPM.out
                        refine (IH f1 a' m li (by omega) (by omega) (by omega) hli (fun x y h1 h2 h3 => f6 x y h1 h2 (by omega))).mono ?_
                        rintro e W' ⟨rfl, G, g1, g2, g3, g4⟩
                        exact ⟨rfl, G, g1, keep_keep f2 g2, f3.trans (g3.wide (by omega) (by omega)), f4.left f5 (by omega) (by omega) ha1 hb1 g3 g4⟩
                      have hm1 : (m : Int) + 1 = ((m + 1 : Nat) : Int) := by omega
                      obtain ⟨m1, hm1'⟩ : ∃ m1, m + 1 = m1 := ⟨_, rfl⟩
                      rw [hm1'] at hm1 HC
                      have HJ : Hid (a ≤ m1 ∧ m1 ≤ b' ∧ b' ≤ b ∧ a' < m1) := by
                        have := HPM.out
                        show _ ∧ _
                        omega
                      clear HP hll hrl hm1'
                      go_wp2_with fail
                      refine HC.out.mono ?_
                      rintro e w3 ⟨rfl, HL3⟩
                      clear HC
                      go_wp2
                      go_roundw
                      case rel => exact ⟨m1, b', li, _, _, rfl, rfl, rfl, rfl, rfl, HJ.out.1, HJ.out.2.1, HJ.out.2.2.1, hli, HL3⟩
                      case measure => have := HJ.out; simp [intOf]; omega
                    · have hlrI : ¬ (ll : Int) < (rl : Int) := by omega
                      obtain ⟨m1, hm1'⟩ : ∃ m1, m + 1 = m1 := ⟨_, rfl⟩
                      have hm1 : (m : Int) + 1 = (m1 : Int) := by omega
                      have HC : Hid (Calls Tryd.prog 60 #[slc g n c, nun m1, nun b', nun li, cmpV p] w2 fun e W' => e = .returned (.tuple #[]) ∧ Hid (LeftW p g c n a b W W' D (Out a b a' m))) := by
                        rw [← hm1']
                        obtain ⟨F, f1, f2, f3, f4, f5, f6⟩ := HP.out
                        have hpmo := HPM.out
                        refine (IH f1 (m + 1) b' li (by omega) (by omega) (by omega) hli (f5.bef f6 (by omega) (by omega))).mono ?_
                        rintro e W' ⟨rfl, G, g1, g2, g3, g4⟩
                        exact ⟨rfl, G, g1, keep_keep f2 g2, f3.trans (g3.wide (by omega) (by omega)), f4.right f5 (by omega) (by omega) ha1 hb1 g3 g4⟩
                      have HJ : Hid (a' ≤ m ∧ m ≤ b ∧ m < b') := by
                        have := HPM.out
                        show _ ∧ _
                        omega
                      clear HP hll hrl hm1'
                      go_wp2_with fail
                      refine HC.out.mono ?_
                      rintro e w3 ⟨rfl, HL3⟩
                      clear HC
                      go_wp2
                      go_roundw
                      case rel => exact ⟨a', m, li, _, _, rfl, rfl, rfl, rfl, rfl, ha1, HJ.out.1, HJ.out.2.1, hli, HL3⟩
                      case measure => have := HJ.out; simp [intOf]; omega
            · by_cases ho1 : o = 1
              · subst ho1
                clear ho ho2
                as_aux_lemma =>
                  cases wp with
                  | true =>
                    have c5 : Hid (Calls Tryd.prog 72 #[slc g n c, nun a', nun b', cmpV p] wx fun e W' => PartQ p g c n a b a' b' W W' D e) := by
                      obtain ⟨E, e1, e2, e3, e4⟩ := HS.out
                      refine (partial_p e1 a' b' (by omega) hbig (e4.bef (HBF.out.pm e3) ha1 hb1)).mono ?_
                      rintro e W' ⟨o, rfl, F, f1, f2, f3, f4⟩
                      exact ⟨o, rfl, F, f1, keep_keep e2 f2, e3.trans (f3.wide ha1 hb1), e4.pm f3 ha1 hb1, f4⟩
                    clear HS
                    go_wp2_with fail
                    refine c5.out.mono ?_
                    rintro e w8 ⟨po, rfl, hpo⟩
                    clear c5
                    cases po with
                    | true =>
                      have HE : Hid (LeftW p g c n a b W w8 D (Srt a b)) := by
                        obtain ⟨F, f1, f2, f3, f4, f5⟩ := hpo
                        exact ⟨F, f1, f2, f3, f4.done (f5 rfl)⟩
                      clear hpo
                      go_wp2
                      (try simp only [Exit.inBlock, Exit.then])
                      refine bodyPost_ret (results_none rfl _ _ _) rfl ?_
                      exact ⟨rfl, HE.out⟩
                    | false =>
                      have HS : Hid (LeftW p g c n a b W w8 D (Out a b a' b')) := by
                        obtain ⟨F, f1, f2, f3, f4, f5⟩ := hpo
                        exact ⟨F, f1, f2, f3, f4⟩
                      obtain ⟨wx, hwx⟩ : ∃ wx, w8 = wx := ⟨_, rfl⟩
                      rw [hwx] at HS ⊢
                      clear hpo hwx
                      have HP0 : Hid (∀ w5, Below wx.heap.size wx w5 → Calls Tryd.prog 74 #[slc g n c, nun a', nun b', nun v, cmpV p] w5 fun e W' => ∃ (m : Nat) (o : Bool), e = .returned (.tuple #[nun m, .bool o]) ∧ (a' ≤ m ∧ m < b' ∧ b' ≤ b ∧ b ≤ n ∧ a ≤ a' ∧ b - a < N + 1) ∧ LeftW p g c n a b W W' D (fun F => Out a b a' b' F ∧ Mid a' b' m F ∧ Bef a' b' F)) := fun w5 hb5 => by
                        obtain ⟨E, e1, e2, e3, e4⟩ := HS.out
                        refine (partition_p (e1.below hb5) a' b' v (by omega) hbig hv.1 hv.2).mono ?_
                        rintro e W' ⟨m, o, rfl, h1, h2, F, f1, f2, f3, f4⟩
                        exact ⟨m, o, rfl, ⟨h1, h2, hb1, hb, ha1, hN⟩, F, f1, keep_keep (keep_below e2 hb5) f2, e3.trans (f3.wide ha1 hb1), e4.pm f3 ha1 hb1, f4, (e4.bef (HBF.out.pm e3) ha1 hb1).pm f3⟩
                      by_cases ha0 : 0 < a'
                      · have ha0I : (a' : Int) > 0 := by omega
                        have ha0I2 : (0 : Int) < (a' : Int) := by omega
                        obtain ⟨u, hu⟩ : ∃ u, u + 1 = a' := ⟨a' - 1, by omega⟩
                        have hun : (u : Int) < (n : Int) := by omega
                        have hu0 : (0 : Int) ≤ (u : Int) := by omega
                        have hvn : (v : Int) < (n : Int) := by omega
                        have hv0 : (0 : Int) ≤ (v : Int) := by omega
                        have hwu : IntKind.i64.wrap ((a' : Int) - 1) = (u : Int) := by rw [wrap_i64] <;> omega
                        obtain ⟨E, e1, e2, e3, e4⟩ := HS.out
                        obtain ⟨x, hx⟩ : ∃ x, atD E u = x := ⟨_, rfl⟩
                        obtain ⟨y, hy⟩ : ∃ y, atD E v = y := ⟨_, rfl⟩
                        obtain ⟨⟨⟨c0, c1, c2, c3⟩, hsd⟩, r, HR, HC⟩ := e1.cmp (i := u) (j := v) (by omega) (by omega) hx hy
                        have hbe := (e4.bef (HBF.out.pm e3) ha1 hb1) u v (by omega) hv.1 hv.2
                        rw [hx, hy] at hbe
                        rw [hbe] at HR
                        have hrd : decide (r < 0) = true := HR.out
                        have HSD := Hid.mk' hsd
                        clear e1 e2 e3 e4 hx hy hsd hbe HS hu
                        obtain ⟨xi, xk⟩ := x
                        obtain ⟨yi, yk⟩ := y
                        dsimp only at c0 c1 c2 c3 HC HSD
                        go_wp2_with fail
                        go_region_held3 (fun w' => w'.cell? ⟨g, u * 2, none⟩ = some (nu xi) ∧ w'.cell? ⟨g, u * 2 + 1, none⟩ = some (nu xk) ∧ w'.cell? ⟨g, v * 2, none⟩ = some (nu yi) ∧ w'.cell? ⟨g, v * 2 + 1, none⟩ = some (nu yk)) (first | assumption | exact HSD.out | exact hs5 | fail) (first | (go_at_call 50; with_reducible refine HC.out.mono ?_; rintro e w5 ⟨rfl, hs5, HB5⟩) | fail)
                        have c9 := Hid.mk' (HP0.out w5 HB5.out)
                        clear c0 c1 c2 c3 hs5 HB5 HC HSD HP0 hwu
                        go_wp2_with fail
                        refine c9.out.mono ?_
                        rintro e w2 ⟨m, o, rfl, hpm, hp⟩
                        have hL := True.intro
                        clear c9
                        have HP := Hid.mk' hp
                        have HPM := Hid.mk' hpm
                        clear hp hpm hL
                        have hma : (m : Int) - (a' : Int) = ((m - a' : Nat) : Int) := by have := HPM.out; omega
                        have hbm : (b' : Int) - (m : Int) = ((b' - m : Nat) : Int) := by have := HPM.out; omega
                        obtain ⟨ll, hll⟩ : ∃ ll, m - a' = ll := ⟨_, rfl⟩
                        obtain ⟨rl, hrl⟩ : ∃ rl, b' - m = rl := ⟨_, rfl⟩
                        rw [hll] at hma
                        rw [hrl] at hbm
                        have hllb : ll ≤ 65536 := by have := HPM.out; omega
                        have hrlb : rl ≤ 65536 := by have := HPM.out; omega
                        by_cases hlr : ll < rl
                        · have hlrI : (ll : Int) < (rl : Int) := by omega
                          have HC : Hid (Calls Tryd.prog 60 #[slc g n c, nun a', nun m, nun li, cmpV p] w2 fun e W' => e = .returned (.tuple #[]) ∧ Hid (LeftW p g c n a b W W' D (Out a b (m + 1) b'))) := by
                            obtain ⟨F, f1, f2, f3, f4, f5, f6⟩ := HP.out
                            have hpmo := HPM.out
                            refine (IH f1 a' m li (by omega) (by omega) (by omega) hli (fun x y h1 h2 h3 => f6 x y h1 h2 (by omega))).mono ?_
                            rintro e W' ⟨rfl, G, g1, g2, g3, g4⟩
                            exact ⟨rfl, G, g1, keep_keep f2 g2, f3.trans (g3.wide (by omega) (by omega)), f4.left f5 (by omega) (by omega) ha1 hb1 g3 g4⟩
                          have hm1 : (m : Int) + 1 = ((m + 1 : Nat) : Int) := by omega
                          obtain ⟨m1, hm1'⟩ : ∃ m1, m + 1 = m1 := ⟨_, rfl⟩
                          rw [hm1'] at hm1 HC
                          have HJ : Hid (a ≤ m1 ∧ m1 ≤ b' ∧ b' ≤ b ∧ a' < m1) := by
                            have := HPM.out
                            show _ ∧ _
                            omega
                          clear HP hll hrl hm1'
                          go_wp2_with fail
                          refine HC.out.mono ?_
                          rintro e w3 ⟨rfl, HL3⟩
                          clear HC
                          go_wp2
                          go_roundw
                          case rel => exact ⟨m1, b', li, _, _, rfl, rfl, rfl, rfl, rfl, HJ.out.1, HJ.out.2.1, HJ.out.2.2.1, hli, HL3⟩
                          case measure => have := HJ.out; simp [intOf]; omega
                        · have hlrI : ¬ (ll : Int) < (rl : Int) := by omega
                          obtain ⟨m1, hm1'⟩ : ∃ m1, m + 1 = m1 := ⟨_, rfl⟩
                          have hm1 : (m : Int) + 1 = (m1 : Int) := by omega
                          have HC : Hid (Calls Tryd.prog 60 #[slc g n c, nun m1, nun b', nun li, cmpV p] w2 fun e W' => e = .returned (.tuple #[]) ∧ Hid (LeftW p g c n a b W W' D (Out a b a' m))) := by
                            rw [← hm1']
                            obtain ⟨F, f1, f2, f3, f4, f5, f6⟩ := HP.out
                            have hpmo := HPM.out
                            refine (IH f1 (m + 1) b' li (by omega) (by omega) (by omega) hli (f5.bef f6 (by omega) (by omega))).mono ?_
                            rintro e W' ⟨rfl, G, g1, g2, g3, g4⟩
                            exact ⟨rfl, G, g1, keep_keep f2 g2, f3.trans (g3.wide (by omega) (by omega)), f4.right f5 (by omega) (by omega) ha1 hb1 g3 g4⟩
                          have HJ : Hid (a' ≤ m ∧ m ≤ b ∧ m < b') := by
                            have := HPM.out
                            show _ ∧ _
                            omega
                          clear HP hll hrl hm1'
                          go_wp2_with fail
                          refine HC.out.mono ?_
                          rintro e w3 ⟨rfl, HL3⟩
                          clear HC
                          go_wp2
                          go_roundw
                          case rel => exact ⟨a', m, li, _, _, rfl, rfl, rfl, rfl, rfl, ha1, HJ.out.1, HJ.out.2.1, hli, HL3⟩
                          case measure => have := HJ.out; simp [intOf]; omega
                      · have ha0I : ¬ (a' : Int) > 0 := by omega
                        have ha0I2 : ¬ (0 : Int) < (a' : Int) := by omega
                        have HP1 : Hid (∀ k, Calls Tryd.prog 74 #[slc g n c, nun a', nun b', nun v, cmpV p] (wx.drewN k) fun e W' => ∃ (m : Nat) (o : Bool), e = .returned (.tuple #[nun m, .bool o]) ∧ (a' ≤ m ∧ m < b' ∧ b' ≤ b ∧ b ≤ n ∧ a ≤ a' ∧ b - a < N + 1) ∧ LeftW p g c n a b W W' D (fun F => Out a b a' b' F ∧ Mid a' b' m F ∧ Bef a' b' F)) := fun k => HP0.out (wx.drewN k) ⟨rfl, rfl, rfl, Nat.le_refl _, fun _ _ => rfl⟩
                        clear HS HP0
                        go_wp2_with fail
                        go_quiet (fail)
                        go_wp2_with fail
                        refine (HP1.out _).mono ?_
                        rintro e w2 ⟨m, o, rfl, hpm, hp⟩
                        have hL := True.intro
                        clear HP1
                        have HP := Hid.mk' hp
                        have HPM := Hid.mk' hpm
                        clear hp hpm hL
                        have hma : (m : Int) - (a' : Int) = ((m - a' : Nat) : Int) := by have := HPM.out; omega
                        have hbm : (b' : Int) - (m : Int) = ((b' - m : Nat) : Int) := by have := HPM.out; omega
                        obtain ⟨ll, hll⟩ : ∃ ll, m - a' = ll := ⟨_, rfl⟩
                        obtain ⟨rl, hrl⟩ : ∃ rl, b' - m = rl := ⟨_, rfl⟩
                        rw [hll] at hma
                        rw [hrl] at hbm
                        have hllb : ll ≤ 65536 := by have := HPM.out; omega
                        have hrlb : rl ≤ 65536 := by have := HPM.out; omega
                        by_cases hlr : ll < rl
                        · have hlrI : (ll : Int) < (rl : Int) := by omega
                          have HC : Hid (Calls Tryd.prog 60 #[slc g n c, nun a', nun m, nun li, cmpV p] w2 fun e W' => e = .returned (.tuple #[]) ∧ Hid (LeftW p g c n a b W W' D (Out a b (m + 1) b'))) := by
                            obtain ⟨F, f1, f2, f3, f4, f5, f6⟩ := HP.out
                            have hpmo := HPM.out
                            refine (IH f1 a' m li (by omega) (by omega) (by omega) hli (fun x y h1 h2 h3 => f6 x y h1 h2 (by omega))).mono ?_
                            rintro e W' ⟨rfl, G, g1, g2, g3, g4⟩
                            exact ⟨rfl, G, g1, keep_keep f2 g2, f3.trans (g3.wide (by omega) (by omega)), f4.left f5 (by omega) (by omega) ha1 hb1 g3 g4⟩
                          have hm1 : (m : Int) + 1 = ((m + 1 : Nat) : Int) := by omega
                          obtain ⟨m1, hm1'⟩ : ∃ m1, m + 1 = m1 := ⟨_, rfl⟩
                          rw [hm1'] at hm1 HC
                          have HJ : Hid (a ≤ m1 ∧ m1 ≤ b' ∧ b' ≤ b ∧ a' < m1) := by
                            have := HPM.out
                            show _ ∧ _
                            omega
                          clear HP hll hrl hm1'
                          go_wp2_with fail
                          refine HC.out.mono ?_
                          rintro e w3 ⟨rfl, HL3⟩
                          clear HC
                          go_wp2
                          go_roundw
                          case rel => exact ⟨m1, b', li, _, _, rfl, rfl, rfl, rfl, rfl, HJ.out.1, HJ.out.2.1, HJ.out.2.2.1, hli, HL3⟩
                          case measure => have := HJ.out; simp [intOf]; omega
                        · have hlrI : ¬ (ll : Int) < (rl : Int) := by omega
                          obtain ⟨m1, hm1'⟩ : ∃ m1, m + 1 = m1 := ⟨_, rfl⟩
                          have hm1 : (m : Int) + 1 = (m1 : Int) := by omega
                          have HC : Hid (Calls Tryd.prog 60 #[slc g n c, nun m1, nun b', nun li, cmpV p] w2 fun e W' => e = .returned (.tuple #[]) ∧ Hid (LeftW p g c n a b W W' D (Out a b a' m))) := by
                            rw [← hm1']
                            obtain ⟨F, f1, f2, f3, f4, f5, f6⟩ := HP.out
                            have hpmo := HPM.out
                            refine (IH f1 (m + 1) b' li (by omega) (by omega) (by omega) hli (f5.bef f6 (by omega) (by omega))).mono ?_
                            rintro e W' ⟨rfl, G, g1, g2, g3, g4⟩
                            exact ⟨rfl, G, g1, keep_keep f2 g2, f3.trans (g3.wide (by omega) (by omega)), f4.right f5 (by omega) (by omega) ha1 hb1 g3 g4⟩
                          have HJ : Hid (a' ≤ m ∧ m ≤ b ∧ m < b') := by
                            have := HPM.out
                            show _ ∧ _
                            omega
                          clear HP hll hrl hm1'
                          go_wp2_with fail
                          refine HC.out.mono ?_
                          rintro e w3 ⟨rfl, HL3⟩
                          clear HC
                          go_wp2
                          go_roundw
                          case rel => exact ⟨a', m, li, _, _, rfl, rfl, rfl, rfl, rfl, ha1, HJ.out.1, HJ.out.2.1, hli, HL3⟩
                          case measure => have := HJ.out; simp [intOf]; omega
                  | false =>
                    have HP0 : Hid (∀ w5, Below wx.heap.size wx w5 → Calls Tryd.prog 74 #[slc g n c, nun a', nun b', nun v, cmpV p] w5 fun e W' => ∃ (m : Nat) (o : Bool), e = .returned (.tuple #[nun m, .bool o]) ∧ (a' ≤ m ∧ m < b' ∧ b' ≤ b ∧ b ≤ n ∧ a ≤ a' ∧ b - a < N + 1) ∧ LeftW p g c n a b W W' D (fun F => Out a b a' b' F ∧ Mid a' b' m F ∧ Bef a' b' F)) := fun w5 hb5 => by
                      obtain ⟨E, e1, e2, e3, e4⟩ := HS.out
                      refine (partition_p (e1.below hb5) a' b' v (by omega) hbig hv.1 hv.2).mono ?_
                      rintro e W' ⟨m, o, rfl, h1, h2, F, f1, f2, f3, f4⟩
                      exact ⟨m, o, rfl, ⟨h1, h2, hb1, hb, ha1, hN⟩, F, f1, keep_keep (keep_below e2 hb5) f2, e3.trans (f3.wide ha1 hb1), e4.pm f3 ha1 hb1, f4, (e4.bef (HBF.out.pm e3) ha1 hb1).pm f3⟩
                    by_cases ha0 : 0 < a'
                    · have ha0I : (a' : Int) > 0 := by omega
                      have ha0I2 : (0 : Int) < (a' : Int) := by omega
                      obtain ⟨u, hu⟩ : ∃ u, u + 1 = a' := ⟨a' - 1, by omega⟩
                      have hun : (u : Int) < (n : Int) := by omega
                      have hu0 : (0 : Int) ≤ (u : Int) := by omega
                      have hvn : (v : Int) < (n : Int) := by omega
                      have hv0 : (0 : Int) ≤ (v : Int) := by omega
                      have hwu : IntKind.i64.wrap ((a' : Int) - 1) = (u : Int) := by rw [wrap_i64] <;> omega
                      obtain ⟨E, e1, e2, e3, e4⟩ := HS.out
                      obtain ⟨x, hx⟩ : ∃ x, atD E u = x := ⟨_, rfl⟩
                      obtain ⟨y, hy⟩ : ∃ y, atD E v = y := ⟨_, rfl⟩
                      obtain ⟨⟨⟨c0, c1, c2, c3⟩, hsd⟩, r, HR, HC⟩ := e1.cmp (i := u) (j := v) (by omega) (by omega) hx hy
                      have hbe := (e4.bef (HBF.out.pm e3) ha1 hb1) u v (by omega) hv.1 hv.2
                      rw [hx, hy] at hbe
                      rw [hbe] at HR
                      have hrd : decide (r < 0) = true := HR.out
                      have HSD := Hid.mk' hsd
                      clear e1 e2 e3 e4 hx hy hsd hbe HS hu
                      obtain ⟨xi, xk⟩ := x
                      obtain ⟨yi, yk⟩ := y
                      dsimp only at c0 c1 c2 c3 HC HSD
                      go_wp2_with fail
                      go_region_held3 (fun w' => w'.cell? ⟨g, u * 2, none⟩ = some (nu xi) ∧ w'.cell? ⟨g, u * 2 + 1, none⟩ = some (nu xk) ∧ w'.cell? ⟨g, v * 2, none⟩ = some (nu yi) ∧ w'.cell? ⟨g, v * 2 + 1, none⟩ = some (nu yk)) (first | assumption | exact HSD.out | exact hs5 | fail) (first | (go_at_call 50; with_reducible refine HC.out.mono ?_; rintro e w5 ⟨rfl, hs5, HB5⟩) | fail)
                      have c9 := Hid.mk' (HP0.out w5 HB5.out)
                      clear c0 c1 c2 c3 hs5 HB5 HC HSD HP0 hwu
                      go_wp2_with fail
                      refine c9.out.mono ?_
                      rintro e w2 ⟨m, o, rfl, hpm, hp⟩
                      have hL := True.intro
                      clear c9
                      have HP := Hid.mk' hp
                      have HPM := Hid.mk' hpm
                      clear hp hpm hL
                      have hma : (m : Int) - (a' : Int) = ((m - a' : Nat) : Int) := by have := HPM.out; omega
                      have hbm : (b' : Int) - (m : Int) = ((b' - m : Nat) : Int) := by have := HPM.out; omega
                      obtain ⟨ll, hll⟩ : ∃ ll, m - a' = ll := ⟨_, rfl⟩
                      obtain ⟨rl, hrl⟩ : ∃ rl, b' - m = rl := ⟨_, rfl⟩
                      rw [hll] at hma
                      rw [hrl] at hbm
                      have hllb : ll ≤ 65536 := by have := HPM.out; omega
                      have hrlb : rl ≤ 65536 := by have := HPM.out; omega
                      by_cases hlr : ll < rl
                      · have hlrI : (ll : Int) < (rl : Int) := by omega
                        have HC : Hid (Calls Tryd.prog 60 #[slc g n c, nun a', nun m, nun li, cmpV p] w2 fun e W' => e = .returned (.tuple #[]) ∧ Hid (LeftW p g c n a b W W' D (Out a b (m + 1) b'))) := by
                          obtain ⟨F, f1, f2, f3, f4, f5, f6⟩ := HP.out
                          have hpmo := HPM.out
                          refine (IH f1 a' m li (by omega) (by omega) (by omega) hli (fun x y h1 h2 h3 => f6 x y h1 h2 (by omega))).mono ?_
                          rintro e W' ⟨rfl, G, g1, g2, g3, g4⟩
                          exact ⟨rfl, G, g1, keep_keep f2 g2, f3.trans (g3.wide (by omega) (by omega)), f4.left f5 (by omega) (by omega) ha1 hb1 g3 g4⟩
                        have hm1 : (m : Int) + 1 = ((m + 1 : Nat) : Int) := by omega
                        obtain ⟨m1, hm1'⟩ : ∃ m1, m + 1 = m1 := ⟨_, rfl⟩
                        rw [hm1'] at hm1 HC
                        have HJ : Hid (a ≤ m1 ∧ m1 ≤ b' ∧ b' ≤ b ∧ a' < m1) := by
                          have := HPM.out
                          show _ ∧ _
                          omega
                        clear HP hll hrl hm1'
                        go_wp2_with fail
                        refine HC.out.mono ?_
                        rintro e w3 ⟨rfl, HL3⟩
                        clear HC
                        go_wp2
                        go_roundw
                        case rel => exact ⟨m1, b', li, _, _, rfl, rfl, rfl, rfl, rfl, HJ.out.1, HJ.out.2.1, HJ.out.2.2.1, hli, HL3⟩
                        case measure => have := HJ.out; simp [intOf]; omega
                      · have hlrI : ¬ (ll : Int) < (rl : Int) := by omega
                        obtain ⟨m1, hm1'⟩ : ∃ m1, m + 1 = m1 := ⟨_, rfl⟩
                        have hm1 : (m : Int) + 1 = (m1 : Int) := by omega
                        have HC : Hid (Calls Tryd.prog 60 #[slc g n c, nun m1, nun b', nun li, cmpV p] w2 fun e W' => e = .returned (.tuple #[]) ∧ Hid (LeftW p g c n a b W W' D (Out a b a' m))) := by
                          rw [← hm1']
                          obtain ⟨F, f1, f2, f3, f4, f5, f6⟩ := HP.out
                          have hpmo := HPM.out
                          refine (IH f1 (m + 1) b' li (by omega) (by omega) (by omega) hli (f5.bef f6 (by omega) (by omega))).mono ?_
                          rintro e W' ⟨rfl, G, g1, g2, g3, g4⟩
                          exact ⟨rfl, G, g1, keep_keep f2 g2, f3.trans (g3.wide (by omega) (by omega)), f4.right f5 (by omega) (by omega) ha1 hb1 g3 g4⟩
                        have HJ : Hid (a' ≤ m ∧ m ≤ b ∧ m < b') := by
                          have := HPM.out
                          show _ ∧ _
                          omega
                        clear HP hll hrl hm1'
                        go_wp2_with fail
                        refine HC.out.mono ?_
                        rintro e w3 ⟨rfl, HL3⟩
                        clear HC
                        go_wp2
                        go_roundw
                        case rel => exact ⟨a', m, li, _, _, rfl, rfl, rfl, rfl, rfl, ha1, HJ.out.1, HJ.out.2.1, hli, HL3⟩
                        case measure => have := HJ.out; simp [intOf]; omega
                    · have ha0I : ¬ (a' : Int) > 0 := by omega
                      have ha0I2 : ¬ (0 : Int) < (a' : Int) := by omega
                      have HP1 : Hid (∀ k, Calls Tryd.prog 74 #[slc g n c, nun a', nun b', nun v, cmpV p] (wx.drewN k) fun e W' => ∃ (m : Nat) (o : Bool), e = .returned (.tuple #[nun m, .bool o]) ∧ (a' ≤ m ∧ m < b' ∧ b' ≤ b ∧ b ≤ n ∧ a ≤ a' ∧ b - a < N + 1) ∧ LeftW p g c n a b W W' D (fun F => Out a b a' b' F ∧ Mid a' b' m F ∧ Bef a' b' F)) := fun k => HP0.out (wx.drewN k) ⟨rfl, rfl, rfl, Nat.le_refl _, fun _ _ => rfl⟩
                      clear HS HP0
                      go_wp2_with fail
                      go_quiet (fail)
                      go_wp2_with fail
                      refine (HP1.out _).mono ?_
                      rintro e w2 ⟨m, o, rfl, hpm, hp⟩
                      have hL := True.intro
                      clear HP1
                      have HP := Hid.mk' hp
                      have HPM := Hid.mk' hpm
                      clear hp hpm hL
                      have hma : (m : Int) - (a' : Int) = ((m - a' : Nat) : Int) := by have := HPM.out; omega
                      have hbm : (b' : Int) - (m : Int) = ((b' - m : Nat) : Int) := by have := HPM.out; omega
                      obtain ⟨ll, hll⟩ : ∃ ll, m - a' = ll := ⟨_, rfl⟩
                      obtain ⟨rl, hrl⟩ : ∃ rl, b' - m = rl := ⟨_, rfl⟩
                      rw [hll] at hma
                      rw [hrl] at hbm
                      have hllb : ll ≤ 65536 := by have := HPM.out; omega
                      have hrlb : rl ≤ 65536 := by have := HPM.out; omega
                      by_cases hlr : ll < rl
                      · have hlrI : (ll : Int) < (rl : Int) := by omega
                        have HC : Hid (Calls Tryd.prog 60 #[slc g n c, nun a', nun m, nun li, cmpV p] w2 fun e W' => e = .returned (.tuple #[]) ∧ Hid (LeftW p g c n a b W W' D (Out a b (m + 1) b'))) := by
                          obtain ⟨F, f1, f2, f3, f4, f5, f6⟩ := HP.out
                          have hpmo := HPM.out
                          refine (IH f1 a' m li (by omega) (by omega) (by omega) hli (fun x y h1 h2 h3 => f6 x y h1 h2 (by omega))).mono ?_
                          rintro e W' ⟨rfl, G, g1, g2, g3, g4⟩
                          exact ⟨rfl, G, g1, keep_keep f2 g2, f3.trans (g3.wide (by omega) (by omega)), f4.left f5 (by omega) (by omega) ha1 hb1 g3 g4⟩
                        have hm1 : (m : Int) + 1 = ((m + 1 : Nat) : Int) := by omega
                        obtain ⟨m1, hm1'⟩ : ∃ m1, m + 1 = m1 := ⟨_, rfl⟩
                        rw [hm1'] at hm1 HC
                        have HJ : Hid (a ≤ m1 ∧ m1 ≤ b' ∧ b' ≤ b ∧ a' < m1) := by
                          have := HPM.out
                          show _ ∧ _
                          omega
                        clear HP hll hrl hm1'
                        go_wp2_with fail
                        refine HC.out.mono ?_
                        rintro e w3 ⟨rfl, HL3⟩
                        clear HC
                        go_wp2
                        go_roundw
                        case rel => exact ⟨m1, b', li, _, _, rfl, rfl, rfl, rfl, rfl, HJ.out.1, HJ.out.2.1, HJ.out.2.2.1, hli, HL3⟩
                        case measure => have := HJ.out; simp [intOf]; omega
                      · have hlrI : ¬ (ll : Int) < (rl : Int) := by omega
                        obtain ⟨m1, hm1'⟩ : ∃ m1, m + 1 = m1 := ⟨_, rfl⟩
                        have hm1 : (m : Int) + 1 = (m1 : Int) := by omega
                        have HC : Hid (Calls Tryd.prog 60 #[slc g n c, nun m1, nun b', nun li, cmpV p] w2 fun e W' => e = .returned (.tuple #[]) ∧ Hid (LeftW p g c n a b W W' D (Out a b a' m))) := by
                          rw [← hm1']
                          obtain ⟨F, f1, f2, f3, f4, f5, f6⟩ := HP.out
                          have hpmo := HPM.out
                          refine (IH f1 (m + 1) b' li (by omega) (by omega) (by omega) hli (f5.bef f6 (by omega) (by omega))).mono ?_
                          rintro e W' ⟨rfl, G, g1, g2, g3, g4⟩
                          exact ⟨rfl, G, g1, keep_keep f2 g2, f3.trans (g3.wide (by omega) (by omega)), f4.right f5 (by omega) (by omega) ha1 hb1 g3 g4⟩
                        have HJ : Hid (a' ≤ m ∧ m ≤ b ∧ m < b') := by
                          have := HPM.out
                          show _ ∧ _
                          omega
                        clear HP hll hrl hm1'
                        go_wp2_with fail
                        refine HC.out.mono ?_
                        rintro e w3 ⟨rfl, HL3⟩
                        clear HC
                        go_wp2
                        go_roundw
                        case rel => exact ⟨a', m, li, _, _, rfl, rfl, rfl, rfl, rfl, ha1, HJ.out.1, HJ.out.2.1, hli, HL3⟩
                        case measure => have := HJ.out; simp [intOf]; omega
              · obtain rfl : o = 0 := by omega
                clear ho ho1 ho2
                as_aux_lemma =>
                  cases wp with
                  | true =>
                    have HP0 : Hid (∀ w5, Below wx.heap.size wx w5 → Calls Tryd.prog 74 #[slc g n c, nun a', nun b', nun v, cmpV p] w5 fun e W' => ∃ (m : Nat) (o : Bool), e = .returned (.tuple #[nun m, .bool o]) ∧ (a' ≤ m ∧ m < b' ∧ b' ≤ b ∧ b ≤ n ∧ a ≤ a' ∧ b - a < N + 1) ∧ LeftW p g c n a b W W' D (fun F => Out a b a' b' F ∧ Mid a' b' m F ∧ Bef a' b' F)) := fun w5 hb5 => by
                      obtain ⟨E, e1, e2, e3, e4⟩ := HS.out
                      refine (partition_p (e1.below hb5) a' b' v (by omega) hbig hv.1 hv.2).mono ?_
                      rintro e W' ⟨m, o, rfl, h1, h2, F, f1, f2, f3, f4⟩
                      exact ⟨m, o, rfl, ⟨h1, h2, hb1, hb, ha1, hN⟩, F, f1, keep_keep (keep_below e2 hb5) f2, e3.trans (f3.wide ha1 hb1), e4.pm f3 ha1 hb1, f4, (e4.bef (HBF.out.pm e3) ha1 hb1).pm f3⟩
                    by_cases ha0 : 0 < a'
                    · have ha0I : (a' : Int) > 0 := by omega
                      have ha0I2 : (0 : Int) < (a' : Int) := by omega
                      obtain ⟨u, hu⟩ : ∃ u, u + 1 = a' := ⟨a' - 1, by omega⟩
                      have hun : (u : Int) < (n : Int) := by omega
                      have hu0 : (0 : Int) ≤ (u : Int) := by omega
                      have hvn : (v : Int) < (n : Int) := by omega
                      have hv0 : (0 : Int) ≤ (v : Int) := by omega
                      have hwu : IntKind.i64.wrap ((a' : Int) - 1) = (u : Int) := by rw [wrap_i64] <;> omega
                      obtain ⟨E, e1, e2, e3, e4⟩ := HS.out
                      obtain ⟨x, hx⟩ : ∃ x, atD E u = x := ⟨_, rfl⟩
                      obtain ⟨y, hy⟩ : ∃ y, atD E v = y := ⟨_, rfl⟩
                      obtain ⟨⟨⟨c0, c1, c2, c3⟩, hsd⟩, r, HR, HC⟩ := e1.cmp (i := u) (j := v) (by omega) (by omega) hx hy
                      have hbe := (e4.bef (HBF.out.pm e3) ha1 hb1) u v (by omega) hv.1 hv.2
                      rw [hx, hy] at hbe
                      rw [hbe] at HR
                      have hrd : decide (r < 0) = true := HR.out
                      have HSD := Hid.mk' hsd
                      clear e1 e2 e3 e4 hx hy hsd hbe HS hu
                      obtain ⟨xi, xk⟩ := x
                      obtain ⟨yi, yk⟩ := y
                      dsimp only at c0 c1 c2 c3 HC HSD
                      go_wp2_with fail
                      go_region_held3 (fun w' => w'.cell? ⟨g, u * 2, none⟩ = some (nu xi) ∧ w'.cell? ⟨g, u * 2 + 1, none⟩ = some (nu xk) ∧ w'.cell? ⟨g, v * 2, none⟩ = some (nu yi) ∧ w'.cell? ⟨g, v * 2 + 1, none⟩ = some (nu yk)) (first | assumption | exact HSD.out | exact hs5 | fail) (first | (go_at_call 50; with_reducible refine HC.out.mono ?_; rintro e w5 ⟨rfl, hs5, HB5⟩) | fail)
                      have c9 := Hid.mk' (HP0.out w5 HB5.out)
                      clear c0 c1 c2 c3 hs5 HB5 HC HSD HP0 hwu
                      go_wp2_with fail
                      refine c9.out.mono ?_
                      rintro e w2 ⟨m, o, rfl, hpm, hp⟩
                      have hL := True.intro
                      clear c9
                      have HP := Hid.mk' hp
                      have HPM := Hid.mk' hpm
                      clear hp hpm hL
                      have hma : (m : Int) - (a' : Int) = ((m - a' : Nat) : Int) := by have := HPM.out; omega
                      have hbm : (b' : Int) - (m : Int) = ((b' - m : Nat) : Int) := by have := HPM.out; omega
                      obtain ⟨ll, hll⟩ : ∃ ll, m - a' = ll := ⟨_, rfl⟩
                      obtain ⟨rl, hrl⟩ : ∃ rl, b' - m = rl := ⟨_, rfl⟩
                      rw [hll] at hma
                      rw [hrl] at hbm
                      have hllb : ll ≤ 65536 := by have := HPM.out; omega
                      have hrlb : rl ≤ 65536 := by have := HPM.out; omega
                      by_cases hlr : ll < rl
                      · have hlrI : (ll : Int) < (rl : Int) := by omega
                        have HC : Hid (Calls Tryd.prog 60 #[slc g n c, nun a', nun m, nun li, cmpV p] w2 fun e W' => e = .returned (.tuple #[]) ∧ Hid (LeftW p g c n a b W W' D (Out a b (m + 1) b'))) := by
                          obtain ⟨F, f1, f2, f3, f4, f5, f6⟩ := HP.out
                          have hpmo := HPM.out
                          refine (IH f1 a' m li (by omega) (by omega) (by omega) hli (fun x y h1 h2 h3 => f6 x y h1 h2 (by omega))).mono ?_
                          rintro e W' ⟨rfl, G, g1, g2, g3, g4⟩
                          exact ⟨rfl, G, g1, keep_keep f2 g2, f3.trans (g3.wide (by omega) (by omega)), f4.left f5 (by omega) (by omega) ha1 hb1 g3 g4⟩
                        have hm1 : (m : Int) + 1 = ((m + 1 : Nat) : Int) := by omega
                        obtain ⟨m1, hm1'⟩ : ∃ m1, m + 1 = m1 := ⟨_, rfl⟩
                        rw [hm1'] at hm1 HC
                        have HJ : Hid (a ≤ m1 ∧ m1 ≤ b' ∧ b' ≤ b ∧ a' < m1) := by
                          have := HPM.out
                          show _ ∧ _
                          omega
                        clear HP hll hrl hm1'
                        go_wp2_with fail
                        refine HC.out.mono ?_
                        rintro e w3 ⟨rfl, HL3⟩
                        clear HC
                        go_wp2
                        go_roundw
                        case rel => exact ⟨m1, b', li, _, _, rfl, rfl, rfl, rfl, rfl, HJ.out.1, HJ.out.2.1, HJ.out.2.2.1, hli, HL3⟩
                        case measure => have := HJ.out; simp [intOf]; omega
                      · have hlrI : ¬ (ll : Int) < (rl : Int) := by omega
                        obtain ⟨m1, hm1'⟩ : ∃ m1, m + 1 = m1 := ⟨_, rfl⟩
                        have hm1 : (m : Int) + 1 = (m1 : Int) := by omega
                        have HC : Hid (Calls Tryd.prog 60 #[slc g n c, nun m1, nun b', nun li, cmpV p] w2 fun e W' => e = .returned (.tuple #[]) ∧ Hid (LeftW p g c n a b W W' D (Out a b a' m))) := by
                          rw [← hm1']
                          obtain ⟨F, f1, f2, f3, f4, f5, f6⟩ := HP.out
                          have hpmo := HPM.out
                          refine (IH f1 (m + 1) b' li (by omega) (by omega) (by omega) hli (f5.bef f6 (by omega) (by omega))).mono ?_
                          rintro e W' ⟨rfl, G, g1, g2, g3, g4⟩
                          exact ⟨rfl, G, g1, keep_keep f2 g2, f3.trans (g3.wide (by omega) (by omega)), f4.right f5 (by omega) (by omega) ha1 hb1 g3 g4⟩
                        have HJ : Hid (a' ≤ m ∧ m ≤ b ∧ m < b') := by
                          have := HPM.out
                          show _ ∧ _
                          omega
                        clear HP hll hrl hm1'
                        go_wp2_with fail
                        refine HC.out.mono ?_
                        rintro e w3 ⟨rfl, HL3⟩
                        clear HC
                        go_wp2
                        go_roundw
                        case rel => exact ⟨a', m, li, _, _, rfl, rfl, rfl, rfl, rfl, ha1, HJ.out.1, HJ.out.2.1, hli, HL3⟩
                        case measure => have := HJ.out; simp [intOf]; omega
                    · have ha0I : ¬ (a' : Int) > 0 := by omega
                      have ha0I2 : ¬ (0 : Int) < (a' : Int) := by omega
                      have HP1 : Hid (∀ k, Calls Tryd.prog 74 #[slc g n c, nun a', nun b', nun v, cmpV p] (wx.drewN k) fun e W' => ∃ (m : Nat) (o : Bool), e = .returned (.tuple #[nun m, .bool o]) ∧ (a' ≤ m ∧ m < b' ∧ b' ≤ b ∧ b ≤ n ∧ a ≤ a' ∧ b - a < N + 1) ∧ LeftW p g c n a b W W' D (fun F => Out a b a' b' F ∧ Mid a' b' m F ∧ Bef a' b' F)) := fun k => HP0.out (wx.drewN k) ⟨rfl, rfl, rfl, Nat.le_refl _, fun _ _ => rfl⟩
                      clear HS HP0
                      go_wp2_with fail
                      go_quiet (fail)
                      go_wp2_with fail
                      refine (HP1.out _).mono ?_
                      rintro e w2 ⟨m, o, rfl, hpm, hp⟩
                      have hL := True.intro
                      clear HP1
                      have HP := Hid.mk' hp
                      have HPM := Hid.mk' hpm
                      clear hp hpm hL
                      have hma : (m : Int) - (a' : Int) = ((m - a' : Nat) : Int) := by have := HPM.out; omega
                      have hbm : (b' : Int) - (m : Int) = ((b' - m : Nat) : Int) := by have := HPM.out; omega
                      obtain ⟨ll, hll⟩ : ∃ ll, m - a' = ll := ⟨_, rfl⟩
                      obtain ⟨rl, hrl⟩ : ∃ rl, b' - m = rl := ⟨_, rfl⟩
                      rw [hll] at hma
                      rw [hrl] at hbm
                      have hllb : ll ≤ 65536 := by have := HPM.out; omega
                      have hrlb : rl ≤ 65536 := by have := HPM.out; omega
                      by_cases hlr : ll < rl
                      · have hlrI : (ll : Int) < (rl : Int) := by omega
                        have HC : Hid (Calls Tryd.prog 60 #[slc g n c, nun a', nun m, nun li, cmpV p] w2 fun e W' => e = .returned (.tuple #[]) ∧ Hid (LeftW p g c n a b W W' D (Out a b (m + 1) b'))) := by
                          obtain ⟨F, f1, f2, f3, f4, f5, f6⟩ := HP.out
                          have hpmo := HPM.out
                          refine (IH f1 a' m li (by omega) (by omega) (by omega) hli (fun x y h1 h2 h3 => f6 x y h1 h2 (by omega))).mono ?_
                          rintro e W' ⟨rfl, G, g1, g2, g3, g4⟩
                          exact ⟨rfl, G, g1, keep_keep f2 g2, f3.trans (g3.wide (by omega) (by omega)), f4.left f5 (by omega) (by omega) ha1 hb1 g3 g4⟩
                        have hm1 : (m : Int) + 1 = ((m + 1 : Nat) : Int) := by omega
                        obtain ⟨m1, hm1'⟩ : ∃ m1, m + 1 = m1 := ⟨_, rfl⟩
                        rw [hm1'] at hm1 HC
                        have HJ : Hid (a ≤ m1 ∧ m1 ≤ b' ∧ b' ≤ b ∧ a' < m1) := by
                          have := HPM.out
                          show _ ∧ _
                          omega
                        clear HP hll hrl hm1'
                        go_wp2_with fail
                        refine HC.out.mono ?_
                        rintro e w3 ⟨rfl, HL3⟩
                        clear HC
                        go_wp2
                        go_roundw
                        case rel => exact ⟨m1, b', li, _, _, rfl, rfl, rfl, rfl, rfl, HJ.out.1, HJ.out.2.1, HJ.out.2.2.1, hli, HL3⟩
                        case measure => have := HJ.out; simp [intOf]; omega
                      · have hlrI : ¬ (ll : Int) < (rl : Int) := by omega
                        obtain ⟨m1, hm1'⟩ : ∃ m1, m + 1 = m1 := ⟨_, rfl⟩
                        have hm1 : (m : Int) + 1 = (m1 : Int) := by omega
                        have HC : Hid (Calls Tryd.prog 60 #[slc g n c, nun m1, nun b', nun li, cmpV p] w2 fun e W' => e = .returned (.tuple #[]) ∧ Hid (LeftW p g c n a b W W' D (Out a b a' m))) := by
                          rw [← hm1']
                          obtain ⟨F, f1, f2, f3, f4, f5, f6⟩ := HP.out
                          have hpmo := HPM.out
                          refine (IH f1 (m + 1) b' li (by omega) (by omega) (by omega) hli (f5.bef f6 (by omega) (by omega))).mono ?_
                          rintro e W' ⟨rfl, G, g1, g2, g3, g4⟩
                          exact ⟨rfl, G, g1, keep_keep f2 g2, f3.trans (g3.wide (by omega) (by omega)), f4.right f5 (by omega) (by omega) ha1 hb1 g3 g4⟩
                        have HJ : Hid (a' ≤ m ∧ m ≤ b ∧ m < b') := by
                          have := HPM.out
                          show _ ∧ _
                          omega
                        clear HP hll hrl hm1'
                        go_wp2_with fail
                        refine HC.out.mono ?_
                        rintro e w3 ⟨rfl, HL3⟩
                        clear HC
                        go_wp2
                        go_roundw
                        case rel => exact ⟨a', m, li, _, _, rfl, rfl, rfl, rfl, rfl, ha1, HJ.out.1, HJ.out.2.1, hli, HL3⟩
                        case measure => have := HJ.out; simp [intOf]; omega
                  | false =>
                    have HP0 : Hid (∀ w5, Below wx.heap.size wx w5 → Calls Tryd.prog 74 #[slc g n c, nun a', nun b', nun v, cmpV p] w5 fun e W' => ∃ (m : Nat) (o : Bool), e = .returned (.tuple #[nun m, .bool o]) ∧ (a' ≤ m ∧ m < b' ∧ b' ≤ b ∧ b ≤ n ∧ a ≤ a' ∧ b - a < N + 1) ∧ LeftW p g c n a b W W' D (fun F => Out a b a' b' F ∧ Mid a' b' m F ∧ Bef a' b' F)) := fun w5 hb5 => by
                      obtain ⟨E, e1, e2, e3, e4⟩ := HS.out
                      refine (partition_p (e1.below hb5) a' b' v (by omega) hbig hv.1 hv.2).mono ?_
                      rintro e W' ⟨m, o, rfl, h1, h2, F, f1, f2, f3, f4⟩
                      exact ⟨m, o, rfl, ⟨h1, h2, hb1, hb, ha1, hN⟩, F, f1, keep_keep (keep_below e2 hb5) f2, e3.trans (f3.wide ha1 hb1), e4.pm f3 ha1 hb1, f4, (e4.bef (HBF.out.pm e3) ha1 hb1).pm f3⟩
                    by_cases ha0 : 0 < a'
                    · have ha0I : (a' : Int) > 0 := by omega
                      have ha0I2 : (0 : Int) < (a' : Int) := by omega
                      obtain ⟨u, hu⟩ : ∃ u, u + 1 = a' := ⟨a' - 1, by omega⟩
                      have hun : (u : Int) < (n : Int) := by omega
                      have hu0 : (0 : Int) ≤ (u : Int) := by omega
                      have hvn : (v : Int) < (n : Int) := by omega
                      have hv0 : (0 : Int) ≤ (v : Int) := by omega
                      have hwu : IntKind.i64.wrap ((a' : Int) - 1) = (u : Int) := by rw [wrap_i64] <;> omega
                      obtain ⟨E, e1, e2, e3, e4⟩ := HS.out
                      obtain ⟨x, hx⟩ : ∃ x, atD E u = x := ⟨_, rfl⟩
                      obtain ⟨y, hy⟩ : ∃ y, atD E v = y := ⟨_, rfl⟩
                      obtain ⟨⟨⟨c0, c1, c2, c3⟩, hsd⟩, r, HR, HC⟩ := e1.cmp (i := u) (j := v) (by omega) (by omega) hx hy
                      have hbe := (e4.bef (HBF.out.pm e3) ha1 hb1) u v (by omega) hv.1 hv.2
                      rw [hx, hy] at hbe
                      rw [hbe] at HR
                      have hrd : decide (r < 0) = true := HR.out
                      have HSD := Hid.mk' hsd
                      clear e1 e2 e3 e4 hx hy hsd hbe HS hu
                      obtain ⟨xi, xk⟩ := x
                      obtain ⟨yi, yk⟩ := y
                      dsimp only at c0 c1 c2 c3 HC HSD
                      go_wp2_with fail
                      go_region_held3 (fun w' => w'.cell? ⟨g, u * 2, none⟩ = some (nu xi) ∧ w'.cell? ⟨g, u * 2 + 1, none⟩ = some (nu xk) ∧ w'.cell? ⟨g, v * 2, none⟩ = some (nu yi) ∧ w'.cell? ⟨g, v * 2 + 1, none⟩ = some (nu yk)) (first | assumption | exact HSD.out | exact hs5 | fail) (first | (go_at_call 50; with_reducible refine HC.out.mono ?_; rintro e w5 ⟨rfl, hs5, HB5⟩) | fail)
                      have c9 := Hid.mk' (HP0.out w5 HB5.out)
                      clear c0 c1 c2 c3 hs5 HB5 HC HSD HP0 hwu
                      go_wp2_with fail
                      refine c9.out.mono ?_
                      rintro e w2 ⟨m, o, rfl, hpm, hp⟩
                      have hL := True.intro
                      clear c9
                      have HP := Hid.mk' hp
                      have HPM := Hid.mk' hpm
                      clear hp hpm hL
                      have hma : (m : Int) - (a' : Int) = ((m - a' : Nat) : Int) := by have := HPM.out; omega
                      have hbm : (b' : Int) - (m : Int) = ((b' - m : Nat) : Int) := by have := HPM.out; omega
                      obtain ⟨ll, hll⟩ : ∃ ll, m - a' = ll := ⟨_, rfl⟩
                      obtain ⟨rl, hrl⟩ : ∃ rl, b' - m = rl := ⟨_, rfl⟩
                      rw [hll] at hma
                      rw [hrl] at hbm
                      have hllb : ll ≤ 65536 := by have := HPM.out; omega
                      have hrlb : rl ≤ 65536 := by have := HPM.out; omega
                      by_cases hlr : ll < rl
                      · have hlrI : (ll : Int) < (rl : Int) := by omega
                        have HC : Hid (Calls Tryd.prog 60 #[slc g n c, nun a', nun m, nun li, cmpV p] w2 fun e W' => e = .returned (.tuple #[]) ∧ Hid (LeftW p g c n a b W W' D (Out a b (m + 1) b'))) := by
                          obtain ⟨F, f1, f2, f3, f4, f5, f6⟩ := HP.out
                          have hpmo := HPM.out
                          refine (IH f1 a' m li (by omega) (by omega) (by omega) hli (fun x y h1 h2 h3 => f6 x y h1 h2 (by omega))).mono ?_
                          rintro e W' ⟨rfl, G, g1, g2, g3, g4⟩
                          exact ⟨rfl, G, g1, keep_keep f2 g2, f3.trans (g3.wide (by omega) (by omega)), f4.left f5 (by omega) (by omega) ha1 hb1 g3 g4⟩
                        have hm1 : (m : Int) + 1 = ((m + 1 : Nat) : Int) := by omega
                        obtain ⟨m1, hm1'⟩ : ∃ m1, m + 1 = m1 := ⟨_, rfl⟩
                        rw [hm1'] at hm1 HC
                        have HJ : Hid (a ≤ m1 ∧ m1 ≤ b' ∧ b' ≤ b ∧ a' < m1) := by
                          have := HPM.out
                          show _ ∧ _
                          omega
                        clear HP hll hrl hm1'
                        go_wp2_with fail
                        refine HC.out.mono ?_
                        rintro e w3 ⟨rfl, HL3⟩
                        clear HC
                        go_wp2
                        go_roundw
                        case rel => exact ⟨m1, b', li, _, _, rfl, rfl, rfl, rfl, rfl, HJ.out.1, HJ.out.2.1, HJ.out.2.2.1, hli, HL3⟩
                        case measure => have := HJ.out; simp [intOf]; omega
                      · have hlrI : ¬ (ll : Int) < (rl : Int) := by omega
                        obtain ⟨m1, hm1'⟩ : ∃ m1, m + 1 = m1 := ⟨_, rfl⟩
                        have hm1 : (m : Int) + 1 = (m1 : Int) := by omega
                        have HC : Hid (Calls Tryd.prog 60 #[slc g n c, nun m1, nun b', nun li, cmpV p] w2 fun e W' => e = .returned (.tuple #[]) ∧ Hid (LeftW p g c n a b W W' D (Out a b a' m))) := by
                          rw [← hm1']
                          obtain ⟨F, f1, f2, f3, f4, f5, f6⟩ := HP.out
                          have hpmo := HPM.out
                          refine (IH f1 (m + 1) b' li (by omega) (by omega) (by omega) hli (f5.bef f6 (by omega) (by omega))).mono ?_
                          rintro e W' ⟨rfl, G, g1, g2, g3, g4⟩
                          exact ⟨rfl, G, g1, keep_keep f2 g2, f3.trans (g3.wide (by omega) (by omega)), f4.right f5 (by omega) (by omega) ha1 hb1 g3 g4⟩
                        have HJ : Hid (a' ≤ m ∧ m ≤ b ∧ m < b') := by
                          have := HPM.out
                          show _ ∧ _
                          omega
                        clear HP hll hrl hm1'
                        go_wp2_with fail
                        refine HC.out.mono ?_
                        rintro e w3 ⟨rfl, HL3⟩
                        clear HC
                        go_wp2
                        go_roundw
                        case rel => exact ⟨a', m, li, _, _, rfl, rfl, rfl, rfl, rfl, ha1, HJ.out.1, HJ.out.2.1, hli, HL3⟩
                        case measure => have := HJ.out; simp [intOf]; omega
                    · have ha0I : ¬ (a' : Int) > 0 := by omega
                      have ha0I2 : ¬ (0 : Int) < (a' : Int) := by omega
                      have HP1 : Hid (∀ k, Calls Tryd.prog 74 #[slc g n c, nun a', nun b', nun v, cmpV p] (wx.drewN k) fun e W' => ∃ (m : Nat) (o : Bool), e = .returned (.tuple #[nun m, .bool o]) ∧ (a' ≤ m ∧ m < b' ∧ b' ≤ b ∧ b ≤ n ∧ a ≤ a' ∧ b - a < N + 1) ∧ LeftW p g c n a b W W' D (fun F => Out a b a' b' F ∧ Mid a' b' m F ∧ Bef a' b' F)) := fun k => HP0.out (wx.drewN k) ⟨rfl, rfl, rfl, Nat.le_refl _, fun _ _ => rfl⟩
                      clear HS HP0
                      go_wp2_with fail
                      go_quiet (fail)
                      go_wp2_with fail
                      refine (HP1.out _).mono ?_
                      rintro e w2 ⟨m, o, rfl, hpm, hp⟩
                      have hL := True.intro
                      clear HP1
                      have HP := Hid.mk' hp
                      have HPM := Hid.mk' hpm
                      clear hp hpm hL
                      have hma : (m : Int) - (a' : Int) = ((m - a' : Nat) : Int) := by have := HPM.out; omega
                      have hbm : (b' : Int) - (m : Int) = ((b' - m : Nat) : Int) := by have := HPM.out; omega
                      obtain ⟨ll, hll⟩ : ∃ ll, m - a' = ll := ⟨_, rfl⟩
                      obtain ⟨rl, hrl⟩ : ∃ rl, b' - m = rl := ⟨_, rfl⟩
                      rw [hll] at hma
                      rw [hrl] at hbm
                      have hllb : ll ≤ 65536 := by have := HPM.out; omega
                      have hrlb : rl ≤ 65536 := by have := HPM.out; omega
                      by_cases hlr : ll < rl
                      · have hlrI : (ll : Int) < (rl : Int) := by omega
                        have HC : Hid (Calls Tryd.prog 60 #[slc g n c, nun a', nun m, nun li, cmpV p] w2 fun e W' => e = .returned (.tuple #[]) ∧ Hid (LeftW p g c n a b W W' D (Out a b (m + 1) b'))) := by
                          obtain ⟨F, f1, f2, f3, f4, f5, f6⟩ := HP.out
                          have hpmo := HPM.out
                          refine (IH f1 a' m li (by omega) (by omega) (by omega) hli (fun x y h1 h2 h3 => f6 x y h1 h2 (by omega))).mono ?_
                          rintro e W' ⟨rfl, G, g1, g2, g3, g4⟩
                          exact ⟨rfl, G, g1, keep_keep f2 g2, f3.trans (g3.wide (by omega) (by omega)), f4.left f5 (by omega) (by omega) ha1 hb1 g3 g4⟩
                        have hm1 : (m : Int) + 1 = ((m + 1 : Nat) : Int) := by omega
                        obtain ⟨m1, hm1'⟩ : ∃ m1, m + 1 = m1 := ⟨_, rfl⟩
                        rw [hm1'] at hm1 HC
                        have HJ : Hid (a ≤ m1 ∧ m1 ≤ b' ∧ b' ≤ b ∧ a' < m1) := by
                          have := HPM.out
                          show _ ∧ _
                          omega
                        clear HP hll hrl hm1'
                        go_wp2_with fail
                        refine HC.out.mono ?_
                        rintro e w3 ⟨rfl, HL3⟩
                        clear HC
                        go_wp2
                        go_roundw
                        case rel => exact ⟨m1, b', li, _, _, rfl, rfl, rfl, rfl, rfl, HJ.out.1, HJ.out.2.1, HJ.out.2.2.1, hli, HL3⟩
                        case measure => have := HJ.out; simp [intOf]; omega
                      · have hlrI : ¬ (ll : Int) < (rl : Int) := by omega
                        obtain ⟨m1, hm1'⟩ : ∃ m1, m + 1 = m1 := ⟨_, rfl⟩
                        have hm1 : (m : Int) + 1 = (m1 : Int) := by omega
                        have HC : Hid (Calls Tryd.prog 60 #[slc g n c, nun m1, nun b', nun li, cmpV p] w2 fun e W' => e = .returned (.tuple #[]) ∧ Hid (LeftW p g c n a b W W' D (Out a b a' m))) := by
                          rw [← hm1']
                          obtain ⟨F, f1, f2, f3, f4, f5, f6⟩ := HP.out
                          have hpmo := HPM.out
                          refine (IH f1 (m + 1) b' li (by omega) (by omega) (by omega) hli (f5.bef f6 (by omega) (by omega))).mono ?_
                          rintro e W' ⟨rfl, G, g1, g2, g3, g4⟩
                          exact ⟨rfl, G, g1, keep_keep f2 g2, f3.trans (g3.wide (by omega) (by omega)), f4.right f5 (by omega) (by omega) ha1 hb1 g3 g4⟩
                        have HJ : Hid (a' ≤ m ∧ m ≤ b ∧ m < b') := by
                          have := HPM.out
                          show _ ∧ _
                          omega
                        clear HP hll hrl hm1'
                        go_wp2_with fail
                        refine HC.out.mono ?_
                        rintro e w3 ⟨rfl, HL3⟩
                        clear HC
                        go_wp2
                        go_roundw
                        case rel => exact ⟨a', m, li, _, _, rfl, rfl, rfl, rfl, rfl, ha1, HJ.out.1, HJ.out.2.1, hli, HL3⟩
                        case measure => have := HJ.out; simp [intOf]; omega
end Hq
end Go.Proofs.YteclbmmhidmklaaDoor
