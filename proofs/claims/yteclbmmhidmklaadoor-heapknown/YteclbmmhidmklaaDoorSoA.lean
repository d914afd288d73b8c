import Derived.Test.YteclbmmhidmklaaDoorSoS
import Derived.BigQuiet
import Derived.Deep.CutBlock
/- A row that is sorted: parted by a pivot. -/
namespace Go.Proofs.YteclbmmhidmklaaDoor
set_option linter.ambiguousOpen false
open Go.RowKit
namespace Hq
open Hh Ft
set_option linter.unusedSimpArgs false
set_option linter.unusedVariables false
attribute [local go_sem] Oper.semAt_some

/-- The pivot stands at a; those ahead of i are ahead of it, and it is ahead of those behind j. -/
structure Prt (a b i j : Nat) (D : List It) : Prop where
  lo : ∀ x, a < x → x < i → ahd (atD D x) (atD D a) = true
  hi : ∀ y, j < y → y < b → ahd (atD D a) (atD D y) = true

/-- The pivot stands at m. -/
def Mid (a b m : Nat) (D : List It) : Prop := (∀ x, a ≤ x → x < m → ahd (atD D x) (atD D m) = true) ∧ (∀ y, m < y → y < b → ahd (atD D m) (atD D y) = true)

theorem Prt.start (a b : Nat) (D : List It) : Prt a b (a + 1) (b - 1) D := ⟨fun x h1 h2 => by omega, fun y h1 h2 => by omega⟩

theorem Prt.up {a b i j : Nat} {D : List It} (h : Prt a b i j D) (hg : ahd (atD D i) (atD D a) = true) : Prt a b (i + 1) j D :=
  ⟨fun x h1 h2 => by
    by_cases e : x = i
    · rw [e]
      exact hg
    · exact h.lo x h1 (by omega), h.hi⟩

theorem Prt.down {a b i j : Nat} {D : List It} (h : Prt a b i (j + 1) D) (hu : Unl D) (ha : a < j + 1) (hl : j + 1 < D.length) (hg : ahd (atD D (j + 1)) (atD D a) = false) : Prt a b i j D :=
  ⟨h.lo, fun y h1 h2 => by
    by_cases e : y = j + 1
    · rw [e]
      exact ahd_total (hu.ne hl (by omega) (by omega)) (by rw [hg]; simp)
    · exact h.hi y (by omega) h2⟩

theorem Prt.exch {a b i j : Nat} {D : List It} (h : Prt a b i (j + 1) D) (hu : Unl D) (hi : a < i) (hij : i < j + 1) (hl : j + 1 < D.length) (hg : ahd (atD D i) (atD D a) = false) (hg2 : ahd (atD D (j + 1)) (atD D a) = true) : Prt a b (i + 1) j (swp D i (j + 1)) := by
  have hat := fun k => swp_at D i (j + 1) k (by omega) hl
  refine ⟨fun x h1 h2 => ?_, fun y h1 h2 => ?_⟩
  · rw [hat, hat, if_neg (show a ≠ j + 1 by omega), if_neg (show a ≠ i by omega), if_neg (by omega)]
    by_cases e : x = i
    · rw [if_pos e]
      exact hg2
    · rw [if_neg e]
      exact h.lo x h1 (by omega)
  · rw [hat, hat, if_neg (show a ≠ j + 1 by omega), if_neg (show a ≠ i by omega)]
    by_cases e : y = j + 1
    · rw [if_pos e]
      exact ahd_total (hu.ne (by omega) (by omega) (by omega)) (by rw [hg]; simp)
    · rw [if_neg e, if_neg (by omega)]
      exact h.hi y (by omega) h2

theorem Prt.done {a b i j : Nat} {D : List It} (h : Prt a b i j D) (hj : a ≤ j) (hji : j < i) (hl : j < D.length) : Mid a b j (swp D j a) := by
  have hat := fun k => swp_at D j a k hl (by omega)
  refine ⟨fun x h1 h2 => ?_, fun y h1 h2 => ?_⟩
  · rw [hat, hat, if_neg (show j ≠ a by omega), if_pos rfl]
    by_cases e : x = a
    · rw [if_pos e]
      exact h.lo j (by omega) hji
    · rw [if_neg e, if_neg (by omega)]
      exact h.lo x (by omega) (by omega)
  · rw [hat, hat, if_neg (show y ≠ a by omega), if_neg (show y ≠ j by omega)]
    by_cases e : j = a
    · rw [if_pos e, e]
      exact h.hi y (by omega) h2
    · rw [if_neg e, if_pos rfl]
      exact h.hi y (by omega) h2

set_option maxRecDepth 100000 in
set_option maxHeartbeats 8000000 in
theorem partition_p {p g c n : Nat} {W : World} {D : List It} (h : Sw p g c n W D) (a b v : Nat) (hb : b ≤ n) (hab : a + 12 < b) (hv1 : a ≤ v) (hv2 : v < b) :
    Calls Tryd.prog 74 #[slc g n c, nun a, nun b, nun v, cmpV p] W fun e W' => ∃ (m : Nat) (o : Bool), e = .returned (.tuple #[nun m, .bool o]) ∧ a ≤ m ∧ m < b ∧ LeftW p g c n a b W W' D (Mid a b m) := by
  have hn := h.big
  have hcap := (h.cap (by omega)).2
  have han : (a : Int) < (n : Int) := by omega
  have ha0 : (0 : Int) ≤ (a : Int) := by omega
  have hvn : (v : Int) < (n : Int) := by omega
  have hv0 : (0 : Int) ≤ (v : Int) := by omega
  have HW0 : Hid (∃ w6, True) := ⟨W, trivial⟩
  obtain ⟨E, e1, e2, e3, e4⟩ : LeftW p g c n a b W W D (fun _ => True) := LeftW.refl h trivial
  clear h
  go_enter Tryd.func74, Tryd.ntmps74
  have hlE : E.length = n := e1.len
  obtain ⟨x, hx⟩ : ∃ x, atD E a = x := ⟨_, rfl⟩
  obtain ⟨y, hy⟩ : ∃ y, atD E v = y := ⟨_, rfl⟩
  obtain ⟨⟨b0, b1, b2, b3⟩, ⟨f0, f1, f2, f3⟩, ⟨z0, hz0⟩, ⟨z1, hz1⟩, w6, hw6, HW6⟩ := e1.swap (i := a) (j := v) (by omega) (by omega) hx hy
  have HL6 : Hid (LeftW p g c n a b W w6 D (Prt a b (a + 1) (b - 1))) := ⟨_, HW6.out.1, keep_keep e2 HW6.out.2, e3.trans (Pm.swp E (by omega) (by omega) (by omega) (by omega) (by omega)), Prt.start a b _⟩
  have HE6 := Hid.mk' hw6
  obtain ⟨xi, xk⟩ := x
  obtain ⟨yi, yk⟩ := y
  dsimp only at b0 b1 b2 b3 hz0 hz1 HE6
  clear e1 e2 e3 e4 hx hy hlE HW6 hw6
  go_upto_region 1 with fail
  go_region
  rw [HE6.out]
  clear b0 b1 b2 b3 f0 f1 f2 f3 hz0 hz1 HE6
  obtain ⟨i, hi⟩ : ∃ i, a + 1 = i := ⟨_, rfl⟩
  obtain ⟨j, hj⟩ : ∃ j, b - 1 = j := ⟨_, rfl⟩
  have hiI : (a : Int) + 1 = (i : Int) := by omega
  have hjI : (b : Int) - 1 = (j : Int) := by omega
  rw [hi, hj] at HL6
  have hi1 : a + 1 ≤ i := by omega
  have hi2 : i ≤ j + 1 := by omega
  have hjb : j < b := by omega
  have HS := HL6
  clear HL6 hi hj
  obtain ⟨il, hil⟩ : ∃ il, il ≤ i := ⟨i, Nat.le_refl _⟩
  obtain ⟨jl, hjl⟩ : ∃ jl, j ≤ jl := ⟨j, Nat.le_refl _⟩
  go_upto_block 0 with fail
  go_cut [12] from 32 to 49 (fun iv wr => ∃ i : Nat, iv = nun i ∧ a + 1 ≤ i ∧ i ≤ j + 1 ∧ il ≤ i ∧ Hid (LeftW p g c n a b W wr D (fun E => Prt a b i j E ∧ (j < i ∨ ahd (atD E i) (atD E a) = false))))
  case first =>
    go_wp2_with fail
    go_loopw [12] (fun iv wr => ∃ i : Nat, iv = nun i ∧ a + 1 ≤ i ∧ i ≤ j + 1 ∧ il ≤ i ∧ Hid (LeftW p g c n a b W wr D (Prt a b i j))) (fun iv _ => j + 1 - (intOf iv).toNat)
    case atStart => exact ⟨i, rfl, hi1, hi2, hil, HS⟩
    case round =>
      clear HS hi1 hi2 hil
      obtain ⟨i, rfl, hi1, hi2, hil, HL⟩ := hrel
      obtain ⟨E, e1, e2, e3, e4⟩ := HL.out
      by_cases hij : i ≤ j
      · have hijI : (i : Int) ≤ (j : Int) := by omega
        have hin : (i : Int) < (n : Int) := by omega
        have hi0 : (0 : Int) ≤ (i : Int) := by omega
        have hlE : E.length = n := e1.len
        obtain ⟨x, hx⟩ : ∃ x, atD E i = x := ⟨_, rfl⟩
        obtain ⟨y, hy⟩ : ∃ y, atD E a = y := ⟨_, rfl⟩
        obtain ⟨⟨⟨c0, c1, c2, c3⟩, hsd⟩, r, HR, HC⟩ := e1.cmp (i := i) (j := a) (by omega) (by omega) hx hy
        obtain ⟨s, hs⟩ : ∃ s, ahd x y = s := ⟨_, rfl⟩
        rw [hs] at HR
        have HSD := Hid.mk' hsd
        have hgs : ahd (atD E i) (atD E a) = s := by rw [hx, hy]; exact hs
        cases s with
        | true =>
          have HST : Hid (∀ w5, Below wr.heap.size wr w5 → LeftW p g c n a b W w5 D (Prt a b (i + 1) j)) := fun w5 hb5 => ⟨E, e1.below hb5, keep_below e2 hb5, e3, e4.up hgs⟩
          have hrd : decide (r < 0) = true := HR.out
          clear e1 e2 e3 e4 hx hy hsd HL hs hgs hlE
          obtain ⟨xi, xk⟩ := x
          obtain ⟨yi, yk⟩ := y
          dsimp only at c0 c1 c2 c3 HC HSD
          go_wp2_with fail
          go_region_held3 (fun w' => w'.cell? ⟨g, i * 2, none⟩ = some (nu xi) ∧ w'.cell? ⟨g, i * 2 + 1, none⟩ = some (nu xk) ∧ w'.cell? ⟨g, a * 2, none⟩ = some (nu yi) ∧ w'.cell? ⟨g, a * 2 + 1, none⟩ = some (nu yk)) (first | assumption | exact HSD.out | exact hs5 | fail) (first | (go_at_call 50; with_reducible refine HC.out.mono ?_; rintro e w5 ⟨rfl, hs5, HB5⟩) | fail)
          have HL5 := Hid.mk' (HST.out w5 HB5.out)
          clear c0 c1 c2 c3 hs5 HB5 HC HSD HST
          go_wp2
          go_roundw
          case rel => exact ⟨i + 1, by go_num, by omega, by omega, by omega, HL5⟩
          case measure => simp [intOf]; omega
        | false =>
          have HST : Hid (∀ w5, Below wr.heap.size wr w5 → LeftW p g c n a b W w5 D (fun E => Prt a b i j E ∧ (j < i ∨ ahd (atD E i) (atD E a) = false))) := fun w5 hb5 => ⟨E, e1.below hb5, keep_below e2 hb5, e3, e4, .inr hgs⟩
          have hrd : decide (r < 0) = false := HR.out
          clear e1 e2 e3 e4 hx hy hsd HL hs hgs hlE
          obtain ⟨xi, xk⟩ := x
          obtain ⟨yi, yk⟩ := y
          dsimp only at c0 c1 c2 c3 HC HSD
          go_wp2_with fail
          go_region_held3 (fun w' => w'.cell? ⟨g, i * 2, none⟩ = some (nu xi) ∧ w'.cell? ⟨g, i * 2 + 1, none⟩ = some (nu xk) ∧ w'.cell? ⟨g, a * 2, none⟩ = some (nu yi) ∧ w'.cell? ⟨g, a * 2 + 1, none⟩ = some (nu yk)) (first | assumption | exact HSD.out | exact hs5 | fail) (first | (go_at_call 50; with_reducible refine HC.out.mono ?_; rintro e w5 ⟨rfl, hs5, HB5⟩) | fail)
          have HL5 := Hid.mk' (HST.out w5 HB5.out)
          clear c0 c1 c2 c3 hs5 HB5 HC HSD HST
          go_wp2
          go_meet
          case rel => exact ⟨i, rfl, hi1, hi2, hil, HL5⟩
      · have hijI : ¬ (i : Int) ≤ (j : Int) := by omega
        have hijI2 : (j : Int) < (i : Int) := by omega
        have HST : Hid (∀ k, LeftW p g c n a b W (wr.drewN k) D (fun E => Prt a b i j E ∧ (j < i ∨ ahd (atD E i) (atD E a) = false))) := fun k => by
          have hb5 : Below wr.heap.size wr (wr.drewN k) := ⟨rfl, rfl, rfl, Nat.le_refl _, fun _ _ => rfl⟩
          exact ⟨E, e1.below hb5, keep_below e2 hb5, e3, e4, .inl (by omega)⟩
        clear e1 e2 e3 e4 HL
        go_wp2_with fail
        go_quiet (fail)
        go_wp2
        go_meet
        case rel => exact ⟨i, rfl, hi1, hi2, hil, HST.out _⟩
  case rest =>
    clear HS hi1 hi2 hil
    obtain ⟨i, rfl, hi1, hi2, hil, HS⟩ := hcut
    go_upto_block 2 with fail
    go_cut [13] from 50 to 68 (fun jv wr => ∃ j : Nat, jv = nun j ∧ j < b ∧ i ≤ j + 1 ∧ j ≤ jl ∧ Hid (LeftW p g c n a b W wr D (fun E => Prt a b i j E ∧ (j < i ∨ (ahd (atD E i) (atD E a) = false ∧ ahd (atD E j) (atD E a) = true)))))
    case first =>
      go_wp2_with fail
      go_loopw [13] (fun jv wr => ∃ j : Nat, jv = nun j ∧ j < b ∧ i ≤ j + 1 ∧ j ≤ jl ∧ Hid (LeftW p g c n a b W wr D (fun E => Prt a b i j E ∧ (j < i ∨ ahd (atD E i) (atD E a) = false)))) (fun jv _ => (intOf jv).toNat)
      case atStart => exact ⟨j, rfl, hjb, hi2, hjl, HS⟩
      case round =>
        clear HS hjb hi2 hjl
        obtain ⟨j, rfl, hjb, hi2, hjl, HL⟩ := hrel
        obtain ⟨E, e1, e2, e3, e4, e5⟩ := HL.out
        by_cases hij : i ≤ j
        · have hijI : (i : Int) ≤ (j : Int) := by omega
          have hjn : (j : Int) < (n : Int) := by omega
          have hj0 : (0 : Int) ≤ (j : Int) := by omega
          have hlE : E.length = n := e1.len
          obtain ⟨x, hx⟩ : ∃ x, atD E j = x := ⟨_, rfl⟩
          obtain ⟨y, hy⟩ : ∃ y, atD E a = y := ⟨_, rfl⟩
          obtain ⟨⟨⟨c0, c1, c2, c3⟩, hsd⟩, r, HR, HC⟩ := e1.cmp (i := j) (j := a) (by omega) (by omega) hx hy
          obtain ⟨s, hs⟩ : ∃ s, ahd x y = s := ⟨_, rfl⟩
          rw [hs] at HR
          have HSD := Hid.mk' hsd
          have hgs : ahd (atD E j) (atD E a) = s := by rw [hx, hy]; exact hs
          have hgi : ahd (atD E i) (atD E a) = false := by
            rcases e5 with e5 | e5
            · omega
            · exact e5
          cases s with
          | false =>
            obtain ⟨j1, hj1⟩ : ∃ j1, j1 + 1 = j := ⟨j - 1, by omega⟩
            have hj1I : (j : Int) - 1 = (j1 : Int) := by omega
            have HST : Hid (∀ w5, Below wr.heap.size wr w5 → LeftW p g c n a b W w5 D (fun E => Prt a b i j1 E ∧ (j1 < i ∨ ahd (atD E i) (atD E a) = false))) := fun w5 hb5 => ⟨E, e1.below hb5, keep_below e2 hb5, e3, by rw [← hj1] at e4 hgs; exact e4.down e1.unl (by omega) (by omega) hgs, .inr hgi⟩
            have hrd : decide (r < 0) = false := HR.out
            have HJ : Hid (j1 < j ∧ j1 < b ∧ i ≤ j1 + 1 ∧ j1 ≤ jl) := by
              show _ ∧ _
              omega
            clear e1 e2 e3 e4 e5 hx hy hsd HL hs hgs hlE hgi hj1
            obtain ⟨xi, xk⟩ := x
            obtain ⟨yi, yk⟩ := y
            dsimp only at c0 c1 c2 c3 HC HSD
            go_wp2_with fail
            go_region_held3 (fun w' => w'.cell? ⟨g, j * 2, none⟩ = some (nu xi) ∧ w'.cell? ⟨g, j * 2 + 1, none⟩ = some (nu xk) ∧ w'.cell? ⟨g, a * 2, none⟩ = some (nu yi) ∧ w'.cell? ⟨g, a * 2 + 1, none⟩ = some (nu yk)) (first | assumption | exact HSD.out | exact hs5 | fail) (first | (go_at_call 50; with_reducible refine HC.out.mono ?_; rintro e w5 ⟨rfl, hs5, HB5⟩) | fail)
            have HL5 := Hid.mk' (HST.out w5 HB5.out)
            clear c0 c1 c2 c3 hs5 HB5 HC HSD HST
            go_wp2
            go_roundw
            case rel => exact ⟨j1, rfl, HJ.out.2.1, HJ.out.2.2.1, HJ.out.2.2.2, HL5⟩
            case measure => have := HJ.out; simp [intOf]; omega
          | true =>
            have HST : Hid (∀ w5, Below wr.heap.size wr w5 → LeftW p g c n a b W w5 D (fun E => Prt a b i j E ∧ (j < i ∨ (ahd (atD E i) (atD E a) = false ∧ ahd (atD E j) (atD E a) = true)))) := fun w5 hb5 => ⟨E, e1.below hb5, keep_below e2 hb5, e3, e4, .inr ⟨hgi, hgs⟩⟩
            have hrd : decide (r < 0) = true := HR.out
            clear e1 e2 e3 e4 e5 hx hy hsd HL hs hgs hlE hgi
            obtain ⟨xi, xk⟩ := x
            obtain ⟨yi, yk⟩ := y
            dsimp only at c0 c1 c2 c3 HC HSD
            go_wp2_with fail
            go_region_held3 (fun w' => w'.cell? ⟨g, j * 2, none⟩ = some (nu xi) ∧ w'.cell? ⟨g, j * 2 + 1, none⟩ = some (nu xk) ∧ w'.cell? ⟨g, a * 2, none⟩ = some (nu yi) ∧ w'.cell? ⟨g, a * 2 + 1, none⟩ = some (nu yk)) (first | assumption | exact HSD.out | exact hs5 | fail) (first | (go_at_call 50; with_reducible refine HC.out.mono ?_; rintro e w5 ⟨rfl, hs5, HB5⟩) | fail)
            have HL5 := Hid.mk' (HST.out w5 HB5.out)
            clear c0 c1 c2 c3 hs5 HB5 HC HSD HST
            go_wp2
            go_meet
            case rel => exact ⟨j, rfl, hjb, hi2, hjl, HL5⟩
        · have hijI : ¬ (i : Int) ≤ (j : Int) := by omega
          have hijI2 : (j : Int) < (i : Int) := by omega
          have HST : Hid (∀ k, LeftW p g c n a b W (wr.drewN k) D (fun E => Prt a b i j E ∧ (j < i ∨ (ahd (atD E i) (atD E a) = false ∧ ahd (atD E j) (atD E a) = true)))) := fun k => by
            have hb5 : Below wr.heap.size wr (wr.drewN k) := ⟨rfl, rfl, rfl, Nat.le_refl _, fun _ _ => rfl⟩
            exact ⟨E, e1.below hb5, keep_below e2 hb5, e3, e4, .inl (by omega)⟩
          clear e1 e2 e3 e4 e5 HL
          go_wp2_with fail
          go_quiet (fail)
          go_wp2
          go_meet
          case rel => exact ⟨j, rfl, hjb, hi2, hjl, HST.out _⟩
    case rest =>
      clear HS hjb hi2 hjl
      obtain ⟨j, rfl, hjb, hi2, hjl, HS⟩ := hcut
      by_cases hij : j < i
      · have hgt : (i : Int) > (j : Int) := by omega
        have hgt2 : (j : Int) < (i : Int) := by omega
        have haj : a ≤ j := by omega
        have hjn : (j : Int) < (n : Int) := by omega
        have hj0 : (0 : Int) ≤ (j : Int) := by omega
        obtain ⟨E, e1, e2, e3, e4, _⟩ := HS.out
        clear HS
        have hlE : E.length = n := e1.len
        obtain ⟨x, hx⟩ : ∃ x, atD E j = x := ⟨_, rfl⟩
        obtain ⟨y, hy⟩ : ∃ y, atD E a = y := ⟨_, rfl⟩
        obtain ⟨⟨b0, b1, b2, b3⟩, ⟨f0, f1, f2, f3⟩, ⟨z0, hz0⟩, ⟨z1, hz1⟩, w6, hw6, HW6⟩ := e1.swap (i := j) (j := a) (by omega) (by omega) hx hy
        have HL6 : Hid (LeftW p g c n a b W w6 D (Mid a b j)) := ⟨_, HW6.out.1, keep_keep e2 HW6.out.2, e3.trans (Pm.swp E (by omega) (by omega) (by omega) (by omega) (by omega)), e4.done haj hij (by omega)⟩
        have HE6 := Hid.mk' hw6
        obtain ⟨xi, xk⟩ := x
        obtain ⟨yi, yk⟩ := y
        dsimp only at b0 b1 b2 b3 hz0 hz1 HE6
        clear e1 e2 e3 e4 hx hy hlE HW6 hw6
        go_upto_region 9 with fail
        go_region
        rw [HE6.out]
        clear b0 b1 b2 b3 f0 f1 f2 f3 hz0 hz1 HE6
        go_wp2
        go_ret2
        exact ⟨j, true, rfl, haj, hjb, HL6⟩
      · have hij2 : i ≤ j := by omega
        have hgt : ¬ (i : Int) > (j : Int) := by omega
        have hgt2 : ¬ (j : Int) < (i : Int) := by omega
        have hin : (i : Int) < (n : Int) := by omega
        have hi0 : (0 : Int) ≤ (i : Int) := by omega
        have hjn : (j : Int) < (n : Int) := by omega
        have hj0 : (0 : Int) ≤ (j : Int) := by omega
        obtain ⟨E, e1, e2, e3, e4, e5⟩ := HS.out
        have e5' : ahd (atD E i) (atD E a) = false ∧ ahd (atD E j) (atD E a) = true := by
          rcases e5 with e5 | e5
          · omega
          · exact e5
        have hne : i ≠ j := fun e => by
          rw [e, e5'.2] at e5'
          exact absurd e5'.1 (by simp)
        obtain ⟨j1, hj1⟩ : ∃ j1, j1 + 1 = j := ⟨j - 1, by omega⟩
        have hj1I : (j : Int) - 1 = (j1 : Int) := by omega
        have hlE9 : E.length = n := e1.len
        have hex : Prt a b (i + 1) j1 (swp E i j) := by
          rw [← hj1] at e4 e5' ⊢
          exact e4.exch e1.unl (by omega) (by omega) (by omega) e5'.1 e5'.2
        clear HS e5 e5'
        have hlE : E.length = n := e1.len
        obtain ⟨x, hx⟩ : ∃ x, atD E i = x := ⟨_, rfl⟩
        obtain ⟨y, hy⟩ : ∃ y, atD E j = y := ⟨_, rfl⟩
        obtain ⟨⟨b0, b1, b2, b3⟩, ⟨f0, f1, f2, f3⟩, ⟨z0, hz0⟩, ⟨z1, hz1⟩, w6, hw6, HW6⟩ := e1.swap (i := i) (j := j) (by omega) (by omega) hx hy
        have HL6 : Hid (LeftW p g c n a b W w6 D (Prt a b (i + 1) j1)) := ⟨_, HW6.out.1, keep_keep e2 HW6.out.2, e3.trans (Pm.swp E (by omega) (by omega) (by omega) (by omega) (by omega)), hex⟩
        have HE6 := Hid.mk' hw6
        obtain ⟨xi, xk⟩ := x
        obtain ⟨yi, yk⟩ := y
        dsimp only at b0 b1 b2 b3 hz0 hz1 HE6
        clear e1 e2 e3 e4 hx hy hlE HW6 hw6
        go_upto_region 11 with fail
        go_region
        rw [HE6.out]
        clear b0 b1 b2 b3 f0 f1 f2 f3 hz0 hz1 HE6
        go_wp2_with fail
        go_loopw [12, 13] (fun iv jv wr => ∃ i j : Nat, iv = nun i ∧ jv = nun j ∧ a + 1 ≤ i ∧ i ≤ j + 1 ∧ j < b ∧ Hid (LeftW p g c n a b W wr D (Prt a b i j))) (fun iv jv _ => (intOf jv).toNat + 1 - (intOf iv).toNat)
        case atStart => exact ⟨i + 1, j1, by go_num, rfl, by omega, by omega, by omega, HL6⟩
        case round =>
          clear HL6 hi1 hi2 hjb hj1 hj1I hne hij hij2 hgt hgt2 hin hi0 hjn hj0 hil hjl
          obtain ⟨i, j, rfl, rfl, hi1, hi2, hjb, HS⟩ := hrel
          rename World => w9
          obtain ⟨il, hil, hilE⟩ : ∃ il, il ≤ i ∧ il = i := ⟨i, Nat.le_refl _, rfl⟩
          obtain ⟨jl, hjl, hjlE⟩ : ∃ jl, j ≤ jl ∧ jl = j := ⟨j, Nat.le_refl _, rfl⟩
          have HM : Hid (il = i ∧ jl = j) := ⟨hilE, hjlE⟩
          clear hilE hjlE
          go_upto_block 6 with fail
          go_cut [12] from 105 to 122 (fun iv wr => ∃ i : Nat, iv = nun i ∧ a + 1 ≤ i ∧ i ≤ j + 1 ∧ il ≤ i ∧ Hid (LeftW p g c n a b W wr D (fun E => Prt a b i j E ∧ (j < i ∨ ahd (atD E i) (atD E a) = false))))
          case first =>
            go_wp2_with fail
            go_loopw [12] (fun iv wr => ∃ i : Nat, iv = nun i ∧ a + 1 ≤ i ∧ i ≤ j + 1 ∧ il ≤ i ∧ Hid (LeftW p g c n a b W wr D (Prt a b i j))) (fun iv _ => j + 1 - (intOf iv).toNat)
            case atStart => exact ⟨i, rfl, hi1, hi2, hil, HS⟩
            case round =>
              clear HS hi1 hi2 hil
              obtain ⟨i, rfl, hi1, hi2, hil, HL⟩ := hrel
              obtain ⟨E, e1, e2, e3, e4⟩ := HL.out
              by_cases hij : i ≤ j
              · have hijI : (i : Int) ≤ (j : Int) := by omega
                have hin : (i : Int) < (n : Int) := by omega
                have hi0 : (0 : Int) ≤ (i : Int) := by omega
                have hlE : E.length = n := e1.len
                obtain ⟨x, hx⟩ : ∃ x, atD E i = x := ⟨_, rfl⟩
                obtain ⟨y, hy⟩ : ∃ y, atD E a = y := ⟨_, rfl⟩
                obtain ⟨⟨⟨c0, c1, c2, c3⟩, hsd⟩, r, HR, HC⟩ := e1.cmp (i := i) (j := a) (by omega) (by omega) hx hy
                obtain ⟨s, hs⟩ : ∃ s, ahd x y = s := ⟨_, rfl⟩
                rw [hs] at HR
                have HSD := Hid.mk' hsd
                have hgs : ahd (atD E i) (atD E a) = s := by rw [hx, hy]; exact hs
                cases s with
                | true =>
                  have HST : Hid (∀ w5, Below wr.heap.size wr w5 → LeftW p g c n a b W w5 D (Prt a b (i + 1) j)) := fun w5 hb5 => ⟨E, e1.below hb5, keep_below e2 hb5, e3, e4.up hgs⟩
                  have hrd : decide (r < 0) = true := HR.out
                  clear e1 e2 e3 e4 hx hy hsd HL hs hgs hlE
                  obtain ⟨xi, xk⟩ := x
                  obtain ⟨yi, yk⟩ := y
                  dsimp only at c0 c1 c2 c3 HC HSD
                  go_wp2_with fail
                  go_region_held3 (fun w' => w'.cell? ⟨g, i * 2, none⟩ = some (nu xi) ∧ w'.cell? ⟨g, i * 2 + 1, none⟩ = some (nu xk) ∧ w'.cell? ⟨g, a * 2, none⟩ = some (nu yi) ∧ w'.cell? ⟨g, a * 2 + 1, none⟩ = some (nu yk)) (first | assumption | exact HSD.out | exact hs5 | fail) (first | (go_at_call 50; with_reducible refine HC.out.mono ?_; rintro e w5 ⟨rfl, hs5, HB5⟩) | fail)
                  have HL5 := Hid.mk' (HST.out w5 HB5.out)
                  clear c0 c1 c2 c3 hs5 HB5 HC HSD HST
                  go_wp2
                  go_roundw
                  case rel => exact ⟨i + 1, by go_num, by omega, by omega, by omega, HL5⟩
                  case measure => simp [intOf]; omega
                | false =>
                  have HST : Hid (∀ w5, Below wr.heap.size wr w5 → LeftW p g c n a b W w5 D (fun E => Prt a b i j E ∧ (j < i ∨ ahd (atD E i) (atD E a) = false))) := fun w5 hb5 => ⟨E, e1.below hb5, keep_below e2 hb5, e3, e4, .inr hgs⟩
                  have hrd : decide (r < 0) = false := HR.out
                  clear e1 e2 e3 e4 hx hy hsd HL hs hgs hlE
                  obtain ⟨xi, xk⟩ := x
                  obtain ⟨yi, yk⟩ := y
                  dsimp only at c0 c1 c2 c3 HC HSD
                  go_wp2_with fail
                  go_region_held3 (fun w' => w'.cell? ⟨g, i * 2, none⟩ = some (nu xi) ∧ w'.cell? ⟨g, i * 2 + 1, none⟩ = some (nu xk) ∧ w'.cell? ⟨g, a * 2, none⟩ = some (nu yi) ∧ w'.cell? ⟨g, a * 2 + 1, none⟩ = some (nu yk)) (first | assumption | exact HSD.out | exact hs5 | fail) (first | (go_at_call 50; with_reducible refine HC.out.mono ?_; rintro e w5 ⟨rfl, hs5, HB5⟩) | fail)
                  have HL5 := Hid.mk' (HST.out w5 HB5.out)
                  clear c0 c1 c2 c3 hs5 HB5 HC HSD HST
                  go_wp2
                  go_meet
                  case rel => exact ⟨i, rfl, hi1, hi2, hil, HL5⟩
              · have hijI : ¬ (i : Int) ≤ (j : Int) := by omega
                have hijI2 : (j : Int) < (i : Int) := by omega
                have HST : Hid (∀ k, LeftW p g c n a b W (wr.drewN k) D (fun E => Prt a b i j E ∧ (j < i ∨ ahd (atD E i) (atD E a) = false))) := fun k => by
                  have hb5 : Below wr.heap.size wr (wr.drewN k) := ⟨rfl, rfl, rfl, Nat.le_refl _, fun _ _ => rfl⟩
                  exact ⟨E, e1.below hb5, keep_below e2 hb5, e3, e4, .inl (by omega)⟩
                clear e1 e2 e3 e4 HL
                go_wp2_with fail
                go_quiet (fail)
                go_wp2
                go_meet
                case rel => exact ⟨i, rfl, hi1, hi2, hil, HST.out _⟩
          case rest =>
            clear HS hi1 hi2 hil
            obtain ⟨i, rfl, hi1, hi2, hil, HS⟩ := hcut
            go_upto_block 8 with fail
            go_cut [13] from 123 to 141 (fun jv wr => ∃ j : Nat, jv = nun j ∧ j < b ∧ i ≤ j + 1 ∧ j ≤ jl ∧ Hid (LeftW p g c n a b W wr D (fun E => Prt a b i j E ∧ (j < i ∨ (ahd (atD E i) (atD E a) = false ∧ ahd (atD E j) (atD E a) = true)))))
            case first =>
              go_wp2_with fail
              go_loopw [13] (fun jv wr => ∃ j : Nat, jv = nun j ∧ j < b ∧ i ≤ j + 1 ∧ j ≤ jl ∧ Hid (LeftW p g c n a b W wr D (fun E => Prt a b i j E ∧ (j < i ∨ ahd (atD E i) (atD E a) = false)))) (fun jv _ => (intOf jv).toNat)
              case atStart => exact ⟨j, rfl, hjb, hi2, hjl, HS⟩
              case round =>
                clear HS hjb hi2 hjl
                obtain ⟨j, rfl, hjb, hi2, hjl, HL⟩ := hrel
                obtain ⟨E, e1, e2, e3, e4, e5⟩ := HL.out
                by_cases hij : i ≤ j
                · have hijI : (i : Int) ≤ (j : Int) := by omega
                  have hjn : (j : Int) < (n : Int) := by omega
                  have hj0 : (0 : Int) ≤ (j : Int) := by omega
                  have hlE : E.length = n := e1.len
                  obtain ⟨x, hx⟩ : ∃ x, atD E j = x := ⟨_, rfl⟩
                  obtain ⟨y, hy⟩ : ∃ y, atD E a = y := ⟨_, rfl⟩
                  obtain ⟨⟨⟨c0, c1, c2, c3⟩, hsd⟩, r, HR, HC⟩ := e1.cmp (i := j) (j := a) (by omega) (by omega) hx hy
                  obtain ⟨s, hs⟩ : ∃ s, ahd x y = s := ⟨_, rfl⟩
                  rw [hs] at HR
                  have HSD := Hid.mk' hsd
                  have hgs : ahd (atD E j) (atD E a) = s := by rw [hx, hy]; exact hs
                  have hgi : ahd (atD E i) (atD E a) = false := by
                    rcases e5 with e5 | e5
                    · omega
                    · exact e5
                  cases s with
                  | false =>
                    obtain ⟨j1, hj1⟩ : ∃ j1, j1 + 1 = j := ⟨j - 1, by omega⟩
                    have hj1I : (j : Int) - 1 = (j1 : Int) := by omega
                    have HST : Hid (∀ w5, Below wr.heap.size wr w5 → LeftW p g c n a b W w5 D (fun E => Prt a b i j1 E ∧ (j1 < i ∨ ahd (atD E i) (atD E a) = false))) := fun w5 hb5 => ⟨E, e1.below hb5, keep_below e2 hb5, e3, by rw [← hj1] at e4 hgs; exact e4.down e1.unl (by omega) (by omega) hgs, .inr hgi⟩
                    have hrd : decide (r < 0) = false := HR.out
                    have HJ : Hid (j1 < j ∧ j1 < b ∧ i ≤ j1 + 1 ∧ j1 ≤ jl) := by
                      show _ ∧ _
                      omega
                    clear e1 e2 e3 e4 e5 hx hy hsd HL hs hgs hlE hgi hj1
                    obtain ⟨xi, xk⟩ := x
                    obtain ⟨yi, yk⟩ := y
                    dsimp only at c0 c1 c2 c3 HC HSD
                    go_wp2_with fail
                    go_region_held3 (fun w' => w'.cell? ⟨g, j * 2, none⟩ = some (nu xi) ∧ w'.cell? ⟨g, j * 2 + 1, none⟩ = some (nu xk) ∧ w'.cell? ⟨g, a * 2, none⟩ = some (nu yi) ∧ w'.cell? ⟨g, a * 2 + 1, none⟩ = some (nu yk)) (first | assumption | exact HSD.out | exact hs5 | fail) (first | (go_at_call 50; with_reducible refine HC.out.mono ?_; rintro e w5 ⟨rfl, hs5, HB5⟩) | fail)
                    have HL5 := Hid.mk' (HST.out w5 HB5.out)
                    clear c0 c1 c2 c3 hs5 HB5 HC HSD HST
                    go_wp2
                    go_roundw
                    case rel => exact ⟨j1, rfl, HJ.out.2.1, HJ.out.2.2.1, HJ.out.2.2.2, HL5⟩
                    case measure => have := HJ.out; simp [intOf]; omega
                  | true =>
                    have HST : Hid (∀ w5, Below wr.heap.size wr w5 → LeftW p g c n a b W w5 D (fun E => Prt a b i j E ∧ (j < i ∨ (ahd (atD E i) (atD E a) = false ∧ ahd (atD E j) (atD E a) = true)))) := fun w5 hb5 => ⟨E, e1.below hb5, keep_below e2 hb5, e3, e4, .inr ⟨hgi, hgs⟩⟩
                    have hrd : decide (r < 0) = true := HR.out
                    clear e1 e2 e3 e4 e5 hx hy hsd HL hs hgs hlE hgi
                    obtain ⟨xi, xk⟩ := x
                    obtain ⟨yi, yk⟩ := y
                    dsimp only at c0 c1 c2 c3 HC HSD
                    go_wp2_with fail
                    go_region_held3 (fun w' => w'.cell? ⟨g, j * 2, none⟩ = some (nu xi) ∧ w'.cell? ⟨g, j * 2 + 1, none⟩ = some (nu xk) ∧ w'.cell? ⟨g, a * 2, none⟩ = some (nu yi) ∧ w'.cell? ⟨g, a * 2 + 1, none⟩ = some (nu yk)) (first | assumption | exact HSD.out | exact hs5 | fail) (first | (go_at_call 50; with_reducible refine HC.out.mono ?_; rintro e w5 ⟨rfl, hs5, HB5⟩) | fail)
                    have HL5 := Hid.mk' (HST.out w5 HB5.out)
                    clear c0 c1 c2 c3 hs5 HB5 HC HSD HST
                    go_wp2
                    go_meet
                    case rel => exact ⟨j, rfl, hjb, hi2, hjl, HL5⟩
                · have hijI : ¬ (i : Int) ≤ (j : Int) := by omega
                  have hijI2 : (j : Int) < (i : Int) := by omega
                  have HST : Hid (∀ k, LeftW p g c n a b W (wr.drewN k) D (fun E => Prt a b i j E ∧ (j < i ∨ (ahd (atD E i) (atD E a) = false ∧ ahd (atD E j) (atD E a) = true)))) := fun k => by
                    have hb5 : Below wr.heap.size wr (wr.drewN k) := ⟨rfl, rfl, rfl, Nat.le_refl _, fun _ _ => rfl⟩
                    exact ⟨E, e1.below hb5, keep_below e2 hb5, e3, e4, .inl (by omega)⟩
                  clear e1 e2 e3 e4 e5 HL
                  go_wp2_with fail
                  go_quiet (fail)
                  go_wp2
                  go_meet
                  case rel => exact ⟨j, rfl, hjb, hi2, hjl, HST.out _⟩
            case rest =>
              clear HS hjb hi2 hjl
              obtain ⟨j, rfl, hjb, hi2, hjl, HS⟩ := hcut
              by_cases hij : j < i
              · have hgt : (i : Int) > (j : Int) := by omega
                have hgt2 : (j : Int) < (i : Int) := by omega
                have haj : a ≤ j := by omega
                have hjn : (j : Int) < (n : Int) := by omega
                have hj0 : (0 : Int) ≤ (j : Int) := by omega
                obtain ⟨E, e1, e2, e3, e4, _⟩ := HS.out
                clear HS
                have hlE : E.length = n := e1.len
                obtain ⟨x, hx⟩ : ∃ x, atD E j = x := ⟨_, rfl⟩
                obtain ⟨y, hy⟩ : ∃ y, atD E a = y := ⟨_, rfl⟩
                obtain ⟨⟨b0, b1, b2, b3⟩, ⟨f0, f1, f2, f3⟩, ⟨z0, hz0⟩, ⟨z1, hz1⟩, w6, hw6, HW6⟩ := e1.swap (i := j) (j := a) (by omega) (by omega) hx hy
                have HL6 : Hid (LeftW p g c n a b W w6 D (Mid a b j)) := ⟨_, HW6.out.1, keep_keep e2 HW6.out.2, e3.trans (Pm.swp E (by omega) (by omega) (by omega) (by omega) (by omega)), e4.done haj hij (by omega)⟩
                have HE6 := Hid.mk' hw6
                obtain ⟨xi, xk⟩ := x
                obtain ⟨yi, yk⟩ := y
                dsimp only at b0 b1 b2 b3 hz0 hz1 HE6
                clear e1 e2 e3 e4 hx hy hlE HW6 hw6
                go_upto_region 22 with fail
                go_region
                rw [HE6.out]
                clear b0 b1 b2 b3 f0 f1 f2 f3 hz0 hz1 HE6
                go_wp2
                go_ret2
                exact ⟨j, false, rfl, haj, hjb, HL6⟩
              · have hij2 : i ≤ j := by omega
                have hgt : ¬ (i : Int) > (j : Int) := by omega
                have hgt2 : ¬ (j : Int) < (i : Int) := by omega
                have hin : (i : Int) < (n : Int) := by omega
                have hi0 : (0 : Int) ≤ (i : Int) := by omega
                have hjn : (j : Int) < (n : Int) := by omega
                have hj0 : (0 : Int) ≤ (j : Int) := by omega
                obtain ⟨E, e1, e2, e3, e4, e5⟩ := HS.out
                have e5' : ahd (atD E i) (atD E a) = false ∧ ahd (atD E j) (atD E a) = true := by
                  rcases e5 with e5 | e5
                  · omega
                  · exact e5
                have hne : i ≠ j := fun e => by
                  rw [e, e5'.2] at e5'
                  exact absurd e5'.1 (by simp)
                obtain ⟨j1, hj1⟩ : ∃ j1, j1 + 1 = j := ⟨j - 1, by omega⟩
                have hj1I : (j : Int) - 1 = (j1 : Int) := by omega
                have hlE9 : E.length = n := e1.len
                have hex : Prt a b (i + 1) j1 (swp E i j) := by
                  rw [← hj1] at e4 e5' ⊢
                  exact e4.exch e1.unl (by omega) (by omega) (by omega) e5'.1 e5'.2
                clear HS e5 e5'
                have hlE : E.length = n := e1.len
                obtain ⟨x, hx⟩ : ∃ x, atD E i = x := ⟨_, rfl⟩
                obtain ⟨y, hy⟩ : ∃ y, atD E j = y := ⟨_, rfl⟩
                obtain ⟨⟨b0, b1, b2, b3⟩, ⟨f0, f1, f2, f3⟩, ⟨z0, hz0⟩, ⟨z1, hz1⟩, w6, hw6, HW6⟩ := e1.swap (i := i) (j := j) (by omega) (by omega) hx hy
                have HL6 : Hid (LeftW p g c n a b W w6 D (Prt a b (i + 1) j1)) := ⟨_, HW6.out.1, keep_keep e2 HW6.out.2, e3.trans (Pm.swp E (by omega) (by omega) (by omega) (by omega) (by omega)), hex⟩
                have HE6 := Hid.mk' hw6
                obtain ⟨xi, xk⟩ := x
                obtain ⟨yi, yk⟩ := y
                dsimp only at b0 b1 b2 b3 hz0 hz1 HE6
                clear e1 e2 e3 e4 hx hy hlE HW6 hw6
                go_upto_region 19 with fail
                go_region
                rw [HE6.out]
                clear b0 b1 b2 b3 f0 f1 f2 f3 hz0 hz1 HE6
                go_wp2
                go_roundw
                case rel => exact ⟨i + 1, j1, by go_num, rfl, by omega, by omega, by omega, HL6⟩
                case measure => have := HM.out; simp [intOf]; omega
end Hq
end Go.Proofs.YteclbmmhidmklaaDoor
