import Derived.Test.YteclbmmhidmklaaDoorSoS
import Derived.Test.YteclbmmhidmklaaDoorShelfQ
import Derived.BigQuiet
/- A row that is sorted: patterns are broken. -/
namespace Go.Proofs.YteclbmmhidmklaaDoor
set_option linter.ambiguousOpen false
open Go.RowKit
namespace Hq
open Hh Ft Go.Lib Go.Sort
set_option linter.unusedSimpArgs false
set_option linter.unusedVariables false
attribute [local go_sem] Oper.semAt_some

set_option maxRecDepth 100000 in
set_option maxHeartbeats 8000000 in
theorem break_p {p g c n : Nat} {W : World} {D : List It} (h : Sw p g c n W D) (a b : Nat) (hb : b ≤ n) (hab : a + 12 < b) :
    Calls Tryd.prog 69 #[slc g n c, nun a, nun b, cmpV p] W fun e W' => e = .returned (.tuple #[]) ∧ LeftW p g c n a b W W' D (fun _ => True) := by
  have hn := h.big
  have hcap := (h.cap (by omega)).2
  obtain ⟨l, hl⟩ : ∃ l, b - a = l := ⟨_, rfl⟩
  have hlI : (b : Int) - (a : Int) = (l : Int) := by omega
  have hl8 : (l : Int) ≥ 8 := by omega
  have hl8' : (8 : Int) ≤ (l : Int) := by omega
  have hlb : l ≤ 65536 := by omega
  have hab' : a ≤ 65536 := by omega
  obtain ⟨t, ht⟩ : ∃ t, l / 4 = t := ⟨_, rfl⟩
  have htb : t ≤ 65536 := by omega
  have htI : Int.tdiv (l : Int) 4 = (t : Int) := by
    rw [Int.tdiv_eq_ediv_of_nonneg (by omega)]
    omega
  obtain ⟨s, hs⟩ : ∃ s, a + t * 2 = s := ⟨_, rfl⟩
  have hsI : (a : Int) + (t : Int) * 2 = (s : Int) := by omega
  have hs1 : 1 ≤ s := by omega
  have hsb : s + 1 < b := by omega
  have hsa : a < s := by omega
  have hlw : IntKind.u64.wrap (l : Int) = (l : Int) := by simp [IntKind.wrap, IntKind.bits, IntKind.signed]; omega
  obtain ⟨M, hM⟩ : ∃ M : Nat, M = 1 <<< bitsLen l := ⟨_, rfl⟩
  have hM1 : 1 ≤ M := by rw [hM, Nat.one_shiftLeft]; exact Nat.two_pow_pos _
  have hM2 : M ≤ 2 * l := by rw [hM, Nat.one_shiftLeft]; exact two_pow_bitsLen_le (by omega)
  have cP : Hid (∀ w, Calls Tryd.prog 79 #[nun l] w fun e w' => e = .returned (.int .u64 (M : Int)) ∧ w' = w) := by
    rw [hM]
    exact fun w => AnyF.nextPowerOfTwo Tryd.layPow l (by omega) w
  have cN : Hid (∀ (q X : Nat) (hX : X < 18446744073709551616) (w : World) (hc : w.cell? ⟨q, 0, none⟩ = some (.int .u64 X)) (hf : w.frozen? ⟨q, 0, none⟩ = false), Calls Tryd.prog 80 #[ptr q] w fun e w' => e = .returned (.int .u64 (xorNextN X : Nat)) ∧ w' = (w.setCell ⟨q, 0, none⟩ (.int .u64 (xorNextN X : Nat))).drewN 3) := fun q X hX w hc hf => AnyF.xorshift_Next Tryd.layNext q 0 X hX w hc hf
  have hgl := cell_lt h.ord
  have hgg : g < W.heap.size := by
    obtain ⟨g', c', e, _, _, hh⟩ := own_slc h.row (by omega)
    simp only [Value.slice.injEq, Option.some.injEq, Addr.mk.injEq, and_true, true_and] at e
    omega
  obtain ⟨W0, hW0⟩ : ∃ W0, W.alloc (.cells #[.int .u64 (l : Int)] 141) = W0 := ⟨_, rfl⟩
  have hB0 : Below W.heap.size W W0 := by rw [← hW0]; exact (Below.refl _ _).alloc (Nat.le_refl _) _
  obtain ⟨q, hq⟩ : ∃ q, W.heap.size = q := ⟨_, rfl⟩
  have q0 : W0.cell? ⟨q, 0, none⟩ = some (.int .u64 (l : Int)) := by rw [← hW0, ← hq]; simp
  have f0 : W0.frozen? ⟨q, 0, none⟩ = false := by rw [← hW0, ← hq]; simp
  have HQ : Hid (q ≠ g ∧ q ≠ p ∧ W.heap.size ≤ q) := ⟨by omega, by have : p < W.heap.size := hgl; omega, by omega⟩
  have HS : Hid (∃ X : Nat, X < 18446744073709551616 ∧ W0.cell? ⟨q, 0, none⟩ = some (.int .u64 (X : Int)) ∧ W0.frozen? ⟨q, 0, none⟩ = false ∧ LeftW p g c n a b W W0 D (fun _ => True)) := ⟨l, by omega, q0, f0, D, h.below hB0, Keep.of_below hB0, Pm.refl _ _ _, trivial⟩
  have HT : Hid (a < s ∧ s + 1 < b ∧ b - a = l ∧ M ≤ 2 * l) := ⟨hsa, hsb, hl, hM2⟩
  clear h hl ht hs hM hgl hgg q0 f0 hB0
  go_enter Tryd.func69, Tryd.ntmps69
  go_wp2_with fail
  refine (cP.out _).mono ?_
  rintro e w1 ⟨rfl, rfl⟩
  clear cP
  go_wp2_with fail
  go_loopw [11, 12] (fun iv ov wr => ∃ i : Nat, iv = nun i ∧ s - 1 ≤ i ∧ i ≤ s + 2 ∧ Hid (∃ X : Nat, X < 18446744073709551616 ∧ wr.cell? ⟨q, 0, none⟩ = some (.int .u64 (X : Int)) ∧ wr.frozen? ⟨q, 0, none⟩ = false ∧ LeftW p g c n a b W wr D (fun _ => True))) (fun iv _ _ => s + 2 - (intOf iv).toNat)
  case atStart => exact ⟨s - 1, by go_num, Nat.le_refl _, by omega, HS⟩
  case round =>
    clear HS
    obtain ⟨i, rfl, hi1, hi2, HL⟩ := hrel
    by_cases hi : i ≤ s + 1
    · have hiI : (i : Int) ≤ (s : Int) + 1 := by omega
      have hi0 : (0 : Int) ≤ (i : Int) := by omega
      have hin : (i : Int) < (n : Int) := by omega
      have hia : a ≤ i := by omega
      obtain ⟨X, hX, x0, xf, E, e1, e2, e3, _⟩ := HL.out
      have c1 := Hid.mk' (cN.out q X hX wr x0 xf)
      obtain ⟨Y, hY⟩ : ∃ Y, xorNextN X = Y := ⟨_, rfl⟩
      have hYb : Y < 18446744073709551616 := by rw [← hY]; exact xorNextN_lt X hX
      rw [hY] at c1
      obtain ⟨O, hO⟩ : ∃ O : Nat, O = Y &&& (M - 1) := ⟨_, rfl⟩
      have hO1 : O ≤ M - 1 := by rw [hO]; exact Nat.and_le_right
      have hml := HT.out.2.2.2
      have eAnd : bits .and .u64 (Y : Int) ((M : Int) - 1) = (O : Int) := by
        rw [show ((M : Int) - 1) = ((M - 1 : Nat) : Int) by omega, bits_and_u64_nat _ _ hYb (by omega), hO]
      obtain ⟨w2, hw2⟩ : ∃ w2, (wr.setCell ⟨q, 0, none⟩ (.int .u64 (Y : Int))).drewN 3 = w2 := ⟨_, rfl⟩
      have y0 : w2.cell? ⟨q, 0, none⟩ = some (.int .u64 (Y : Int)) := by
        rw [← hw2, World.cell?_drewN]
        exact World.cell?_setCell_same _ _ _ x0
      have yf : w2.frozen? ⟨q, 0, none⟩ = false := by
        rw [← hw2, World.frozen?_drewN, World.frozen?_setCell]
        exact xf
      have hk2 : Keep (fun k => k = q) wr w2 := by
        rw [← hw2]
        have := (Keep.refl (fun k => k = q) wr).setCell (p := ⟨q, 0, none⟩) (.inl rfl) (.int .u64 (Y : Int))
        exact ⟨this.os, this.tape, this.output, this.size, this.block⟩
      have s2 : Sw p g c n w2 E := ⟨e1.len, hk2.own e1.row (fun k e e9 => HQ.out.1 (by simp [Value.ownBlock] at e; omega)), (hk2.cell (p := ⟨p, 0, none⟩) (cell_lt e1.ord) (fun e => HQ.out.2.1 e.symm)).trans e1.ord, e1.ne, e1.unl, e1.big⟩
      have k2 : Keep (fun k => k = g) W w2 := e2.trans hk2 (fun k hk e => by have := HQ.out.2.2; omega)
      rw [hw2] at c1
      have hMI : (1 : Int) ≤ (M : Int) := by omega
      have hMb : M ≤ 131072 := by omega
      have hOb : O ≤ 131072 := by omega
      have hlE : E.length = n := s2.len
      obtain ⟨o, ho, hol⟩ : ∃ o : Nat, (if l ≤ O then O - l else O) = o ∧ o < l := by
        refine ⟨_, rfl, ?_⟩
        split <;> omega
      obtain ⟨u, hu⟩ : ∃ u, a + o = u := ⟨_, rfl⟩
      have hub : u < b := by have := HT.out; omega
      have hun : (u : Int) < (n : Int) := by omega
      have hu0 : (0 : Int) ≤ (u : Int) := by omega
      have hwu : IntKind.i64.wrap ((a : Int) + (o : Int)) = (u : Int) := by rw [wrap_i64] <;> omega
      obtain ⟨x, hx⟩ : ∃ x, atD E i = x := ⟨_, rfl⟩
      obtain ⟨y, hy⟩ : ∃ y, atD E u = y := ⟨_, rfl⟩
      obtain ⟨⟨b0, b1, b2, b3⟩, ⟨f0, f1, f2, f3⟩, ⟨z0, hz0⟩, ⟨z1, hz1⟩, w6, hw6, HW6⟩ := s2.swap (i := i) (j := u) (by omega) (by omega) hx hy
      have HL6 : Hid (∃ X : Nat, X < 18446744073709551616 ∧ w6.cell? ⟨q, 0, none⟩ = some (.int .u64 (X : Int)) ∧ w6.frozen? ⟨q, 0, none⟩ = false ∧ LeftW p g c n a b W w6 D (fun _ => True)) := by
        have hk6 := HW6.out.2
        refine ⟨Y, hYb, (hk6.cell (p := ⟨q, 0, none⟩) (cell_lt y0) HQ.out.1).trans y0, ?_, _, HW6.out.1, keep_keep k2 hk6, e3.trans (Pm.swp E hia (by omega) (by omega) hub (by omega)), trivial⟩
        exact (World.frozen?_of_block (hk6.block q (cell_lt y0) HQ.out.1)).trans yf
      have HE6 := Hid.mk' hw6
      obtain ⟨xi, xk⟩ := x
      obtain ⟨yi, yk⟩ := y
      dsimp only at b0 b1 b2 b3 hz0 hz1 HE6
      have HOO := Hid.mk' hO1
      clear HL e1 e2 e3 hx hy hlE HW6 hw6 x0 xf y0 yf s2 k2 hk2 hY hO hu hw2 hO1
      by_cases hlo : l ≤ O
      · have hloI : (O : Int) ≥ (l : Int) := by omega
        have hloI2 : (l : Int) ≤ (O : Int) := by omega
        have hoI : (O : Int) - (l : Int) = (o : Int) := by rw [if_pos hlo] at ho; omega
        clear ho
        go_wp2_with fail
        refine c1.out.mono ?_
        rintro e w5 ⟨rfl, rfl⟩
        clear c1
        go_upto_region 10 with fail
        go_region
        rw [HE6.out]
        clear b0 b1 b2 b3 f0 f1 f2 f3 hz0 hz1 HE6 hwu
        go_wp2
        go_roundw
        case rel => exact ⟨i + 1, by go_num, by omega, by omega, HL6⟩
        case measure => simp [intOf]; omega
      · have hloI : ¬ (O : Int) ≥ (l : Int) := by omega
        have hloI2 : ¬ (l : Int) ≤ (O : Int) := by omega
        have hoO : O = o := by rw [if_neg hlo] at ho; exact ho
        subst hoO
        clear ho
        go_wp2_with fail
        refine c1.out.mono ?_
        rintro e w5 ⟨rfl, rfl⟩
        clear c1
        go_upto_region 10 with fail
        go_region
        rw [HE6.out]
        clear b0 b1 b2 b3 f0 f1 f2 f3 hz0 hz1 HE6 hwu
        go_wp2
        go_roundw
        case rel => exact ⟨i + 1, by go_num, by omega, by omega, HL6⟩
        case measure => simp [intOf]; omega
    · have hiI : ¬ (i : Int) ≤ (s : Int) + 1 := by omega
      have HE : Hid (LeftW p g c n a b W wr D (fun _ => True)) := by
        obtain ⟨X, _, _, _, hE⟩ := HL.out
        exact hE
      clear HL
      go_wp2
      go_end0
      exact ⟨rfl, HE.out⟩
end Hq
end Go.Proofs.YteclbmmhidmklaaDoor
