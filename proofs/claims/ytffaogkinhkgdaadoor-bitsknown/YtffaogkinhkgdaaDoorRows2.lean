/- The document's rows of numbers; SameInts tells whether two lists of numbers are the same. -/
import Derived.Test.YtffaogkinhkgdaaDoorNums
namespace Go.Proofs.YtffaogkinhkgdaaDoor
open Go.RowKit
namespace Bt
set_option linter.unusedSimpArgs false
set_option linter.unusedVariables false

set_option maxRecDepth 1000000 in
set_option maxHeartbeats 1000000 in
theorem same_any (v1 v2 : Value) (ps qs : List Int) (w : World) (h1 : RdI w v1 ps) (h2 : RdI w v2 qs) :
    Calls Tryd.prog 9 #[v1, v2] w fun e w' => e = .returned (.bool (decide (ps = qs))) ∧ ∃ n, w' = w.drewN n := by
  obtain ⟨a1, cap1, rfl, hc1, hm1, hcell1⟩ := h1
  obtain ⟨a2, cap2, rfl, hc2, hm2, hcell2⟩ := h2
  unfold maxLen at hm1 hm2
  by_cases hlen : ps.length = qs.length
  · have hlb : ((ps.length : Int) != (qs.length : Int)) = false := by rw [bne_eq_false_iff_eq]; omega
    have HLEN : Hid (ps.length = qs.length) := hlen
    clear hlen
    have HC1 : Hid (0 < ps.length → ∃ g o, a1 = some ⟨g, o, none⟩ ∧ g < w.heap.size ∧ ∀ j (hj : j < ps.length), w.cell? ⟨g, o + j, none⟩ = some (nu ps[j])) := hcell1
    have HC2 : Hid (0 < qs.length → ∃ g o, a2 = some ⟨g, o, none⟩ ∧ g < w.heap.size ∧ ∀ j (hj : j < qs.length), w.cell? ⟨g, o + j, none⟩ = some (nu qs[j])) := hcell2
    clear hcell1 hcell2
    go_enter Tryd.func9, Tryd.ntmps9
    go_wp2
    go_loopw [5] (fun i wr => ∃ k n : Nat, k ≤ ps.length ∧ i = .int .i64 k ∧ Hid (wr = w.drewN n) ∧ Hid (∀ j (hj : j < ps.length) (hj2 : j < qs.length), j < k → ps[j] = qs[j])) (fun i _ => ps.length - (intOf i).toNat)
    case atStart => exact ⟨0, 0, Nat.zero_le _, rfl, rfl, fun j _ _ h => by omega⟩
    case round =>
      obtain ⟨k, n, hk, rfl, hwr, hok⟩ := hrel
      by_cases hp : k < ps.length
      · have hp2 : k < qs.length := by have := HLEN.out; omega
        obtain ⟨g1, o1, rfl, _, hx1⟩ := HC1.out (by omega)
        obtain ⟨g2, o2, rfl, _, hx2⟩ := HC2.out (by omega)
        have hcx1 : wr.cell? ⟨g1, o1 + k, none⟩ = some (nu ps[k]) := by rw [hwr.out]; exact hx1 k hp
        have hcx2 : wr.cell? ⟨g2, o2 + k, none⟩ = some (nu qs[k]) := by rw [hwr.out]; exact hx2 k hp2
        clear hx1 hx2 HC1 HC2
        by_cases he : ps[k] = qs[k]
        · rw [← he] at hcx2
          have HE : Hid (ps[k] = qs[k]) := he
          clear he
          generalize hgx : ps[k] = x at hcx1 hcx2
          clear hgx
          go_wp2
          go_quiet (fail)
          go_wp2
          go_roundw
          case rel =>
            refine ⟨k + 1, _, by omega, by go_num, by rw [hwr.out, World.drewN_drewN]; exact rfl, fun j hj hj2 h => ?_⟩
            rcases Nat.lt_or_ge j k with h' | h'
            · exact hok.out j hj hj2 h'
            · have : j = k := by omega
              subst this; exact HE.out
          case measure => simp [intOf]; omega
        · have hne : (ps[k] == qs[k]) = false := by rw [beq_eq_false_iff_ne]; exact he
          have HF : Hid (decide (ps = qs) = false) := by
            show decide (ps = qs) = false
            rw [decide_eq_false_iff_not]
            rintro rfl; exact he rfl
          clear he
          generalize ps[k] = x at *
          generalize qs[k] = y at *
          go_wp2
          go_quiet (fail)
          go_wp2
          go_ret
          exact ⟨ret_bool HF.out.symm, _, by rw [hwr.out, World.drewN_drewN]⟩
      · have HF : Hid (decide (ps = qs) = true) := by
          show decide (ps = qs) = true
          rw [decide_eq_true_eq]
          have hl := HLEN.out
          exact List.ext_getElem hl (fun i h1 h2 => hok.out i h1 h2 (by omega))
        clear HC1 HC2
        go_wp2
        go_ret
        exact ⟨ret_bool HF.out.symm, _, hwr.out⟩
  · have hlb : ((ps.length : Int) != (qs.length : Int)) = true := by rw [bne_iff_ne]; omega
    have HF : Hid (decide (ps = qs) = false) := by
      show decide (ps = qs) = false
      rw [decide_eq_false_iff_not]
      rintro rfl; exact hlen rfl
    clear hcell1 hcell2 hlen
    go_enter Tryd.func9, Tryd.ntmps9
    go_wp2
    go_ret
    exact ⟨ret_bool HF.out.symm, 0, rfl⟩

theorem edgesTo_len (s : Nat) : ∀ n, (edgesTo s n).length ≤ n
  | 0 => Nat.le_refl _
  | n + 1 => by
    have := edgesTo_len s n
    rw [edgesTo]
    split <;> simp <;> omega
set_option maxRecDepth 1000000 in
set_option maxHeartbeats 1000000 in
theorem rruns_any (s : Nat) (w : World) (hs : s < 18446744073709551616) :
    Calls Tryd.prog 10 #[st s] w fun e w' => ∃ v, e = .returned v ∧ OwnI w' w.heap.size v (edgesTo s 65) ∧ Below w.heap.size w w' := by
  obtain ⟨i0, hi, hz0, hz1, hz2⟩ := info_parts Tryd.info3
  go_enter Tryd.func10, Tryd.ntmps10
  go_wp2
  go_loopw [3, 4] (fun v i wr => ∃ k : Nat, k ≤ 65 ∧ i = nu k ∧ OwnI wr w.heap.size v (edgesTo s k) ∧ Below w.heap.size w wr) (fun _ i _ => 65 - (intOf i).toNat)
  case atStart => exact ⟨0, by omega, rfl, World.ownsRow_nil _ _ _ _, Below.refl _ _⟩
  case round =>
    obtain ⟨k, hk, rfl, hown, hbel⟩ := hrel
    by_cases hp : k < 65
    · have c1 := rhas_any s k wr hs
      have c2 := rhas_any s ((k : Int) - 1) wr hs
      have hlen := edgesTo_len s k
      cases hx : (hasB s (k : Int) != hasB s ((k : Int) - 1)) with
      | true =>
        have HN : Hid (edgesTo s (k + 1) = edgesTo s k ++ [(k : Int)]) := by
          show _ = _
          rw [edgesTo, hx]; rfl
        generalize hasB s (k : Int) = x1 at *
        generalize hasB s ((k : Int) - 1) = x2 at *
        cases x1 <;> cases x2 <;> first
          | exact absurd hx (by decide)
          | (clear hx
             go_wp2_with fail
             refine c1.mono ?_
             rintro e w1 ⟨rfl, rfl⟩
             go_wp2_with fail
             refine c2.mono ?_
             rintro e w1 ⟨rfl, rfl⟩
             go_wp2_with (at_builtin; refine wpList_append_own _ rfl _ _ 24 rfl w.heap.size 3 i0 (.int .i64 0) 1 8 Tryd.underlying24 hi hz0 hz1 hz2 rfl (by decide) _ _ _ rfl (hown.alloc _) ⟨w1.heap.size, 0, none⟩ 1 1 [nu k] rfl rfl ?c1 ?c2 ?c3 ?c4 ?c5 ?_)
             case c1 => exact cell_one_new _ _ _
             case c2 => intro u hu; simp at hu; subst hu; rfl
             case c3 => unfold maxLen; omega
             case c4 => omega
             case c5 => have := hbel.size; simp; omega
             intro v' w4 hown4 hgrow _
             have hbel4 : Below w.heap.size w w4 := Below.grown (hbel.alloc (by exact hbel.size) _) hgrow (by have := hbel.size; simp; omega) (fun k hk => (hown.lt k hk).1)
             have hown5 : OwnI w4 w.heap.size v' (edgesTo s (k + 1)) := by
               rw [HN.out]
               unfold OwnI
               simpa using hown4
             clear hown hown4 hgrow hbel
             go_wp2
             go_roundw
             case rel => exact ⟨k + 1, by omega, by go_num, hown5, hbel4⟩
             case measure => simp [intOf]; omega)
      | false =>
        have HN : Hid (edgesTo s (k + 1) = edgesTo s k) := by
          show _ = _
          rw [edgesTo, hx]; simp
        generalize hasB s (k : Int) = x1 at *
        generalize hasB s ((k : Int) - 1) = x2 at *
        cases x1 <;> cases x2 <;> first
          | exact absurd hx (by decide)
          | (clear hx
             go_wp2_with fail
             refine c1.mono ?_
             rintro e w1 ⟨rfl, rfl⟩
             go_wp2_with fail
             refine c2.mono ?_
             rintro e w1 ⟨rfl, rfl⟩
             go_wp2
             go_roundw
             case rel => exact ⟨k + 1, by omega, by go_num, by rw [HN.out]; exact hown, hbel⟩
             case measure => simp [intOf]; omega)
    · obtain rfl : k = 65 := by omega
      go_wp2
      go_ret
      exact ⟨_, rfl, hown, hbel⟩
end Bt
end Go.Proofs.YtffaogkinhkgdaaDoor
