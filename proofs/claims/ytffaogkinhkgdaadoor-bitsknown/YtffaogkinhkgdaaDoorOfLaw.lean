/- The document's answer for Of and Put, and the walk of BitsOf. -/
import Derived.Test.YtffaogkinhkgdaaDoorLentI
import Derived.Test.YtffaogkinhkgdaaDoorPlace
namespace Go.Proofs.YtffaogkinhkgdaaDoor
set_option linter.ambiguousOpen false
open Go.RowKit Er
namespace Bt
set_option linter.unusedSimpArgs false
set_option linter.unusedVariables false

theorem ofG_lt : ∀ (l : List Int) (s k : Nat), s < 18446744073709551616 → (ofG s k l).1 < 18446744073709551616
  | [], s, k, h => h
  | i :: l, s, k, h => by
    simp only [ofG]
    split
    · rename_i hi
      split
      · show 0 < _; decide
      · exact ofG_lt l _ _ (or_lt s i.toNat h (by omega))
    · show 0 < _; decide
theorem ofG_no : ∀ (l : List Int) (s k : Nat), ((ofG s k l).2.1 = 0 ∧ (ofG s k l).2.2 = 0) ∨ (ofG s k l).2.1 = 1 ∨ (ofG s k l).2.1 = 9
  | [], s, k => .inl ⟨rfl, rfl⟩
  | i :: l, s, k => by
    simp only [ofG]
    split
    · split
      · exact .inr (.inr rfl)
      · exact ofG_no l _ _
    · exact .inr (.inl rfl)

set_option maxRecDepth 100000 in
set_option maxHeartbeats 2000000 in
theorem rofL_any (v : Value) (xs : List Int) (w : World) (h : RdI w v xs) :
    Calls Tryd.prog 37 #[v] w fun e w' => e = .returned (.tuple #[st (ofG 0 0 xs).1, nu (ofG 0 0 xs).2.1, nu (ofG 0 0 xs).2.2]) ∧ w' = w := by
  obtain ⟨a, cap, rfl, hc, hm, hcell⟩ := h
  unfold maxLen at hm
  have HC : Hid (0 < xs.length → ∃ g o, a = some ⟨g, o, none⟩ ∧ g < w.heap.size ∧ ∀ j (hj : j < xs.length), w.cell? ⟨g, o + j, none⟩ = some (nu xs[j])) := hcell
  clear hcell
  go_enter Tryd.func37, Tryd.ntmps37
  go_wp2
  go_loopw [5, 6] (fun sv i wr => ∃ s k : Nat, k ≤ xs.length ∧ i = nu k ∧ sv = st s ∧ s < 18446744073709551616 ∧ wr = w ∧ Hid (ofG s k (xs.drop k) = ofG 0 0 xs)) (fun _ i _ => xs.length - (intOf i).toNat)
  case atStart => exact ⟨0, 0, Nat.zero_le _, rfl, rfl, by decide, rfl, rfl⟩
  case round =>
    obtain ⟨s, k, hk, rfl, rfl, hs, hww, hG⟩ := hrel
    subst wr
    by_cases hp : k < xs.length
    · obtain ⟨g, o, rfl, hgl, hcj⟩ := HC.out (Nat.lt_of_le_of_lt (Nat.zero_le _) hp)
      have hck := hcj k hp
      have hdr : xs.drop k = xs[k] :: xs.drop (k + 1) := List.drop_eq_getElem_cons hp
      rw [hdr] at hG
      clear hcj hdr
      generalize xs[k] = x at *
      by_cases h0 : 0 ≤ x
      · by_cases h1 : x < 64
        · obtain ⟨j, rfl⟩ := Int.eq_ofNat_of_zero_le h0
          have hj : j < 64 := by omega
          have ch := rhas_any s (j : Int) w hs
          rw [has_nat s j hj] at ch
          cases hb : s.testBit j with
          | true =>
            rw [hb] at ch
            have HG2 : Hid (ofG 0 0 xs = (0, 9, k)) := by
              show _ = _
              rw [← hG.out, ofG, if_pos (by omega), Int.toNat_natCast, hb]; simp
            clear hG hb
            go_wp2_with fail
            refine ch.mono ?_
            rintro e w1 ⟨rfl, hq⟩
            subst w1
            go_wp2
            go_ret3
            rw [HG2.out]
            exact ⟨rfl, rfl⟩
          | false =>
            rw [hb] at ch
            have HG2 : Hid (ofG (s ||| pw j) (k + 1) (xs.drop (k + 1)) = ofG 0 0 xs) := by
              show _ = _
              rw [← hG.out, ofG, if_pos (by omega), Int.toNat_natCast, hb]; simp
            have kp := pow_wrap j hj
            have ko := u64_or_nat s (pw j) hs (pow_lt j hj)
            clear hG hb
            go_wp2_with fail
            refine ch.mono ?_
            rintro e w1 ⟨rfl, hq⟩
            subst w1
            go_wp2_with (first | (simp only [kp]) | (simp only [ko]) | fail)
            go_roundw
            case rel => exact ⟨s ||| pw j, k + 1, by omega, by go_num, rfl, or_lt s j hs hj, trivial, HG2⟩
            case measure => simp [intOf]; omega
        · have HG2 : Hid (ofG 0 0 xs = (0, 1, k)) := by
            show _ = _
            rw [← hG.out, ofG, if_neg (by omega)]
          clear hG
          go_wp2
          go_ret3
          rw [HG2.out]
          exact ⟨rfl, rfl⟩
      · have HG2 : Hid (ofG 0 0 xs = (0, 1, k)) := by
          show _ = _
          rw [← hG.out, ofG, if_neg (by omega)]
        clear hG
        go_wp2
        go_ret3
        rw [HG2.out]
        exact ⟨rfl, rfl⟩
    · obtain rfl : k = xs.length := by omega
      rw [List.drop_length] at hG
      have HG2 : Hid (ofG 0 0 xs = (s, 0, 0)) := by
        show _ = _
        rw [← hG.out]; rfl
      go_wp2
      go_ret3
      rw [HG2.out]
      exact ⟨rfl, rfl⟩

theorem rputL_any (s : Nat) (i : Int) (on : Bool) (w : World) (hs : s < 18446744073709551616) :
    Calls Tryd.prog 39 #[st s, nu i, .bool on] w fun e w' => e = .returned (if 0 ≤ i ∧ i < 64 then .tuple #[st (if on then s ||| pw i.toNat else less s (pw i.toNat)), nu 0] else .tuple #[st 0, nu 1]) ∧ w' = w := by
  by_cases h0 : 0 ≤ i
  · by_cases h1 : i < 64
    · obtain ⟨j, rfl⟩ := Int.eq_ofNat_of_zero_le h0
      have hj : j < 64 := by omega
      rw [if_pos ⟨h0, h1⟩, Int.toNat_natCast]
      have kp := pow_wrap j hj
      have ko := u64_or_nat s (pw j) hs (pow_lt j hj)
      have ka := u64_andNot_nat s (pw j) hs (pow_lt j hj)
      cases on with
      | true =>
        go_enter Tryd.func39, Tryd.ntmps39
        go_wp2_with (first | (simp only [kp]) | (simp only [ko]) | fail)
        go_ret2
        exact ⟨rfl, rfl⟩
      | false =>
        go_enter Tryd.func39, Tryd.ntmps39
        go_wp2_with (first | (simp only [kp]) | (simp only [ka]) | fail)
        go_ret2
        exact ⟨rfl, rfl⟩
    · rw [if_neg (by omega)]
      go_enter Tryd.func39, Tryd.ntmps39
      go_wp2
      go_ret2
      exact ⟨rfl, rfl⟩
  · rw [if_neg (by omega)]
    go_enter Tryd.func39, Tryd.ntmps39
    go_wp2
    go_ret2
    exact ⟨rfl, rfl⟩

set_option maxRecDepth 1000000 in
set_option maxHeartbeats 2000000 in
theorem bitsOf_walk (v : Value) (l : List Int) (i : Int) (on : Bool) (w : World) (hR : RdI w v l) (hsz : l.length * 8 ≤ 140737488351232) (hi : -9223372036854775808 ≤ i ∧ i ≤ 9223372036854775807) (hE : Handle w) :
    Calls Tryd.prog 24 #[v, nu i, .bool on] w fun e w' => e = .returned (.bool true) ∧ Below w.heap.size w w' := by
  have HR : Hid (∀ w', Below w.heap.size w w' → RdI w' v l) := fun w' h => hR.below h
  have cl := lentI_any v l w hR hsz
  have hx := ofG_lt l 0 0 (by decide)
  have hno := ofG_no l 0 0
  have CE : Hid (∀ w', Handle w' → Calls Tryd.prog 22 #[errV (ofG 0 0 l).2.1 (ofG 0 0 l).2.2, nu (ofG 0 0 l).2.1, nu (ofG 0 0 l).2.2] w' fun e w'' => e = .returned (.bool true) ∧ Below w'.heap.size w' w'') := fun w' hw => by
    generalize ofG 0 0 l = p at *
    obtain ⟨x, no, k⟩ := p
    dsimp only at *
    by_cases hz : no = 0
    · subst hz
      exact (at_nil k w').mono (by rintro e w'' ⟨rfl, rfl⟩; exact ⟨rfl, Below.refl _ _⟩)
    · have e1 : errV no k = atV no k := by simp [errV, hz, atV]
      rw [e1]
      exact at_at no k (by omega) (by rcases hno with h | h | h <;> omega) w' hw
  go_enter Tryd.func24, Tryd.ntmps24
  go_wp2_with fail
  refine cl.mono ?_
  rintro e w1 ⟨g, cp, rfl, hcp, hcm, hown, hb1⟩
  obtain ⟨_, _, hgv, _, _, hgw, hgl⟩ := own_posI hown (by omega)
  simp only [Value.slice.injEq, Option.some.injEq, Addr.mk.injEq, and_true, true_and] at hgv
  obtain ⟨rfl, rfl⟩ := hgv
  have cof := of_any _ l w1 (rdI_lent hown hcp hcm hgl)
  have crf := rofL_any v l w1 (HR.out w1 hb1)
  have ck := keptI_any v l g cp w.heap.size w1 (HR.out w1 hb1) hsz hcp hcm hown hgl
  obtain ⟨_, _, rfl, _⟩ := hR
  clear hown
  generalize hO : ofG 0 0 l = p at *
  obtain ⟨x, no, k⟩ := p
  dsimp only at *
  generalize errV no k = ev at *
  have hxx : ((x : Int) != (x : Int)) = false := by simp
  go_wp2_with fail
  refine cof.mono ?_
  rintro e w2 ⟨rfl, hq⟩
  subst w2
  go_wp2_with fail
  refine crf.mono ?_
  rintro e w2 ⟨rfl, hq⟩
  subst w2
  go_wp2_with fail
  refine ck.mono ?_
  rintro e w2 ⟨rfl, hb2⟩
  have hB2 := hb1.trans (hb2.mono hb1.size)
  go_wp2_with fail
  refine (CE.out w2 (hE.below hB2)).mono ?_
  rintro e w3 ⟨rfl, hb3⟩
  have hB3 := hB2.trans (hb3.mono hB2.size)
  have cp1 := put_any x i on w3 hx
  have cp2 := rputL_any x i on w3 hx
  have ch1 : Hid (∀ w', Calls Tryd.prog 18 #[st x, nu i] w' fun e w'' => e = .returned (.bool (hasB x i)) ∧ w'' = w') := fun w' => has_any x i w' hx
  have ch2 : Hid (∀ w', Calls Tryd.prog 14 #[st x, nu i] w' fun e w'' => e = .returned (.bool (hasB x i)) ∧ w'' = w') := fun w' => rhas_any x i w' hx
  by_cases hin : 0 ≤ i ∧ i < 64
  · rw [if_pos hin] at cp1 cp2
    generalize (if on = true then x ||| pw i.toNat else less x (pw i.toNat)) = y at *
    generalize hasB x i = hb at *
    clear hin
    go_wp2_with fail
    refine cp1.mono ?_
    rintro e w4 ⟨rfl, hq⟩
    subst w4
    go_wp2_with fail
    refine cp2.mono ?_
    rintro e w4 ⟨rfl, hq⟩
    subst w4
    go_wp2_with fail
    refine (plain_nil 0 w3).mono ?_
    rintro e w4 ⟨rfl, hb4⟩
    go_wp2_with fail
    refine (ch1.out _).mono ?_
    rintro e w5 ⟨rfl, hq⟩
    subst w5
    go_wp2_with fail
    refine (ch2.out _).mono ?_
    rintro e w5 ⟨rfl, hq⟩
    subst w5
    go_wp2
    go_ret
    exact ⟨by simp, hB3.trans (hb4.mono hB3.size)⟩
  · rw [if_neg hin] at cp1 cp2
    generalize hasB x i = hb at *
    clear hin
    have cpl : Calls Tryd.prog 23 #[noV 1, nu 1] w3 fun e w' => e = .returned (.bool true) ∧ Below w3.heap.size w3 w' := plain_no 1 1 (by decide) (by decide) w3 (hE.below hB3)
    unfold noV at cpl
    go_wp2_with fail
    refine cp1.mono ?_
    rintro e w4 ⟨rfl, hq⟩
    subst w4
    go_wp2_with fail
    refine cp2.mono ?_
    rintro e w4 ⟨rfl, hq⟩
    subst w4
    go_wp2_with fail
    refine cpl.mono ?_
    rintro e w4 ⟨rfl, hb4⟩
    go_wp2_with fail
    refine (ch1.out _).mono ?_
    rintro e w5 ⟨rfl, hq⟩
    subst w5
    go_wp2_with fail
    refine (ch2.out _).mono ?_
    rintro e w5 ⟨rfl, hq⟩
    subst w5
    go_wp2
    go_ret
    exact ⟨by simp, hB3.trans (hb4.mono hB3.size)⟩
end Bt
end Go.Proofs.YtffaogkinhkgdaaDoor
