/- The calls Put and Of of package bits, and the first question of the outright statements. -/
import Derived.Test.YtffaogkinhkgdaaDoorBase
namespace Go.Proofs.YtffaogkinhkgdaaDoor
open Go.RowKit
namespace Bt
set_option linter.unusedSimpArgs false
set_option linter.unusedVariables false

/-- The value v reads, in w, as the list of numbers xs. -/
def RdI (w : World) (v : Value) (xs : List Int) : Prop :=
  ∃ a cap, v = .slice a xs.length cap ∧ xs.length ≤ cap ∧ cap ≤ maxLen ∧ (0 < xs.length → ∃ g o, a = some ⟨g, o, none⟩ ∧ g < w.heap.size ∧ ∀ j (hj : j < xs.length), w.cell? ⟨g, o + j, none⟩ = some (nu xs[j]))

theorem RdI.below {w w' : World} {v : Value} {xs : List Int} (h : RdI w v xs) (hb : Below w.heap.size w w') : RdI w' v xs := by
  obtain ⟨a, cap, h1, h2, h3, h4⟩ := h
  refine ⟨a, cap, h1, h2, h3, fun h0 => ?_⟩
  obtain ⟨g, o, e1, e2, e3⟩ := h4 h0
  exact ⟨g, o, e1, Nat.lt_of_lt_of_le e2 hb.size, fun j hj => (hb.cell (p := ⟨g, o + j, none⟩) e2).trans (e3 j hj)⟩

/-- A set of numbers, or the first that is wrong: the set, the error's number, the place. -/
def ofG : Nat → Nat → List Int → Nat × Nat × Nat
  | s, _, [] => (s, 0, 0)
  | s, k, i :: l => if 0 ≤ i ∧ i < 64 then (if s.testBit i.toNat then (0, 9, k) else ofG (s ||| pw i.toNat) (k + 1) l) else (0, 1, k)

/-- The error of Of, as the program holds it. -/
def errV (no k : Nat) : Value := if no = 0 then .nilIface else .iface 55 (.agg #[nu no, nu k])

theorem or_lt (s i : Nat) (hs : s < 18446744073709551616) (hi : i < 64) : s ||| pw i < 18446744073709551616 :=
  Nat.or_lt_two_pow (n := 64) hs (pow_lt i hi)

theorem of_any (v : Value) (xs : List Int) (w : World) (h : RdI w v xs) :
    Calls Tryd.prog 19 #[v] w fun e w' => e = .returned (.tuple #[st (ofG 0 0 xs).1, errV (ofG 0 0 xs).2.1 (ofG 0 0 xs).2.2]) ∧ w' = w := by
  obtain ⟨a, cap, rfl, hc, hm, hcell⟩ := h
  unfold maxLen at hm
  have HC : Hid (0 < xs.length → ∃ g o, a = some ⟨g, o, none⟩ ∧ g < w.heap.size ∧ ∀ j (hj : j < xs.length), w.cell? ⟨g, o + j, none⟩ = some (nu xs[j])) := hcell
  clear hcell
  go_enter Tryd.func19, Tryd.ntmps19
  go_wp2
  go_loopw [4, 9] (fun sv i wr => ∃ s k : Nat, k ≤ xs.length ∧ i = nu k ∧ sv = st s ∧ s < 18446744073709551616 ∧ Hid (wr = w) ∧ Hid (ofG s k (xs.drop k) = ofG 0 0 xs)) (fun _ i _ => xs.length - (intOf i).toNat)
  case atStart => exact ⟨0, 0, Nat.zero_le _, rfl, rfl, by decide, rfl, rfl⟩
  case round =>
    obtain ⟨s, k, hk, rfl, rfl, hs, hwr, hok⟩ := hrel
    by_cases hp : k < xs.length
    · obtain ⟨g, o, rfl, _, hx⟩ := HC.out (by omega)
      have hcx : wr.cell? ⟨g, o + k, none⟩ = some (nu xs[k]) := by rw [hwr.out]; exact hx k hp
      have hd : Hid (xs.drop k = xs[k] :: xs.drop (k + 1)) := List.drop_eq_getElem_cons hp
      clear HC hx
      generalize xs[k] = x at *
      have c := fits_any x wr
      by_cases hf : 0 ≤ x ∧ x < 64
      · obtain ⟨i, rfl⟩ := Int.eq_ofNat_of_zero_le hf.1
        have hi : i < 64 := by omega
        have e0 : (decide (0 ≤ (i : Int)) && decide ((i : Int) < 64)) = true := by simp; omega
        rw [e0] at c
        have c2 := has_any s i wr hs
        have hh : hasB s (i : Int) = s.testBit i := by simp [hasB]; omega
        rw [hh] at c2
        by_cases ht : s.testBit i = true
        · rw [ht] at c2
          have HR : Hid (ofG 0 0 xs = (0, 9, k)) := by
            show ofG 0 0 xs = (0, 9, k)
            rw [← hok.out, hd.out]; simp [ofG, ht]; omega
          clear hd hok hf
          go_wp2_with fail
          refine c.mono ?_
          rintro e w1 ⟨rfl, rfl⟩
          go_wp2_with fail
          refine c2.mono ?_
          rintro e w1 ⟨rfl, rfl⟩
          go_wp2
          go_ret2
          exact ⟨by rw [HR.out]; simp [errV], hwr.out⟩
        · have ht' : s.testBit i = false := by simpa using ht
          rw [ht'] at c2
          have HR : Hid (ofG (s ||| pw i) (k + 1) (xs.drop (k + 1)) = ofG 0 0 xs) := by
            show ofG (s ||| pw i) (k + 1) (xs.drop (k + 1)) = ofG 0 0 xs
            rw [← hok.out, hd.out]
            simp [ofG, ht']; intro h; omega
          have c3 := single_any i wr hi
          have c4 := join_any s (pw i) wr hs (pow_lt i hi)
          have hs2 := or_lt s i hs hi
          clear hd hok hf ht
          go_wp2_with fail
          refine c.mono ?_
          rintro e w1 ⟨rfl, rfl⟩
          go_wp2_with fail
          refine c2.mono ?_
          rintro e w1 ⟨rfl, rfl⟩
          go_wp2_with fail
          refine c3.mono ?_
          rintro e w1 ⟨rfl, rfl⟩
          go_wp2_with fail
          refine c4.mono ?_
          rintro e w1 ⟨rfl, rfl⟩
          go_wp2
          go_roundw
          case rel => exact ⟨s ||| pw i, k + 1, by omega, by go_num, rfl, hs2, hwr, HR⟩
          case measure => simp [intOf]; omega
      · have e0 : (decide (0 ≤ x) && decide (x < 64)) = false := by simp; omega
        rw [e0] at c
        have HR : Hid (ofG 0 0 xs = (0, 1, k)) := by
          show ofG 0 0 xs = (0, 1, k)
          rw [← hok.out, hd.out]; simp [ofG]; intro h1 h2; omega
        clear hd hok hf
        go_wp2_with fail
        refine c.mono ?_
        rintro e w1 ⟨rfl, rfl⟩
        go_wp2
        go_ret2
        exact ⟨by rw [HR.out]; simp [errV], hwr.out⟩
    · have HR : Hid (ofG 0 0 xs = (s, 0, 0)) := by
        show ofG 0 0 xs = (s, 0, 0)
        rw [← hok.out, List.drop_eq_nil_of_le (by omega)]; rfl
      clear hok HC
      go_wp2
      go_ret2
      exact ⟨by rw [HR.out]; simp [errV], hwr.out⟩

theorem put_any (s : Nat) (i : Int) (on : Bool) (w : World) (hs : s < 18446744073709551616) :
    Calls Tryd.prog 20 #[st s, nu i, .bool on] w fun e w' => e = .returned (if 0 ≤ i ∧ i < 64 then .tuple #[st (if on then s ||| pw i.toNat else less s (pw i.toNat)), .nilIface] else .tuple #[st 0, .iface 53 (nu 1)]) ∧ w' = w := by
  have c := fits_any i w
  by_cases h : 0 ≤ i ∧ i < 64
  · rw [if_pos h]
    obtain ⟨k, rfl⟩ := Int.eq_ofNat_of_zero_le h.1
    have hk : k < 64 := by omega
    have e0 : (decide (0 ≤ (k : Int)) && decide ((k : Int) < 64)) = true := by simp; omega
    rw [e0] at c
    have c3 := single_any k w hk
    cases on with
    | true =>
      have c4 := join_any s (pw k) w hs (pow_lt k hk)
      go_enter Tryd.func20, Tryd.ntmps20
      go_wp2_with fail
      refine c.mono ?_
      rintro e w1 ⟨rfl, rfl⟩
      go_wp2_with fail
      refine c3.mono ?_
      rintro e w1 ⟨rfl, rfl⟩
      go_wp2_with fail
      refine c4.mono ?_
      rintro e w1 ⟨rfl, rfl⟩
      go_wp2
      go_ret2
      exact ⟨by simp, rfl⟩
    | false =>
      have c4 := less_any s (pw k) w hs (pow_lt k hk)
      go_enter Tryd.func20, Tryd.ntmps20
      go_wp2_with fail
      refine c.mono ?_
      rintro e w1 ⟨rfl, rfl⟩
      go_wp2_with fail
      refine c3.mono ?_
      rintro e w1 ⟨rfl, rfl⟩
      go_wp2_with fail
      refine c4.mono ?_
      rintro e w1 ⟨rfl, rfl⟩
      go_wp2
      go_ret2
      exact ⟨by simp, rfl⟩
  · rw [if_neg h]
    have e0 : (decide (0 ≤ i) && decide (i < 64)) = false := by simp; omega
    rw [e0] at c
    go_enter Tryd.func20, Tryd.ntmps20
    go_wp2_with fail
    refine c.mono ?_
    rintro e w1 ⟨rfl, rfl⟩
    go_wp2
    go_ret2
    exact ⟨by simp, rfl⟩

theorem works_any (w : World) : Calls Tryd.prog 21 #[] w fun e w' => e = .returned (.bool true) ∧ Below w.heap.size w w' := by
  have c : Calls Tryd.prog 19 #[.slice (some ⟨w.heap.size, 0, none⟩) 2 2] (w.alloc (.cells #[nu 2, nu 0] 3)) fun e w' => e = .returned (.tuple #[st 5, .nilIface]) ∧ w' = w.alloc (.cells #[nu 2, nu 0] 3) := by
    refine (of_any (.slice (some ⟨w.heap.size, 0, none⟩) 2 2) [2, 0] _ ⟨_, 2, rfl, by simp, by decide, fun _ => ⟨w.heap.size, 0, rfl, by simp, fun j hj => ?_⟩⟩).mono ?_
    · rcases (by simp at hj; omega : j = 0 ∨ j = 1) with rfl | rfl <;> simp
    · rintro e w' ⟨rfl, rfl⟩
      exact ⟨rfl, rfl⟩
  have c2 := count_any 5 (w.alloc (.cells #[nu 2, nu 0] 3)) (by decide)
  have e2 : ones 5 64 = 2 := by decide
  rw [e2] at c2
  go_enter Tryd.func21, Tryd.ntmps21
  go_wp2_with fail
  refine c.mono ?_
  rintro e w1 ⟨rfl, rfl⟩
  go_wp2_with fail
  refine c2.mono ?_
  rintro e w1 ⟨rfl, rfl⟩
  go_wp2
  go_ret
  exact ⟨rfl, (Below.refl _ w).alloc (Nat.le_refl _) _⟩
end Bt
end Go.Proofs.YtffaogkinhkgdaaDoor
