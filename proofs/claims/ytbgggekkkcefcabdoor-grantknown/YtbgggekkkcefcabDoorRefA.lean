/- The document's answer for a set's numbers, Has and All; lists of numbers. -/
import Derived.Test.YtbgggekkkcefcabDoorSets
import Derived.Test.YtbgggekkkcefcabDoorOf
namespace Go.Proofs.YtbgggekkkcefcabDoor
open Go.RowKit
namespace Bt
set_option linter.unusedSimpArgs false
set_option linter.unusedVariables false

theorem shr_one (s i : Nat) (hs : s < 18446744073709551616) : (bits .and .u64 ((s : Int) / 2 ^ i) 1 == 1) = s.testBit i := by
  have a : bits .and .u64 ((s : Int) / 2 ^ i) 1 = ((s / 2 ^ i &&& 1 : Nat) : Int) := by
    have := u64_and_nat (s / 2 ^ i) 1 (Nat.lt_of_le_of_lt (Nat.div_le_self _ _) hs) (by omega)
    rw [← this]; simp
  rw [a, Nat.testBit, Nat.shiftRight_eq_div_pow, Nat.and_comm 1, Bool.eq_iff_iff, Nat.and_one_is_mod]
  simp only [beq_iff_eq, bne_iff_ne, ne_eq]
  omega

theorem rhas_any (s : Nat) (i : Int) (w : World) (hs : s < 18446744073709551616) :
    Calls Tryd.prog 66 #[st s, nu i] w fun e w' => e = .returned (.bool (hasB s i)) ∧ w' = w := by
  by_cases h0 : 0 ≤ i
  · by_cases h1 : i < 64
    · obtain ⟨k, rfl⟩ := Int.eq_ofNat_of_zero_le h0
      have hk : k < 64 := by omega
      have hh : hasB s (k : Int) = s.testBit k := by simp [hasB]; omega
      rw [hh]
      have z := shr_one s k hs
      go_enter Tryd.func66, Tryd.ntmps66
      go_wp2
      go_ret
      exact ⟨rfl, rfl⟩
    · have hh : hasB s i = false := by simp [hasB, h1]
      rw [hh]
      go_enter Tryd.func66, Tryd.ntmps66
      go_wp2
      go_ret
      exact ⟨rfl, rfl⟩
  · have hh : hasB s i = false := by simp [hasB, h0]
    rw [hh]
    go_enter Tryd.func66, Tryd.ntmps66
    go_wp2
    go_ret
    exact ⟨rfl, rfl⟩

theorem has_nat (s k : Nat) (hk : k < 64) : hasB s (k : Int) = s.testBit k := by simp [hasB]; omega

theorem or_bit (s k j : Nat) : (s ||| pw k).testBit j = (s.testBit j || decide (k = j)) := by rw [Nat.testBit_or]; unfold pw; rw [Nat.testBit_two_pow]

/-- The numbers of a set below n, rising. -/
def numsTo (s n : Nat) : List Int := ((List.range n).filter (fun i => s.testBit i)).map (fun i : Nat => (i : Int))

theorem numsTo_succ (s n : Nat) : numsTo s (n + 1) = numsTo s n ++ (if s.testBit n then [(n : Int)] else []) := by
  unfold numsTo
  rw [List.range_succ, List.filter_append, List.map_append]
  cases h : s.testBit n <;> simp [h]

theorem numsTo_len (s n : Nat) : (numsTo s n).length = ones s n := by
  unfold numsTo ones
  rw [List.length_map, List.countP_eq_length_filter]

theorem numsTo_le (s n : Nat) : (numsTo s n).length ≤ n := by
  unfold numsTo
  rw [List.length_map]
  exact Nat.le_trans (List.length_filter_le _ _) (by simp)

theorem Tryd.info3 : (Tryd.prog.info? 3).map (fun i => (i.zero, i.size, i.bytes)) = some (some (.int .i64 0), 1, 8) := by kernel_rfl

/-- The row v holds just these numbers, and lies at base or behind it. -/
@[reducible] def OwnI (w : World) (base : Nat) (v : Value) (xs : List Int) : Prop := w.ownsRow base 3 1 v xs.length (xs.map nu)

theorem ownI_slice {w : World} {base : Nat} {v : Value} {xs : List Int} (h : OwnI w base v xs) :
    ∃ a cap, v = .slice a xs.length cap ∧ xs.length ≤ cap ∧ cap ≤ maxLen ∧ (0 < xs.length → ∃ g, a = some ⟨g, 0, none⟩ ∧ base ≤ g ∧ g < w.heap.size ∧ ∀ j (hj : j < xs.length), w.cell? ⟨g, j, none⟩ = some (nu xs[j])) := by
  rcases h.2 with ⟨rfl, hn⟩ | ⟨g, cap, cur, rfl, hbg, hgg, h1, h2, h3, h4⟩
  · exact ⟨none, 0, by rw [hn], by omega, by decide, fun h => by omega⟩
  · refine ⟨_, cap, rfl, h1, h2, fun _ => ⟨g, rfl, hbg, (Array.getElem?_eq_some_iff.1 hgg).1, fun j hj => ?_⟩⟩
    have e : cur.toList[j]? = some (nu xs[j]) := by
      have := congrArg (fun l => l[j]?) h4
      simp only [Nat.mul_one] at this
      rw [List.getElem?_take_of_lt hj] at this
      rw [this]
      simp [hj]
    have e2 : cur[j]? = some (nu xs[j]) := by rw [← Array.getElem?_toList]; exact e
    simp [World.cell?, hgg, e2]

theorem rdI_own {w : World} {base : Nat} {v : Value} {xs : List Int} (h : OwnI w base v xs) : RdI w v xs := by
  obtain ⟨a, cap, h1, h2, h3, h4⟩ := ownI_slice h
  refine ⟨a, cap, h1, h2, h3, fun h0 => ?_⟩
  obtain ⟨g, e1, _, e2, e3⟩ := h4 h0
  exact ⟨g, 0, e1, e2, fun j hj => by rw [Nat.zero_add]; exact e3 j hj⟩

theorem ownI_below {w w' : World} {base : Nat} {v : Value} {xs : List Int} (h : OwnI w base v xs) (hb : Below w.heap.size w w') : OwnI w' base v xs := by
  refine ⟨h.1, ?_⟩
  rcases h.2 with hn | ⟨g, cap, cur, rfl, hbg, hgg, rest⟩
  · exact .inl hn
  · refine .inr ⟨g, cap, cur, rfl, hbg, ?_, rest⟩
    rw [hb.block g (Array.getElem?_eq_some_iff.1 hgg).1]
    exact hgg

theorem ownI_base {w : World} {base base' : Nat} {v : Value} {xs : List Int} (h : OwnI w base v xs) (hb : base' ≤ base) : OwnI w base' v xs := by
  refine ⟨h.1, ?_⟩
  rcases h.2 with hn | ⟨g, cap, cur, rfl, hbg, rest⟩
  · exact .inl hn
  · exact .inr ⟨g, cap, cur, rfl, Nat.le_trans hb hbg, rest⟩

end Bt
end Go.Proofs.YtbgggekkkcefcabDoor
