/- Lists of numbers that are lent with marks behind, and looked at again. -/
import Derived.Test.YtffaogkinhkgdaaDoorRefA
namespace Go.Proofs.YtffaogkinhkgdaaDoor
set_option linter.ambiguousOpen false
open Go.RowKit
namespace Bt
set_option linter.unusedSimpArgs false
set_option linter.unusedVariables false

/-- The mark of a place. -/
def mkI (i : Int) : Int := -91000000 - i
def mksI (n : Nat) : List Int := (List.range n).map (fun i : Nat => mkI i)
theorem mksI_len (n : Nat) : (mksI n).length = n := by simp [mksI]
theorem mksI_succ (n : Nat) : mksI (n + 1) = mksI n ++ [mkI n] := by simp [mksI, List.range_succ]

theorem markints_any (i : Int) (h1 : -4611686018427387904 ≤ i) (h2 : i ≤ 4611686018427387904) (w : World) :
    Calls Tryd.prog 60 #[nu 90, nu i] w fun e w' => e = .returned (nu (mkI i)) ∧ w' = w := by
  go_enter Tryd.func60, Tryd.ntmps60
  go_wp2
  go_ret
  exact ⟨rfl, rfl⟩

set_option maxRecDepth 100000 in
set_option maxHeartbeats 2000000 in
theorem fullI_any (v : Value) (l : List Int) (w : World) (hR : RdI w v l) (hl : l.length * 8 ≤ 140737488351232) :
    Calls Tryd.prog 53 #[v] w fun e w' => ∃ v', e = .returned v' ∧ w'.ownsRow w.heap.size 3 1 v' (l.length + 16) ((l ++ mksI 16).map nu) ∧ Below w.heap.size w w' := by
  obtain ⟨i0, hi, hz0, hz1, hz2⟩ := info_parts Tryd.info3
  obtain ⟨a, cap, rfl, hc, hm, hcell⟩ := hR
  unfold maxLen at hm
  have HC : Hid (0 < l.length → ∃ g o, a = some ⟨g, o, none⟩ ∧ g < w.heap.size ∧ ∀ j (hj : j < l.length), w.cell? ⟨g, o + j, none⟩ = some (nu l[j])) := hcell
  clear hcell
  go_enter Tryd.func53, Tryd.ntmps53
  go_wp2
  go_loopw [3, 4] (fun pv iv wr => ∃ k : Nat, k ≤ l.length ∧ iv = .int .i64 k ∧ wr.ownsRow w.heap.size 3 1 pv k ((l.take k).map nu) ∧ Below w.heap.size w wr) (fun _ iv _ => l.length - (intOf iv).toNat)
  case atStart => exact ⟨0, Nat.zero_le _, rfl, World.ownsRow_nil _ _ _ _, Below.refl _ _⟩
  case round =>
    obtain ⟨k, hk, rfl, hown, hbel⟩ := hrel
    by_cases hp : k < l.length
    · obtain ⟨g, o, rfl, hgl, hcj⟩ := HC.out (Nat.lt_of_le_of_lt (Nat.zero_le _) hp)
      have hck : wr.cell? ⟨g, o + k, none⟩ = some (nu l[k]) := (hbel.cell (p := ⟨g, o + k, none⟩) hgl).trans (hcj k hp)
      have HS : Hid ((l.take (k + 1)).map nu = (l.take k).map nu ++ [nu l[k]]) := by
        show _ = _
        rw [List.take_succ_eq_append_getElem hp, List.map_append]; rfl
      clear hcj
      generalize l[k] = x at *
      go_wp2_with (at_builtin; refine wpList_append_own _ rfl _ _ 24 rfl w.heap.size 3 i0 (.int .i64 0) 1 8 Tryd.underlying24 hi hz0 hz1 hz2 rfl (by decide) _ _ _ rfl (hown.alloc _) ⟨wr.heap.size, 0, none⟩ 1 1 [nu x] rfl rfl (cell_one_new _ _ _) (by simp [Value.oneCell']) (by unfold maxLen; omega) (by omega) (by have := hbel.size; simp; omega) ?_; intro v' w4 hown4 hgrow _; have hbel4 : Below w.heap.size w w4 := Below.grown (hbel.alloc (by exact hbel.size) _) hgrow (by have := hbel.size; simp; omega) (fun k hk => (hown.lt k hk).1))
      go_roundw
      case rel => exact ⟨k + 1, by omega, by go_num, by rw [HS.out]; exact hown4, hbel4⟩
      case measure => simp [intOf]; omega
    · obtain rfl : k = l.length := by omega
      rw [List.take_length] at hown
      rename World => w1
      go_wp2
      go_loopw [3, 5] (fun pv iv wr => ∃ k : Nat, k ≤ 16 ∧ iv = .int .i64 k ∧ wr.ownsRow w.heap.size 3 1 pv (l.length + k) ((l ++ mksI k).map nu) ∧ Below w.heap.size w wr) (fun _ iv _ => 16 - (intOf iv).toNat)
      case atStart => exact ⟨0, Nat.zero_le _, rfl, by simpa [mksI] using hown, hbel⟩
      case round =>
        obtain ⟨k, hk2, rfl, hown2, hbel2⟩ := hrel
        by_cases hp2 : k < 16
        · have cm := markints_any k (by omega) (by omega) wr
          have HS : Hid ((l ++ mksI (k + 1)).map nu = (l ++ mksI k).map nu ++ [nu (mkI k)]) := by
            show _ = _
            rw [mksI_succ, ← List.append_assoc, List.map_append]; rfl
          go_wp2_with fail
          refine cm.mono ?_
          rintro e w3 ⟨rfl, hq⟩
          subst w3
          generalize mkI k = ms at *
          go_wp2_with (at_builtin; refine wpList_append_own _ rfl _ _ 24 rfl w.heap.size 3 i0 (.int .i64 0) 1 8 Tryd.underlying24 hi hz0 hz1 hz2 rfl (by decide) _ _ _ rfl (hown2.alloc _) ⟨wr.heap.size, 0, none⟩ 1 1 [nu ms] rfl rfl (cell_one_new _ _ _) (by simp [Value.oneCell']) (by unfold maxLen; omega) (by omega) (by have := hbel2.size; simp; omega) ?_; intro v' w4 hown4 hgrow _; have hbel4 : Below w.heap.size w w4 := Below.grown (hbel2.alloc (by exact hbel2.size) _) hgrow (by have := hbel2.size; simp; omega) (fun k hk => (hown2.lt k hk).1))
          go_roundw
          case rel => exact ⟨k + 1, by omega, by go_num, by rw [HS.out]; exact hown4, hbel4⟩
          case measure => simp [intOf]; omega
        · obtain rfl : k = 16 := by omega
          go_wp2
          go_ret
          exact ⟨_, rfl, hown2, hbel2⟩

theorem own_posI {w : World} {base n : Nat} {v : Value} {e : TypeId} {xs : List Value} (h : w.ownsRow base e 1 v n xs) (hn : 0 < n) : ∃ g cap, v = .slice (some ⟨g, 0, none⟩) n cap ∧ n ≤ cap ∧ cap ≤ maxLen ∧ base ≤ g ∧ g < w.heap.size := by
  rcases h.2 with ⟨_, h0⟩ | ⟨g, cap, cur, rfl, h1, h2, h3, h4, _⟩
  · omega
  · exact ⟨g, cap, rfl, h3, h4, h1, (Array.getElem?_eq_some_iff.1 h2).1⟩

set_option maxRecDepth 100000 in
set_option maxHeartbeats 1000000 in
theorem lentI_any (v : Value) (l : List Int) (w : World) (hR : RdI w v l) (hl : l.length * 8 ≤ 140737488351232) :
    Calls Tryd.prog 36 #[v] w fun e w' => ∃ g cap, e = .returned (.slice (some ⟨g, 0, none⟩) l.length cap) ∧ l.length + 16 ≤ cap ∧ cap ≤ maxLen ∧ w'.ownsRow w.heap.size 3 1 (.slice (some ⟨g, 0, none⟩) (l.length + 16) cap) (l.length + 16) ((l ++ mksI 16).map nu) ∧ Below w.heap.size w w' := by
  have c := fullI_any v l w hR hl
  obtain ⟨a, cap0, rfl, hc, hm, hcell⟩ := hR
  unfold maxLen at hm
  clear hcell
  go_enter Tryd.func36, Tryd.ntmps36
  go_wp2_with fail
  refine c.mono ?_
  rintro e w1 ⟨v', rfl, hown, hb⟩
  obtain ⟨g, cap, rfl, h1, h2, h3, h4⟩ := own_posI hown (by omega)
  have h2' := h2
  unfold maxLen at h2
  have HO : Hid (w1.ownsRow w.heap.size 3 1 (.slice (some ⟨g, 0, none⟩) (l.length + 16) cap) (l.length + 16) ((l ++ mksI 16).map nu)) := hown
  clear hown
  go_wp2
  go_ret
  exact ⟨g, cap, rfl, h1, h2', HO.out, hb⟩

theorem row_atI {w : World} {base g cap n : Nat} {e : TypeId} {xs : List Value} (h : w.ownsRow base e 1 (.slice (some ⟨g, 0, none⟩) n cap) n xs) (k : Nat) (hk : k < n) (hx : k < xs.length) : w.cell? ⟨g, k, none⟩ = some xs[k] := by
  rcases h.2 with ⟨h0, _⟩ | ⟨g', cap', cur, hv, h1, h2, h3, h4, h5, h6⟩
  · cases h0
  · simp only [Value.slice.injEq, Option.some.injEq, Addr.mk.injEq, and_true, true_and] at hv
    obtain ⟨rfl, rfl⟩ := hv
    have hc : k < cur.size := by omega
    have e1 : xs[k] = cur[k] := by
      have : xs[k]? = (cur.toList.take (n * 1))[k]? := by rw [h6]
      rw [List.getElem?_eq_getElem hx, List.getElem?_take_of_lt (by omega), Array.getElem?_toList, Array.getElem?_eq_getElem hc] at this
      exact Option.some.inj this
    simp [World.cell?, h2, e1, Array.getElem?_eq_getElem hc]

set_option maxRecDepth 100000 in
set_option maxHeartbeats 2000000 in
theorem keptFullI_any (v : Value) (l : List Int) (g cap base : Nat) (w : World) (hR : RdI w v l) (hl : l.length * 8 ≤ 140737488351232) (hcap : l.length + 16 ≤ cap) (hcm : cap ≤ maxLen)
    (hown : w.ownsRow base 3 1 (.slice (some ⟨g, 0, none⟩) (l.length + 16) cap) (l.length + 16) ((l ++ mksI 16).map nu)) (hgl : g < w.heap.size) :
    Calls Tryd.prog 54 #[.slice (some ⟨g, 0, none⟩) (l.length + 16) cap, v] w fun e w' => e = .returned (.bool true) ∧ Below w.heap.size w w' := by
  have HX : Hid (∀ j (hj : j < l.length), w.cell? ⟨g, j, none⟩ = some (nu l[j])) := fun j hj => by
    have := row_atI hown j (by omega) (by simp [mksI_len]; omega)
    rw [this, List.getElem_map, List.getElem_append_left hj]
  have HY : Hid (∀ j, j < 16 → w.cell? ⟨g, l.length + j, none⟩ = some (nu (mkI j))) := fun j hj => by
    have := row_atI hown (l.length + j) (by omega) (by simp [mksI_len]; omega)
    rw [this]
    simp [List.getElem_append_right, mksI]
  obtain ⟨a, cap0, rfl, hc, hm, hcell⟩ := hR
  unfold maxLen at hm hcm
  have HC : Hid (0 < l.length → ∃ g o, a = some ⟨g, o, none⟩ ∧ g < w.heap.size ∧ ∀ j (hj : j < l.length), w.cell? ⟨g, o + j, none⟩ = some (nu l[j])) := hcell
  clear hcell hown
  have hlen : (((l.length + 16 : Nat) : Int) != (l.length : Int) + 16) = false := by rw [bne_eq_false_iff_eq]; omega
  go_enter Tryd.func54, Tryd.ntmps54
  go_wp2
  go_loopw [5] (fun iv wr => ∃ k : Nat, k ≤ l.length + 16 ∧ iv = .int .i64 k ∧ Below w.heap.size w wr) (fun iv _ => l.length + 16 - (intOf iv).toNat)
  case atStart => exact ⟨0, Nat.zero_le _, rfl, Below.refl _ _⟩
  case round =>
    obtain ⟨k, hk, rfl, hbel⟩ := hrel
    by_cases hp : k < l.length + 16
    · by_cases hq : k < l.length
      · obtain ⟨g2, o2, rfl, hgl2, hcj⟩ := HC.out (Nat.lt_of_le_of_lt (Nat.zero_le _) hq)
        have cm := markints_any ((k : Int) - (l.length : Int)) (by omega) (by omega) wr
        have hc1 : wr.cell? ⟨g2, o2 + k, none⟩ = some (nu l[k]) := (hbel.cell (p := ⟨g2, o2 + k, none⟩) hgl2).trans (hcj k hq)
        have hc2 : wr.cell? ⟨g, k, none⟩ = some (nu l[k]) := (hbel.cell (p := ⟨g, k, none⟩) hgl).trans (HX.out k hq)
        generalize l[k] = x at *
        generalize mkI ((k : Int) - (l.length : Int)) = ms at *
        clear hcj
        go_wp2_with fail
        refine cm.mono ?_
        rintro e w3 ⟨rfl, hq3⟩
        subst w3
        go_wp2
        go_roundw
        case rel => exact ⟨k + 1, by omega, by go_num, hbel⟩
        case measure => simp [intOf]; omega
      · obtain ⟨j, rfl⟩ : ∃ j, k = l.length + j := ⟨k - l.length, by omega⟩
        have ej : ((l.length + j : Nat) : Int) - (l.length : Int) = (j : Int) := by omega
        have cm := markints_any (((l.length + j : Nat) : Int) - (l.length : Int)) (by omega) (by omega) wr
        have hc2 : wr.cell? ⟨g, l.length + j, none⟩ = some (nu (mkI (((l.length + j : Nat) : Int) - (l.length : Int)))) := by rw [ej]; exact (hbel.cell (p := ⟨g, l.length + j, none⟩) hgl).trans (HY.out j (by omega))
        clear ej
        generalize mkI (((l.length + j : Nat) : Int) - (l.length : Int)) = ms at *
        go_wp2_with fail
        refine cm.mono ?_
        rintro e w3 ⟨rfl, hq3⟩
        subst w3
        go_wp2
        go_roundw
        case rel => exact ⟨l.length + j + 1, by omega, by go_num, hbel⟩
        case measure => simp [intOf]; omega
    · obtain rfl : k = l.length + 16 := by omega
      go_wp2
      go_ret
      exact ⟨rfl, hbel⟩

set_option maxRecDepth 100000 in
set_option maxHeartbeats 1000000 in
theorem keptI_any (v : Value) (l : List Int) (g cap base : Nat) (w : World) (hR : RdI w v l) (hl : l.length * 8 ≤ 140737488351232) (hcap : l.length + 16 ≤ cap) (hcm : cap ≤ maxLen)
    (hown : w.ownsRow base 3 1 (.slice (some ⟨g, 0, none⟩) (l.length + 16) cap) (l.length + 16) ((l ++ mksI 16).map nu)) (hgl : g < w.heap.size) :
    Calls Tryd.prog 38 #[.slice (some ⟨g, 0, none⟩) l.length cap, v] w fun e w' => e = .returned (.bool true) ∧ Below w.heap.size w w' := by
  have c := keptFullI_any v l g cap base w hR hl hcap hcm hown hgl
  obtain ⟨a, cap0, rfl, hc, hm, hcell⟩ := hR
  unfold maxLen at hm hcm
  clear hcell hown
  have hn : ((l.length : Int) + 16).toNat = l.length + 16 := by omega
  go_enter Tryd.func38, Tryd.ntmps38
  go_wp2_with (first | (simp only [hn]) | fail)
  refine c.mono ?_
  rintro e w1 ⟨rfl, hb⟩
  go_wp2
  go_ret
  exact ⟨rfl, hb⟩

theorem rdI_lent {w : World} {base g cap : Nat} {l : List Int} (hown : w.ownsRow base 3 1 (.slice (some ⟨g, 0, none⟩) (l.length + 16) cap) (l.length + 16) ((l ++ mksI 16).map nu)) (hcap : l.length + 16 ≤ cap) (hcm : cap ≤ maxLen) (hgl : g < w.heap.size) :
    RdI w (.slice (some ⟨g, 0, none⟩) l.length cap) l := by
  refine ⟨_, cap, rfl, by omega, hcm, fun _ => ⟨g, 0, rfl, hgl, fun j hj => ?_⟩⟩
  rw [Nat.zero_add]
  have := row_atI hown j (by omega) (by simp [mksI_len]; omega)
  rw [this, List.getElem_map, List.getElem_append_left hj]
end Bt
end Go.Proofs.YtffaogkinhkgdaaDoor
