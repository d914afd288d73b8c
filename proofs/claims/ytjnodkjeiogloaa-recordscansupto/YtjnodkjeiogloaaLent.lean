/- Lists of texts that are lent with marks behind, and looked at again. -/
import Derived.Test.YtjnodkjeiogloaaSame
import Derived.Test.YtjnodkjeiogloaaApartP
namespace Go.Proofs.Ytjnodkjeiogloaa
set_option linter.ambiguousOpen false
open Go.RowKit Nm
namespace Lb
set_option linter.unusedSimpArgs false
set_option linter.unusedVariables false

set_option maxRecDepth 1000000 in
set_option maxHeartbeats 1000000 in
theorem marktext_some (i : Int) (h1 : -4611686018427387904 ≤ i) (h2 : i ≤ 4611686018427387904) (w : World) :
    Calls Try.prog 40 #[.int .i64 90, .int .i64 i] w fun e w' => (∃ s, e = .returned (.string s)) ∧ Below w.heap.size w w' := by
  have hcv := run_conv5
  go_enter Try.func40, Try.ntmps40
  go_wp2
  go_ret
  exact ⟨⟨_, rfl⟩, (Below.refl _ _).alloc (Nat.le_refl _) _⟩
theorem marktexts_some (i : Int) (h1 : -4611686018427387904 ≤ i) (h2 : i ≤ 4611686018427387904) (w : World) :
    Calls Try.prog 32 #[.int .i64 90, .int .i64 i] w fun e w' => (∃ s, e = .returned (.string s)) ∧ Below w.heap.size w w' := by
  have c := marktext_some i h1 h2 w
  go_enter Try.func32, Try.ntmps32
  go_wp2_with fail
  refine c.mono ?_
  rintro e w1 ⟨⟨s, rfl⟩, q1⟩
  go_wp2
  go_ret
  exact ⟨⟨_, rfl⟩, q1⟩

theorem map_snoc (l : List (List UInt8)) (k : Nat) (h : k < l.length) : (l.take (k + 1)).map txt = (l.take k).map txt ++ [txt l[k]] := by
  rw [List.take_succ_eq_append_getElem h, List.map_append]; rfl

set_option maxRecDepth 100000 in
set_option maxHeartbeats 2000000 in
theorem full_any (v : Value) (l : List (List UInt8)) (w : World) (hR : Rd w v l) (hl : l.length * 16 ≤ 140737488351232) :
    Calls Try.prog 22 #[v] w fun e w' => ∃ v', e = .returned v' ∧ w'.ownsRow w.heap.size 9 1 v' (l.length + 16) (l.map txt ++ marks 90 16) ∧ Below w.heap.size w w' := by
  obtain ⟨i0, hi, hz0, hz1, hz2⟩ := info_parts Try.info9
  obtain ⟨a, cap, rfl, hc, hm, hcell⟩ := hR
  unfold maxLen at hm
  have HC : Hid (0 < l.length → ∃ g o, a = some ⟨g, o, none⟩ ∧ g < w.heap.size ∧ ∀ j (hj : j < l.length), w.cell? ⟨g, o + j, none⟩ = some (.string (B l[j]))) := hcell
  clear hcell
  go_enter Try.func22, Try.ntmps22
  go_wp2
  go_loopw [3, 4] (fun pv iv wr => ∃ k : Nat, k ≤ l.length ∧ iv = .int .i64 k ∧ wr.ownsRow w.heap.size 9 1 pv k ((l.take k).map txt) ∧ Below w.heap.size w wr) (fun _ iv _ => l.length - (intOf iv).toNat)
  case atStart => exact ⟨0, Nat.zero_le _, rfl, World.ownsRow_nil _ _ _ _, Below.refl _ _⟩
  case round =>
    obtain ⟨k, hk, rfl, hown, hbel⟩ := hrel
    by_cases hp : k < l.length
    · obtain ⟨g, o, rfl, hgl, hcj⟩ := HC.out (Nat.lt_of_le_of_lt (Nat.zero_le _) hp)
      have hck : wr.cell? ⟨g, o + k, none⟩ = some (.string (B l[k])) := (hbel.cell (p := ⟨g, o + k, none⟩) hgl).trans (hcj k hp)
      have HS : Hid ((l.take (k + 1)).map txt = (l.take k).map txt ++ [txt l[k]]) := map_snoc l k hp
      clear hcj
      go_wp2_with (at_builtin; refine wpList_append_own _ rfl _ _ 23 rfl w.heap.size 9 i0 (.string ⟨#[]⟩) 1 16 Try.underlying23 hi hz0 hz1 hz2 rfl (by decide) _ _ _ rfl (hown.alloc _) ⟨wr.heap.size, 0, none⟩ 1 1 [.string (B l[k])] rfl rfl (cell_one_new _ _ _) (by simp [Value.oneCell']) (by unfold maxLen; omega) (by omega) (by have := hbel.size; simp; omega) ?_; intro v' w4 hown4 hgrow _; have hbel4 : Below w.heap.size w w4 := Below.grown (hbel.alloc (by exact hbel.size) _) hgrow (by have := hbel.size; simp; omega) (fun k hk => (hown.lt k hk).1))
      go_roundw
      case rel => exact ⟨k + 1, by omega, by go_num, by rw [HS.out]; exact hown4, hbel4⟩
      case measure => simp [intOf]; omega
    · obtain rfl : k = l.length := by omega
      rw [List.take_length] at hown
      rename World => w1
      go_wp2
      go_loopw [3, 5] (fun pv iv wr => ∃ k : Nat, k ≤ 16 ∧ iv = .int .i64 k ∧ wr.ownsRow w.heap.size 9 1 pv (l.length + k) (l.map txt ++ marks 90 k) ∧ Below w.heap.size w wr) (fun _ iv _ => 16 - (intOf iv).toNat)
      case atStart => exact ⟨0, Nat.zero_le _, rfl, by simpa [marks] using hown, hbel⟩
      case round =>
        obtain ⟨k, hk2, rfl, hown2, hbel2⟩ := hrel
        by_cases hp2 : k < 16
        · have cm := marktexts_at 90 k 90 k rfl rfl (by decide) (by omega) wr
          have HS : Hid (l.map txt ++ marks 90 (k + 1) = (l.map txt ++ marks 90 k) ++ [.string (markS 90 k)]) := by
            show _ = _
            rw [marks_succ, List.append_assoc]; rfl
          go_wp2_with fail
          refine cm.mono ?_
          rintro e w3 ⟨rfl, hb3⟩
          have hown3 := own_below hown2 hb3
          have hbel3 := hbel2.trans (hb3.mono hbel2.size)
          generalize markS 90 k = ms at *
          go_wp2_with (at_builtin; refine wpList_append_own _ rfl _ _ 23 rfl w.heap.size 9 i0 (.string ⟨#[]⟩) 1 16 Try.underlying23 hi hz0 hz1 hz2 rfl (by decide) _ _ _ rfl (hown3.alloc _) ⟨w3.heap.size, 0, none⟩ 1 1 [.string ms] rfl rfl (cell_one_new _ _ _) (by simp [Value.oneCell']) (by unfold maxLen; omega) (by omega) (by have := hbel3.size; simp; omega) ?_; intro v' w4 hown4 hgrow _; have hbel4 : Below w.heap.size w w4 := Below.grown (hbel3.alloc (by exact hbel3.size) _) hgrow (by have := hbel3.size; simp; omega) (fun k hk => (hown3.lt k hk).1))
          go_roundw
          case rel => exact ⟨k + 1, by omega, by go_num, by rw [HS.out]; exact hown4, hbel4⟩
          case measure => simp [intOf]; omega
        · obtain rfl : k = 16 := by omega
          go_wp2
          go_ret
          exact ⟨_, rfl, hown2, hbel2⟩
theorem own_pos {w : World} {base n : Nat} {v : Value} {e : TypeId} {xs : List Value} (h : w.ownsRow base e 1 v n xs) (hn : 0 < n) : ∃ g cap, v = .slice (some ⟨g, 0, none⟩) n cap ∧ n ≤ cap ∧ cap ≤ maxLen ∧ base ≤ g ∧ g < w.heap.size := by
  rcases h.2 with ⟨_, h0⟩ | ⟨g, cap, cur, rfl, h1, h2, h3, h4, _⟩
  · omega
  · exact ⟨g, cap, rfl, h3, h4, h1, (Array.getElem?_eq_some_iff.1 h2).1⟩

set_option maxRecDepth 100000 in
set_option maxHeartbeats 1000000 in
theorem lent_any (v : Value) (l : List (List UInt8)) (w : World) (hR : Rd w v l) (hl : l.length * 16 ≤ 140737488351232) :
    Calls Try.prog 7 #[v] w fun e w' => ∃ g cap, e = .returned (.slice (some ⟨g, 0, none⟩) l.length cap) ∧ l.length + 16 ≤ cap ∧ cap ≤ maxLen ∧ w'.ownsRow w.heap.size 9 1 (.slice (some ⟨g, 0, none⟩) (l.length + 16) cap) (l.length + 16) (l.map txt ++ marks 90 16) ∧ Below w.heap.size w w' := by
  have c := full_any v l w hR hl
  obtain ⟨a, cap0, rfl, hc, hm, hcell⟩ := hR
  unfold maxLen at hm
  clear hcell
  go_enter Try.func7, Try.ntmps7
  go_wp2_with fail
  refine c.mono ?_
  rintro e w1 ⟨v', rfl, hown, hb⟩
  obtain ⟨g, cap, rfl, h1, h2, h3, h4⟩ := own_pos hown (by omega)
  have h2' := h2
  unfold maxLen at h2
  have HO : Hid (w1.ownsRow w.heap.size 9 1 (.slice (some ⟨g, 0, none⟩) (l.length + 16) cap) (l.length + 16) (l.map txt ++ marks 90 16)) := hown
  clear hown
  go_wp2
  go_ret
  exact ⟨g, cap, rfl, h1, h2', HO.out, hb⟩

theorem row_at {w : World} {base g cap n : Nat} {e : TypeId} {xs : List Value} (h : w.ownsRow base e 1 (.slice (some ⟨g, 0, none⟩) n cap) n xs) (k : Nat) (hk : k < n) (hx : k < xs.length) : w.cell? ⟨g, k, none⟩ = some xs[k] := by
  obtain ⟨⟨u, h1, h2⟩, _⟩ := own_cell h k hk
  rw [List.getElem?_eq_getElem hx] at h1
  rw [h2, ← h1]

set_option maxRecDepth 100000 in
set_option maxHeartbeats 2000000 in
theorem keptFull_any (v : Value) (l : List (List UInt8)) (g cap base : Nat) (w : World) (hR : Rd w v l) (hl : l.length * 16 ≤ 140737488351232) (hcap : l.length + 16 ≤ cap) (hcm : cap ≤ maxLen)
    (hown : w.ownsRow base 9 1 (.slice (some ⟨g, 0, none⟩) (l.length + 16) cap) (l.length + 16) (l.map txt ++ marks 90 16)) (hgl : g < w.heap.size) :
    Calls Try.prog 31 #[.slice (some ⟨g, 0, none⟩) (l.length + 16) cap, v] w fun e w' => e = .returned (.bool true) ∧ Below w.heap.size w w' := by
  have HX : Hid (∀ j (hj : j < l.length), w.cell? ⟨g, j, none⟩ = some (.string (B l[j]))) := fun j hj => by
    have := row_at hown j (by omega) (by simp [marks_len]; omega)
    rw [this, List.getElem_append_left (by simpa using hj)]
    simp [txt]
  have HY : Hid (∀ j, j < 16 → w.cell? ⟨g, l.length + j, none⟩ = some (.string (markS 90 j))) := fun j hj => by
    have := row_at hown (l.length + j) (by omega) (by simp [marks_len]; omega)
    rw [this, List.getElem_append_right (by simp)]
    simp [marks, markT]
  obtain ⟨a, cap0, rfl, hc, hm, hcell⟩ := hR
  unfold maxLen at hm hcm
  have HC : Hid (0 < l.length → ∃ g o, a = some ⟨g, o, none⟩ ∧ g < w.heap.size ∧ ∀ j (hj : j < l.length), w.cell? ⟨g, o + j, none⟩ = some (.string (B l[j]))) := hcell
  clear hcell hown
  have hlen : (((l.length + 16 : Nat) : Int) != (l.length : Int) + 16) = false := by rw [bne_eq_false_iff_eq]; omega
  go_enter Try.func31, Try.ntmps31
  go_wp2
  go_loopw [5] (fun iv wr => ∃ k : Nat, k ≤ l.length + 16 ∧ iv = .int .i64 k ∧ Below w.heap.size w wr) (fun iv _ => l.length + 16 - (intOf iv).toNat)
  case atStart => exact ⟨0, Nat.zero_le _, rfl, Below.refl _ _⟩
  case round =>
    obtain ⟨k, hk, rfl, hbel⟩ := hrel
    by_cases hp : k < l.length + 16
    · by_cases hq : k < l.length
      · obtain ⟨g2, o2, rfl, hgl2, hcj⟩ := HC.out (Nat.lt_of_le_of_lt (Nat.zero_le _) hq)
        have cm := marktexts_some ((k : Int) - (l.length : Int)) (by omega) (by omega) wr
        have hcj2 := hcj k hq
        have hcx2 := HX.out k hq
        generalize B l[k] = x at *
        clear hcj
        go_wp2_with fail
        refine cm.mono ?_
        rintro e w3 ⟨⟨ms, rfl⟩, hb3⟩
        have hbel3 := hbel.trans (hb3.mono hbel.size)
        have hc1 : w3.cell? ⟨g2, o2 + k, none⟩ = some (.string x) := (hbel3.cell (p := ⟨g2, o2 + k, none⟩) hgl2).trans hcj2
        have hc2 : w3.cell? ⟨g, k, none⟩ = some (.string x) := (hbel3.cell (p := ⟨g, k, none⟩) hgl).trans hcx2
        go_wp2
        go_roundw
        case rel => exact ⟨k + 1, by omega, by go_num, hbel3⟩
        case measure => simp [intOf]; omega
      · obtain ⟨j, rfl⟩ : ∃ j, k = l.length + j := ⟨k - l.length, by omega⟩
        have cm := marktexts_at 90 (((l.length + j : Nat) : Int) - (l.length : Int)) 90 j rfl (by omega) (by decide) (by omega) wr
        have hcy := HY.out j (by omega)
        generalize markS 90 j = ms at *
        go_wp2_with fail
        refine cm.mono ?_
        rintro e w3 ⟨rfl, hb3⟩
        have hbel3 := hbel.trans (hb3.mono hbel.size)
        have hc2 : w3.cell? ⟨g, l.length + j, none⟩ = some (.string ms) := (hbel3.cell (p := ⟨g, l.length + j, none⟩) hgl).trans hcy
        go_wp2
        go_roundw
        case rel => exact ⟨l.length + j + 1, by omega, by go_num, hbel3⟩
        case measure => simp [intOf]; omega
    · obtain rfl : k = l.length + 16 := by omega
      go_wp2
      go_ret
      exact ⟨rfl, hbel⟩

set_option maxRecDepth 100000 in
set_option maxHeartbeats 1000000 in
theorem kept_any (v : Value) (l : List (List UInt8)) (g cap base : Nat) (w : World) (hR : Rd w v l) (hl : l.length * 16 ≤ 140737488351232) (hcap : l.length + 16 ≤ cap) (hcm : cap ≤ maxLen)
    (hown : w.ownsRow base 9 1 (.slice (some ⟨g, 0, none⟩) (l.length + 16) cap) (l.length + 16) (l.map txt ++ marks 90 16)) (hgl : g < w.heap.size) :
    Calls Try.prog 15 #[.slice (some ⟨g, 0, none⟩) l.length cap, v] w fun e w' => e = .returned (.bool true) ∧ Below w.heap.size w w' := by
  have c := keptFull_any v l g cap base w hR hl hcap hcm hown hgl
  obtain ⟨a, cap0, rfl, hc, hm, hcell⟩ := hR
  unfold maxLen at hm hcm
  clear hcell hown
  have hn : ((l.length : Int) + 16).toNat = l.length + 16 := by omega
  go_enter Try.func15, Try.ntmps15
  go_wp2_with (first | (simp only [hn]) | fail)
  refine c.mono ?_
  rintro e w1 ⟨rfl, hb⟩
  go_wp2
  go_ret
  exact ⟨rfl, hb⟩
end Lb
end Go.Proofs.Ytjnodkjeiogloaa
