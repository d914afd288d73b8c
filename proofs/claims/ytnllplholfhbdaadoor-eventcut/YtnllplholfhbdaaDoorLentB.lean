import Derived.Test.YtnllplholfhbdaaDoorRegs
/- Rows of bytes that are lent with marks behind, and looked at again. -/
namespace Go.Proofs.YtnllplholfhbdaaDoor
set_option linter.ambiguousOpen false
open Go.RowKit
namespace Sm
set_option linter.unusedSimpArgs false
set_option linter.unusedVariables false

theorem info_byte : (Tryd.prog.info? 5).map (fun i => (i.zero, i.size, i.bytes)) = some (some (.int .u8 0), 1, 1) := by kernel_rfl

/-- The mark of a place. -/
def mkB (i : Int) : UInt8 := UInt8.ofNat ((3367 + i) % 256).toNat

def mksB (n : Nat) : List UInt8 := (List.range n).map (fun i : Nat => mkB i)

theorem mksB_len (n : Nat) : (mksB n).length = n := by simp [mksB]

theorem mksB_succ (n : Nat) : mksB (n + 1) = mksB n ++ [mkB n] := by simp [mksB, List.range_succ]

theorem mkB_val (i : Int) : ((mkB i).toNat : Int) = (3367 + i) % 256 := by
  unfold mkB
  have h : ((3367 + i) % 256).toNat < 256 := by omega
  rw [UInt8.toNat_ofNat', Nat.mod_eq_of_lt (by simpa using h)]
  omega

theorem markB_any (i : Int) (h1 : -4611686018427387904 ≤ i) (h2 : i ≤ 4611686018427387904) (w : World) :
    Calls Tryd.prog 31 #[nu 90, nu i] w fun e w' => e = .returned (by1 (mkB i)) ∧ w' = w := by
  have hv := mkB_val i
  unfold by1
  generalize ((mkB i).toNat : Int) = m at *
  subst m
  go_enter Tryd.func31, Tryd.ntmps31
  go_wp2
  go_ret
  exact ⟨rfl, rfl⟩

set_option maxRecDepth 100000 in
set_option maxHeartbeats 2000000 in
theorem fullB_any (v : Value) (l : List UInt8) (w : World) (hR : RdB w v l) (hl : l.length ≤ 140737488351232) :
    Calls Tryd.prog 35 #[v] w fun e w' => ∃ v', e = .returned v' ∧ w'.ownsRow w.heap.size 5 1 v' (l.length + 16) ((l ++ mksB 16).map by1) ∧ Below w.heap.size w w' := by
  obtain ⟨i0, hi, hz0, hz1, hz2⟩ := info_parts info_byte
  obtain ⟨a, cap, rfl, hc, hm, hcell⟩ := hR
  unfold maxLen at hm
  have HC : Hid (0 < l.length → ∃ g o, a = some ⟨g, o, none⟩ ∧ g < w.heap.size ∧ ∀ j (hj : j < l.length), w.cell? ⟨g, o + j, none⟩ = some (by1 l[j])) := hcell
  clear hcell
  go_enter Tryd.func35, Tryd.ntmps35
  go_wp2
  go_loopw [3, 4] (fun pv iv wr => ∃ k : Nat, k ≤ l.length ∧ iv = .int .i64 k ∧ wr.ownsRow w.heap.size 5 1 pv k ((l.take k).map by1) ∧ Below w.heap.size w wr) (fun _ iv _ => l.length - (intOf iv).toNat)
  case atStart => exact ⟨0, Nat.zero_le _, rfl, World.ownsRow_nil _ _ _ _, Below.refl _ _⟩
  case round =>
    obtain ⟨k, hk, rfl, hown, hbel⟩ := hrel
    by_cases hp : k < l.length
    · obtain ⟨g, o, rfl, hgl, hcj⟩ := HC.out (Nat.lt_of_le_of_lt (Nat.zero_le _) hp)
      have hck : wr.cell? ⟨g, o + k, none⟩ = some (by1 l[k]) := (hbel.cell (p := ⟨g, o + k, none⟩) hgl).trans (hcj k hp)
      have HS : Hid ((l.take (k + 1)).map by1 = (l.take k).map by1 ++ [by1 l[k]]) := by
        show _ = _
        rw [List.take_succ_eq_append_getElem hp, List.map_append]; rfl
      clear hcj
      generalize l[k] = x at *
      go_wp2_with (at_builtin; refine wpList_append_own _ rfl _ _ 30 rfl w.heap.size 5 i0 (.int .u8 0) 1 1 Tryd.underlying30 hi hz0 hz1 hz2 rfl (by decide) _ _ _ rfl (hown.alloc _) ⟨wr.heap.size, 0, none⟩ 1 1 [by1 x] rfl rfl (cell_one_new _ _ _) (by simp [Value.oneCell']) (by unfold maxLen; omega) (by omega) (by have := hbel.size; simp; omega) ?_; intro v' w4 hown4 hgrow _; have hbel4 : Below w.heap.size w w4 := Below.grown (hbel.alloc (by exact hbel.size) _) hgrow (by have := hbel.size; simp; omega) (fun k hk => (hown.lt k hk).1))
      go_roundw
      case rel => exact ⟨k + 1, by omega, by go_num, by rw [HS.out]; exact hown4, hbel4⟩
      case measure => simp [intOf]; omega
    · obtain rfl : k = l.length := by omega
      rw [List.take_length] at hown
      rename World => w1
      go_wp2
      go_loopw [3, 5] (fun pv iv wr => ∃ k : Nat, k ≤ 16 ∧ iv = .int .i64 k ∧ wr.ownsRow w.heap.size 5 1 pv (l.length + k) ((l ++ mksB k).map by1) ∧ Below w.heap.size w wr) (fun _ iv _ => 16 - (intOf iv).toNat)
      case atStart => exact ⟨0, Nat.zero_le _, rfl, by simpa [mksB] using hown, hbel⟩
      case round =>
        obtain ⟨k, hk2, rfl, hown2, hbel2⟩ := hrel
        by_cases hp2 : k < 16
        · have cm := markB_any k (by omega) (by omega) wr
          have HS : Hid ((l ++ mksB (k + 1)).map by1 = (l ++ mksB k).map by1 ++ [by1 (mkB k)]) := by
            show _ = _
            rw [mksB_succ, ← List.append_assoc, List.map_append]; rfl
          go_wp2_with fail
          refine cm.mono ?_
          rintro e w3 ⟨rfl, hq⟩
          subst w3
          generalize mkB k = ms at *
          go_wp2_with (at_builtin; refine wpList_append_own _ rfl _ _ 30 rfl w.heap.size 5 i0 (.int .u8 0) 1 1 Tryd.underlying30 hi hz0 hz1 hz2 rfl (by decide) _ _ _ rfl (hown2.alloc _) ⟨wr.heap.size, 0, none⟩ 1 1 [by1 ms] rfl rfl (cell_one_new _ _ _) (by simp [Value.oneCell']) (by unfold maxLen; omega) (by omega) (by have := hbel2.size; simp; omega) ?_; intro v' w4 hown4 hgrow _; have hbel4 : Below w.heap.size w w4 := Below.grown (hbel2.alloc (by exact hbel2.size) _) hgrow (by have := hbel2.size; simp; omega) (fun k hk => (hown2.lt k hk).1))
          go_roundw
          case rel => exact ⟨k + 1, by omega, by go_num, by rw [HS.out]; exact hown4, hbel4⟩
          case measure => simp [intOf]; omega
        · obtain rfl : k = 16 := by omega
          go_wp2
          go_ret
          exact ⟨_, rfl, hown2, hbel2⟩

theorem own_posB {w : World} {base n : Nat} {v : Value} {e : TypeId} {xs : List Value} (h : w.ownsRow base e 1 v n xs) (hn : 0 < n) : ∃ g cap, v = .slice (some ⟨g, 0, none⟩) n cap ∧ n ≤ cap ∧ cap ≤ maxLen ∧ base ≤ g ∧ g < w.heap.size := by
  rcases h.2 with ⟨_, h0⟩ | ⟨g, cap, cur, rfl, h1, h2, h3, h4, _⟩
  · omega
  · exact ⟨g, cap, rfl, h3, h4, h1, (Array.getElem?_eq_some_iff.1 h2).1⟩

set_option maxRecDepth 100000 in
set_option maxHeartbeats 1000000 in
theorem lentB_any (v : Value) (l : List UInt8) (w : World) (hR : RdB w v l) (hl : l.length ≤ 140737488351232) :
    Calls Tryd.prog 13 #[v] w fun e w' => ∃ g cap, e = .returned (.slice (some ⟨g, 0, none⟩) l.length cap) ∧ l.length + 16 ≤ cap ∧ cap ≤ maxLen ∧ w'.ownsRow w.heap.size 5 1 (.slice (some ⟨g, 0, none⟩) (l.length + 16) cap) (l.length + 16) ((l ++ mksB 16).map by1) ∧ Below w.heap.size w w' := by
  have c := fullB_any v l w hR hl
  obtain ⟨a, cap0, rfl, hc, hm, hcell⟩ := hR
  unfold maxLen at hm
  clear hcell
  go_enter Tryd.func13, Tryd.ntmps13
  go_wp2_with fail
  refine c.mono ?_
  rintro e w1 ⟨v', rfl, hown, hb⟩
  obtain ⟨g, cap, rfl, h1, h2, h3, h4⟩ := own_posB hown (by omega)
  have h2' := h2
  unfold maxLen at h2
  have HO : Hid (w1.ownsRow w.heap.size 5 1 (.slice (some ⟨g, 0, none⟩) (l.length + 16) cap) (l.length + 16) ((l ++ mksB 16).map by1)) := hown
  clear hown
  go_wp2
  go_ret
  exact ⟨g, cap, rfl, h1, h2', HO.out, hb⟩

theorem row_atB {w : World} {base g cap n : Nat} {e : TypeId} {xs : List Value} (h : w.ownsRow base e 1 (.slice (some ⟨g, 0, none⟩) n cap) n xs) (k : Nat) (hk : k < n) (hx : k < xs.length) : w.cell? ⟨g, k, none⟩ = some xs[k] := by
  rcases h.2 with ⟨h0, _⟩ | ⟨g', cap', cur, hv, h1, h2, h3, h4, h5, h6⟩
  · cases h0
  · simp only [Value.slice.injEq, Option.some.injEq, Addr.mk.injEq, and_true, true_and] at hv
    obtain ⟨rfl, rfl⟩ := hv
    have hc : k < cur.size := by omega
    have e1 : xs[k] = cur[k] := by
      have : xs[k]? = (cur.toList.take (n * 1))[k]? := by rw [h6]
      rw [List.getElem?_eq_getElem hx, List.getElem?_take_of_lt (by omega), Array.getElem?_toList, Array.getElem?_eq_getElem hc] at this
      exact Option.some.inj this
    simp [World.cell?, h2, e1, Array.getElem?_eq_getElem hc]

set_option maxRecDepth 100000 in
set_option maxHeartbeats 2000000 in
theorem keptFullB_any (v : Value) (l : List UInt8) (g cap base : Nat) (w : World) (hR : RdB w v l) (hl : l.length ≤ 140737488351232) (hcap : l.length + 16 ≤ cap) (hcm : cap ≤ maxLen)
    (hown : w.ownsRow base 5 1 (.slice (some ⟨g, 0, none⟩) (l.length + 16) cap) (l.length + 16) ((l ++ mksB 16).map by1)) (hgl : g < w.heap.size) :
    Calls Tryd.prog 39 #[.slice (some ⟨g, 0, none⟩) (l.length + 16) cap, v] w fun e w' => e = .returned (.bool true) ∧ Below w.heap.size w w' := by
  have HX : Hid (∀ j (hj : j < l.length), w.cell? ⟨g, j, none⟩ = some (by1 l[j])) := fun j hj => by
    have := row_atB hown j (by omega) (by simp [mksB_len]; omega)
    rw [this, List.getElem_map, List.getElem_append_left hj]
  have HY : Hid (∀ j, j < 16 → w.cell? ⟨g, l.length + j, none⟩ = some (by1 (mkB j))) := fun j hj => by
    have := row_atB hown (l.length + j) (by omega) (by simp [mksB_len]; omega)
    rw [this]
    simp [List.getElem_append_right, mksB]
  obtain ⟨a, cap0, rfl, hc, hm, hcell⟩ := hR
  unfold maxLen at hm hcm
  have HC : Hid (0 < l.length → ∃ g o, a = some ⟨g, o, none⟩ ∧ g < w.heap.size ∧ ∀ j (hj : j < l.length), w.cell? ⟨g, o + j, none⟩ = some (by1 l[j])) := hcell
  clear hcell hown
  have hlen : (((l.length + 16 : Nat) : Int) != (l.length : Int) + 16) = false := by rw [bne_eq_false_iff_eq]; omega
  go_enter Tryd.func39, Tryd.ntmps39
  go_wp2
  go_loopw [5] (fun iv wr => ∃ k : Nat, k ≤ l.length + 16 ∧ iv = .int .i64 k ∧ Below w.heap.size w wr) (fun iv _ => l.length + 16 - (intOf iv).toNat)
  case atStart => exact ⟨0, Nat.zero_le _, rfl, Below.refl _ _⟩
  case round =>
    obtain ⟨k, hk, rfl, hbel⟩ := hrel
    by_cases hp : k < l.length + 16
    · by_cases hq : k < l.length
      · obtain ⟨g2, o2, rfl, hgl2, hcj⟩ := HC.out (Nat.lt_of_le_of_lt (Nat.zero_le _) hq)
        have cm := markB_any ((k : Int) - (l.length : Int)) (by omega) (by omega) wr
        have hc1 : wr.cell? ⟨g2, o2 + k, none⟩ = some (by1 l[k]) := (hbel.cell (p := ⟨g2, o2 + k, none⟩) hgl2).trans (hcj k hq)
        have hc2 : wr.cell? ⟨g, k, none⟩ = some (by1 l[k]) := (hbel.cell (p := ⟨g, k, none⟩) hgl).trans (HX.out k hq)
        generalize l[k] = x at *
        generalize mkB ((k : Int) - (l.length : Int)) = ms at *
        clear hcj
        go_wp2_with fail
        refine cm.mono ?_
        rintro e w3 ⟨rfl, hq3⟩
        subst w3
        go_wp2
        go_roundw
        case rel => exact ⟨k + 1, by omega, by go_num, hbel⟩
        case measure => simp [intOf]; omega
      · obtain ⟨j, rfl⟩ : ∃ j, k = l.length + j := ⟨k - l.length, by omega⟩
        have ej : ((l.length + j : Nat) : Int) - (l.length : Int) = (j : Int) := by omega
        have cm := markB_any (((l.length + j : Nat) : Int) - (l.length : Int)) (by omega) (by omega) wr
        have hc2 : wr.cell? ⟨g, l.length + j, none⟩ = some (by1 (mkB (((l.length + j : Nat) : Int) - (l.length : Int)))) := by rw [ej]; exact (hbel.cell (p := ⟨g, l.length + j, none⟩) hgl).trans (HY.out j (by omega))
        clear ej
        generalize mkB (((l.length + j : Nat) : Int) - (l.length : Int)) = ms at *
        go_wp2_with fail
        refine cm.mono ?_
        rintro e w3 ⟨rfl, hq3⟩
        subst w3
        go_wp2
        go_roundw
        case rel => exact ⟨l.length + j + 1, by omega, by go_num, hbel⟩
        case measure => simp [intOf]; omega
    · obtain rfl : k = l.length + 16 := by omega
      go_wp2
      go_ret
      exact ⟨rfl, hbel⟩

set_option maxRecDepth 100000 in
set_option maxHeartbeats 1000000 in
theorem keptB_any (v : Value) (l : List UInt8) (g cap base : Nat) (w : World) (hR : RdB w v l) (hl : l.length ≤ 140737488351232) (hcap : l.length + 16 ≤ cap) (hcm : cap ≤ maxLen)
    (hown : w.ownsRow base 5 1 (.slice (some ⟨g, 0, none⟩) (l.length + 16) cap) (l.length + 16) ((l ++ mksB 16).map by1)) (hgl : g < w.heap.size) :
    Calls Tryd.prog 15 #[.slice (some ⟨g, 0, none⟩) l.length cap, v] w fun e w' => e = .returned (.bool true) ∧ Below w.heap.size w w' := by
  have c := keptFullB_any v l g cap base w hR hl hcap hcm hown hgl
  obtain ⟨a, cap0, rfl, hc, hm, hcell⟩ := hR
  unfold maxLen at hm hcm
  clear hcell hown
  have hn : ((l.length : Int) + 16).toNat = l.length + 16 := by omega
  go_enter Tryd.func15, Tryd.ntmps15
  go_wp2_with (first | (simp only [hn]) | fail)
  refine c.mono ?_
  rintro e w1 ⟨rfl, hb⟩
  go_wp2
  go_ret
  exact ⟨rfl, hb⟩

theorem rdB_lent {w : World} {base g cap : Nat} {l : List UInt8} (hown : w.ownsRow base 5 1 (.slice (some ⟨g, 0, none⟩) (l.length + 16) cap) (l.length + 16) ((l ++ mksB 16).map by1)) (hcap : l.length + 16 ≤ cap) (hcm : cap ≤ maxLen) (hgl : g < w.heap.size) :
    RdB w (.slice (some ⟨g, 0, none⟩) l.length cap) l := by
  refine ⟨_, cap, rfl, by omega, hcm, fun _ => ⟨g, 0, rfl, hgl, fun j hj => ?_⟩⟩
  rw [Nat.zero_add]
  have := row_atB hown j (by omega) (by simp [mksB_len]; omega)
  rw [this, List.getElem_map, List.getElem_append_left hj]
end Sm
end Go.Proofs.YtnllplholfhbdaaDoor
