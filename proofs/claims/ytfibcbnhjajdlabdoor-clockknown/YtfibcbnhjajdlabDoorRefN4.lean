/- The document's answer: a number in a text. -/
import Derived.Test.YtfibcbnhjajdlabDoorPartsC
namespace Go.Proofs.YtfibcbnhjajdlabDoor
set_option linter.ambiguousOpen false
open Go.RowKit Er Nm
namespace Ck
set_option linter.unusedSimpArgs false
set_option linter.unusedVariables false

/-- The i-th byte of a text. -/
def byI (l : List UInt8) (i : Nat) : Int := ((l.getD i 0).toNat : Int)

theorem idx_at (l : List UInt8) (i : Nat) (h : i < l.length) (w : World) : (Instr.index 9 (.string (B l)) (.int .i64 (i : Int))).run Tryd.prog w = .ok (.int .u8 (byI l i)) w := by
  have hs : (B l).size = l.length := rfl
  rw [run_index_string w 9 (B l) .i64 i Tryd.underlying9, dif_pos ⟨by omega, by omega⟩]
  have e : ((i : Int)).toNat = i := by omega
  unfold byI
  rw [List.getD_eq_getElem?_getD, List.getElem?_eq_getElem h]
  simp only [e]
  rfl

theorem byI_lt (l : List UInt8) (i : Nat) : 0 ≤ byI l i ∧ byI l i < 256 := by
  unfold byI
  have := UInt8.toNat_lt (l.getD i 0)
  omega

theorem byI_isD (l : List UInt8) (i : Nat) : isD (l.getD i 0) = (decide (48 ≤ byI l i) && decide (byI l i ≤ 57)) := by
  unfold isD byI
  congr 1
  · rw [decide_eq_decide]; omega
  · rw [decide_eq_decide]; omega

theorem drop_getD (l : List UInt8) (a k : Nat) (h : a + k < l.length) : (l.drop a)[k]'(by simp; omega) = l.getD (a + k) 0 := by
  rw [List.getElem_drop, List.getD_eq_getElem?_getD, List.getElem?_eq_getElem h]; rfl

set_option maxRecDepth 100000 in
set_option maxHeartbeats 2000000 in
theorem rnumber_c (l : List UInt8) (a : Nat) (w : World) (hl : l.length ≤ maxLen) (ha : a < l.length) :
    Calls Tryd.prog 46 #[.string (B l), .int .i64 a] w fun e w' => e = .returned (.tuple #[.int .i64 (numN (l.drop a)), .int .i64 ((a + (dg (l.drop a)).length : Nat) : Int), .bool (!badH (l.drop a))]) ∧ ∃ n, w' = w.drewN n := by
  have hsz : (B l).size = l.length := rfl
  unfold maxLen at hl
  go_enter Tryd.func46, Tryd.ntmps46
  go_wp2
  go_loop [7, 8] (fun n i => ∃ k : Nat, a + k ≤ l.length ∧ i = .int .i64 ((a + k : Nat) : Int) ∧ n = .int .i64 (capV ((l.drop a).take k)) ∧ Hid (∀ c ∈ (l.drop a).take k, isD c = true)) (fun _ i => l.length - (intOf i).toNat)
  case atStart => exact ⟨0, by omega, rfl, rfl, fun c hc => by simp at hc⟩
  case round =>
    obtain ⟨k, hk, rfl, rfl, HA⟩ := hrel
    have hcv := capV_le ((l.drop a).take k)
    obtain ⟨v, HV⟩ : ∃ v : Int, Hid ((capV ((l.drop a).take k) : Int) = v) := ⟨_, rfl⟩
    have hv0 : 0 ≤ v := by have := HV.out; omega
    have hv1 : v ≤ 1099511627777 := by have := HV.out; omega
    rw [HV.out]
    clear hcv
    obtain ⟨i, hi⟩ : ∃ i, a + k = i := ⟨_, rfl⟩
    have HI : Hid (a + k = i) := hi
    rw [hi] at hk ⊢
    clear hi
    by_cases hd : i < l.length ∧ isD (l.getD i 0) = true
    · obtain ⟨hlt, hdi⟩ := hd
      have ix := idx_at l i hlt
      have hby := byI_lt l i
      rw [byI_isD] at hdi
      simp only [Bool.and_eq_true, decide_eq_true_eq] at hdi
      have HS : Hid (capV ((l.drop a).take (k + 1)) = capS (capV ((l.drop a).take k)) (l.getD i 0)) := by
        show _ = _
        have h2 : k < (l.drop a).length := by simp; have := HI.out; omega
        rw [take_snoc' _ k h2, capV_snoc, drop_getD l a k (by have := HI.out; omega), HI.out]
      have HT : Hid (∀ c ∈ (l.drop a).take (k + 1), isD c = true) := by
        intro c hc
        have h2 : k < (l.drop a).length := by simp; have := HI.out; omega
        rw [take_snoc' _ k h2, drop_getD l a k (by have := HI.out; omega), HI.out] at hc
        rcases List.mem_append.1 hc with hc | hc
        · exact HA.out c hc
        · simp only [List.mem_singleton] at hc
          rw [hc, byI_isD]; simp; omega
      obtain ⟨x, HX⟩ : ∃ x, Hid (byI l i = x) := ⟨_, rfl⟩
      rw [HX.out] at ix hby hdi
      obtain ⟨d1, d2⟩ := hdi
      go_wp2
      go_round
      case rel =>
        refine ⟨k + 1, by have := HI.out; omega, by have := HI.out; go_num, ?_, HT⟩
        rw [HS.out]
        have h1 := HV.out
        have h2 := HX.out
        unfold byI at h2
        unfold capS
        congr 1
        split <;> omega
      case measure => simp [intOf]; omega
    · have HR : Hid (dg (l.drop a) = (l.drop a).take k) := by
        refine (dg_of_take (by simp; have := HI.out; omega) HA.out (fun h => ?_)).1
        have h3 : a + k < l.length := by simp at h; omega
        rw [drop_getD l a k h3, HI.out]
        cases q : isD (l.getD i 0) with
        | false => rfl
        | true => exact absurd ⟨by have := HI.out; omega, q⟩ hd
      have HN : Hid ((numN (l.drop a) : Int) = v) := by
        show _ = _
        unfold numN; rw [HR.out]; exact HV.out
      have HK : Hid (a + (dg (l.drop a)).length = i) := by
        show _ = _
        rw [HR.out, List.length_take, List.length_drop]; have := HI.out; omega
      have hai : a ≤ i := by have := HI.out; omega
      have HB : Hid (badH (l.drop a) = (decide (byI l a < 49) || decide (57 < byI l a))) := by
        show _ = _
        rw [hdI_bad]
        have e : hdI (l.drop a) = byI l a := by
          unfold hdI byI
          rw [headD_get _ (by simp; omega), drop_getD l a 0 (by omega)]; rfl
        rw [e]
      have HD0 : Hid (a < i → 48 ≤ byI l a ∧ byI l a ≤ 57) := by
        intro hlt
        have h2 : 0 < (l.drop a).length := by simp; omega
        have h3 : (l.drop a)[0]'h2 ∈ (l.drop a).take k := by
          have hk0 : 0 < k := by have := HI.out; omega
          rw [List.mem_take_iff_getElem]
          exact ⟨0, by simp; omega, rfl⟩
        have h4 := HA.out _ h3
        rw [drop_getD l a 0 (by omega), Nat.add_zero, byI_isD] at h4
        simpa using h4
      have ia := idx_at l a ha
      have HD1 : Hid (¬ a < i → byI l a < 48 ∨ 57 < byI l a) := by
        intro hna
        have hia : i = a := by omega
        have q : isD (l.getD a 0) = false := by
          cases q : isD (l.getD a 0) with
          | false => rfl
          | true => exact absurd ⟨by omega, by rw [hia]; exact q⟩ hd
        rw [byI_isD] at q
        by_cases h48 : 48 ≤ byI l a
        · right
          simp [h48] at q
          exact q
        · left; omega
      obtain ⟨y, HY⟩ : ∃ y, Hid (byI l a = y) := ⟨_, rfl⟩
      rw [HY.out] at ia HB HD0 HD1
      have hway : (¬ i < l.length) ∨ (i < l.length ∧ byI l i < 48) ∨ (i < l.length ∧ 48 ≤ byI l i ∧ 57 < byI l i) := by
        by_cases h1 : i < l.length
        · by_cases h2 : 48 ≤ byI l i
          · right; right
            refine ⟨h1, h2, ?_⟩
            rcases Int.lt_or_le 57 (byI l i) with q | q
            · exact q
            · exact absurd ⟨h1, by rw [byI_isD]; simp [h2, q]⟩ hd
          · right; left; exact ⟨h1, by omega⟩
        · left; exact h1
      have hrest : (a < i ∧ y = 48) ∨ (a < i ∧ y ≠ 48) ∨ ¬ a < i := by
        by_cases h1 : a < i
        · by_cases h2 : y = 48
          · exact .inl ⟨h1, h2⟩
          · exact .inr (.inl ⟨h1, h2⟩)
        · exact .inr (.inr h1)
      clear hd
      rcases hrest with ⟨g1, rfl⟩ | ⟨g1, g2⟩ | g1
      · have HO : Hid ((!badH (l.drop a)) = false) := by show _ = _; rw [HB.out]; rfl
        rcases hway with h1 | ⟨h1, h2⟩ | ⟨h1, h2, h3⟩
        · go_wp2
          go_quiet (fail)
          go_wp2
          go_ret3
          rw [HN.out, HK.out, HO.out]
          exact ⟨rfl, _, rfl⟩
        · have ix := idx_at l i h1
          obtain ⟨x, HX⟩ : ∃ x, Hid (byI l i = x) := ⟨_, rfl⟩
          rw [HX.out] at ix h2
          have h2d : decide (48 ≤ x) = false := by simp; omega
          go_wp2
          go_quiet (fail)
          go_wp2
          go_ret3
          rw [HN.out, HK.out, HO.out]
          exact ⟨rfl, _, rfl⟩
        · have ix := idx_at l i h1
          obtain ⟨x, HX⟩ : ∃ x, Hid (byI l i = x) := ⟨_, rfl⟩
          rw [HX.out] at ix h2 h3
          have h3d : decide (x ≤ 57) = false := by simp; omega
          go_wp2
          go_quiet (fail)
          go_wp2
          go_ret3
          rw [HN.out, HK.out, HO.out]
          exact ⟨rfl, _, rfl⟩
      · have HO : Hid ((!badH (l.drop a)) = true) := by
          show _ = _
          have := HD0.out g1
          rw [HB.out]; simp; omega
        have gy : (y != 48) = true := by simpa using g2
        clear g2
        rcases hway with h1 | ⟨h1, h2⟩ | ⟨h1, h2, h3⟩
        · go_wp2
          go_quiet (fail)
          go_wp2
          go_ret3
          rw [HN.out, HK.out, HO.out]
          exact ⟨rfl, _, rfl⟩
        · have ix := idx_at l i h1
          obtain ⟨x, HX⟩ : ∃ x, Hid (byI l i = x) := ⟨_, rfl⟩
          rw [HX.out] at ix h2
          have h2d : decide (48 ≤ x) = false := by simp; omega
          go_wp2
          go_quiet (fail)
          go_wp2
          go_ret3
          rw [HN.out, HK.out, HO.out]
          exact ⟨rfl, _, rfl⟩
        · have ix := idx_at l i h1
          obtain ⟨x, HX⟩ : ∃ x, Hid (byI l i = x) := ⟨_, rfl⟩
          rw [HX.out] at ix h2 h3
          have h3d : decide (x ≤ 57) = false := by simp; omega
          go_wp2
          go_quiet (fail)
          go_wp2
          go_ret3
          rw [HN.out, HK.out, HO.out]
          exact ⟨rfl, _, rfl⟩
      · have HO : Hid ((!badH (l.drop a)) = false) := by
          show _ = _
          have := HD1.out g1
          rw [HB.out]; simp; omega
        have gd : decide (a < i) = false := by simpa using g1
        have gj : decide ((a : Int) < (i : Int)) = false := by simp; omega
        rcases hway with h1 | ⟨h1, h2⟩ | ⟨h1, h2, h3⟩
        · go_wp2
          go_quiet (fail)
          go_wp2
          go_ret3
          rw [HN.out, HK.out, HO.out]
          exact ⟨rfl, _, rfl⟩
        · have ix := idx_at l i h1
          obtain ⟨x, HX⟩ : ∃ x, Hid (byI l i = x) := ⟨_, rfl⟩
          rw [HX.out] at ix h2
          have h2d : decide (48 ≤ x) = false := by simp; omega
          go_wp2
          go_quiet (fail)
          go_wp2
          go_ret3
          rw [HN.out, HK.out, HO.out]
          exact ⟨rfl, _, rfl⟩
        · have ix := idx_at l i h1
          obtain ⟨x, HX⟩ : ∃ x, Hid (byI l i = x) := ⟨_, rfl⟩
          rw [HX.out] at ix h2 h3
          have h3d : decide (x ≤ 57) = false := by simp; omega
          go_wp2
          go_quiet (fail)
          go_wp2
          go_ret3
          rw [HN.out, HK.out, HO.out]
          exact ⟨rfl, _, rfl⟩
end Ck
end Go.Proofs.YtfibcbnhjajdlabDoor
