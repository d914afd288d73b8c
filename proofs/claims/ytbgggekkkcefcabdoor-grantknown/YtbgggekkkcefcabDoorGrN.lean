/- The document's Name alone (out of names/Ref). -/
import Derived.Test.YtbgggekkkcefcabDoorCut
namespace Go.Proofs.YtbgggekkkcefcabDoor
open Go.RowKit
namespace Nm

set_option maxRecDepth 1000000 in
set_option maxHeartbeats 1000000 in
theorem rname_any (s : ByteArray) (w : World) (hs : s.size ≤ maxLen) :
    Calls Tryd.prog 45 #[.string s] w fun e w' => e = .returned (.bool (nameB s.data.toList)) ∧ w' = w := by
  unfold maxLen at hs
  have hlen : s.data.toList.length = s.size := rfl
  by_cases h0 : s.size = 0
  · have HN : Hid (nameB s.data.toList = false) := by
      show nameB s.data.toList = false
      rw [List.length_eq_zero_iff.1 (hlen.trans h0)]; rfl
    clear hlen
    go_enter Tryd.func45, Tryd.ntmps45
    go_wp2
    go_ret
    exact ⟨ret_bool HN.out.symm, rfl⟩
  · by_cases h32 : 32 < s.size
    · have HN : Hid (nameB s.data.toList = false) := by
        show nameB s.data.toList = false
        unfold nameB; simp; omega
      clear hlen
      go_enter Tryd.func45, Tryd.ntmps45
      go_wp2
      go_ret
      exact ⟨ret_bool HN.out.symm, rfl⟩
    · clear hlen
      go_enter Tryd.func45, Tryd.ntmps45
      go_wp2
      go_loop [3] (fun i => ∃ k : Nat, k ≤ s.size ∧ i = .int .i64 k ∧ Hid (∀ j (hj : j < s.size), j < k → letterB (s.data.toList[j]'hj) = true ∨ (j ≠ 0 ∧ moreB (s.data.toList[j]'hj) = true))) (fun i => s.size - (intOf i).toNat)
      case atStart => exact ⟨0, Nat.zero_le _, rfl, fun j hj h => by omega⟩
      case round =>
        obtain ⟨k, hk, rfl, hok⟩ := hrel
        by_cases hp : k < s.size
        · obtain ⟨n, hc⟩ : ∃ n : Int, ((s[k]'hp).toNat : Int) = n := ⟨_, rfl⟩
          have hn0 : 0 ≤ n := by omega
          have hn1 : n ≤ 255 := by have := (s[k]'hp).toNat_lt; omega
          have eL : letterB (s.data.toList[k]'hp) = opensB n := by rw [← hc]; exact (opensB_byte _).symm
          have eM : moreB (s.data.toList[k]'hp) = followsB n := by rw [← hc]; exact (followsB_byte _).symm
          have HL : Hid (letterB (s.data.toList[k]'hp) = opensB n) := eL
          have HM : Hid (moreB (s.data.toList[k]'hp) = followsB n) := eM
          clear eL eM
          by_cases c1 : 97 ≤ n ∧ n ≤ 122
          · obtain ⟨c1a, c1b⟩ := c1
            have HO : Hid (letterB (s.data.toList[k]'hp) = true ∨ (k ≠ 0 ∧ moreB (s.data.toList[k]'hp) = true)) := by
              left; rw [HL.out]; simp [opensB]; omega
            clear HL HM
            go_wp2
            go_round
            case rel =>
              refine ⟨k + 1, by omega, by go_num, fun j hj h => ?_⟩
              rcases Nat.lt_or_ge j k with h' | h'
              · exact hok.out j hj h'
              · have : j = k := by omega
                subst this; exact HO.out
            case measure => simp [intOf]; omega
          have gL : Hid (letterB (s.data.toList[k]'hp) = false) := by rw [HL.out]; show opensB n = false; simp [opensB]; omega
          by_cases hz : k = 0
          · have hzb : ((k : Int) == 0) = true := by rw [beq_iff_eq]; omega
            have HN : Hid (nameB s.data.toList = false) := nameB_no k hp gL.out (Or.inl hz)
            clear HL HM gL hz
            by_cases c2 : n < 97
            · clear c1
              go_wp2
              go_ret
              exact ⟨ret_bool HN.out.symm, rfl⟩
            · have c3 : 122 < n := by omega
              have c4 : 97 ≤ n := by omega
              have d1 : decide (n ≤ 122) = false := by simp; omega
              clear c1
              go_wp2
              go_ret
              exact ⟨ret_bool HN.out.symm, rfl⟩
          · have hzb : ((k : Int) == 0) = false := by rw [beq_eq_false_iff_ne]; omega
            by_cases c2 : 48 ≤ n ∧ n ≤ 57
            · obtain ⟨c2a, c2b⟩ := c2
              have HO : Hid (letterB (s.data.toList[k]'hp) = true ∨ (k ≠ 0 ∧ moreB (s.data.toList[k]'hp) = true)) := by
                right; refine ⟨hz, ?_⟩; rw [HM.out]; simp [followsB]; omega
              clear HL HM gL c1 hz
              go_wp2
              go_round
              case rel =>
                refine ⟨k + 1, by omega, by go_num, fun j hj h => ?_⟩
                rcases Nat.lt_or_ge j k with h' | h'
                · exact hok.out j hj h'
                · have : j = k := by omega
                  subst this; exact HO.out
              case measure => simp [intOf]; omega
            by_cases c3 : n = 45
            · have HO : Hid (letterB (s.data.toList[k]'hp) = true ∨ (k ≠ 0 ∧ moreB (s.data.toList[k]'hp) = true)) := by
                right; refine ⟨hz, ?_⟩; rw [HM.out]; simp [followsB, c3]
              subst c3
              clear HL HM gL c1 hz c2
              go_wp2
              go_round
              case rel =>
                refine ⟨k + 1, by omega, by go_num, fun j hj h => ?_⟩
                rcases Nat.lt_or_ge j k with h' | h'
                · exact hok.out j hj h'
                · have : j = k := by omega
                  subst this; exact HO.out
              case measure => simp [intOf]; omega
            by_cases c4 : n = 95
            · have HO : Hid (letterB (s.data.toList[k]'hp) = true ∨ (k ≠ 0 ∧ moreB (s.data.toList[k]'hp) = true)) := by
                right; refine ⟨hz, ?_⟩; rw [HM.out]; simp [followsB, c4]
              subst c4
              clear HL HM gL c1 hz c2 c3
              go_wp2
              go_round
              case rel =>
                refine ⟨k + 1, by omega, by go_num, fun j hj h => ?_⟩
                rcases Nat.lt_or_ge j k with h' | h'
                · exact hok.out j hj h'
                · have : j = k := by omega
                  subst this; exact HO.out
              case measure => simp [intOf]; omega
            have HN : Hid (nameB s.data.toList = false) := by
              refine nameB_no k hp gL.out (Or.inr ?_)
              rw [HM.out]; simp [followsB]; omega
            have b3 : (n != 45) = true := by simp [c3]
            have b4 : (n != 95) = true := by simp [c4]
            by_cases c5 : n < 48
            · clear HL HM gL c1 hz c2 c3 c4
              go_wp2
              go_ret
              exact ⟨ret_bool HN.out.symm, rfl⟩
            by_cases c6 : n < 97
            · have c7 : 57 < n := by omega
              have c8 : 48 ≤ n := by omega
              clear HL HM gL c1 hz c2 c3 c4
              go_wp2
              go_ret
              exact ⟨ret_bool HN.out.symm, rfl⟩
            · have c7 : 57 < n := by omega
              have c8 : 48 ≤ n := by omega
              have c9 : 122 < n := by omega
              have c10 : 97 ≤ n := by omega
              have d1 : decide (n ≤ 122) = false := by simp; omega
              clear HL HM gL c1 hz c2 c3 c4
              go_wp2
              go_ret
              exact ⟨ret_bool HN.out.symm, rfl⟩
        · have HN : Hid (nameB s.data.toList = true) := by
            have g := (wordB_iff s.data.toList).2 (fun j hj => hok.out j hj (Nat.lt_of_lt_of_le hj (Nat.le_of_not_lt hp)))
            have : s.data.toList.length = s.size := rfl
            show nameB s.data.toList = true
            unfold nameB; rw [g]; simp; omega
          go_wp2
          go_ret
          exact ⟨ret_bool HN.out.symm, rfl⟩
end Nm
end Go.Proofs.YtbgggekkkcefcabDoor
