/- Numbers at the beginning of a text, of the program and of the document's answer. -/
import Derived.Test.YtfibcbnhjajdlabDoorUntil
import Derived.Test.YtfibcbnhjajdlabDoorClockP
import Derived.Test.YtfibcbnhjajdlabDoorCut
import Derived.Deep.QuietTactic
namespace Go.Proofs.YtfibcbnhjajdlabDoor
set_option linter.ambiguousOpen false
open Go.RowKit Er Nm
namespace Ck
set_option linter.unusedSimpArgs false
set_option linter.unusedVariables false

theorem capV_snoc (l : List UInt8) (c : UInt8) : capV (l ++ [c]) = capS (capV l) c := by simp [capV]

theorem take_snoc' (l : List UInt8) (k : Nat) (h : k < l.length) : l.take (k + 1) = l.take k ++ [l[k]] := by
  rw [List.take_succ_eq_append_getElem h]

theorem dg_of_take {l : List UInt8} {k : Nat} (hk : k ≤ l.length) (ha : ∀ c ∈ l.take k, isD c = true) (he : ∀ (h : k < l.length), isD l[k] = false) : dg l = l.take k ∧ be l = l.drop k := by
  rcases Nat.lt_or_ge k l.length with h | h
  · have e : l = l.take k ++ l[k] :: l.drop (k + 1) := by
      rw [← List.drop_eq_getElem_cons h, List.take_append_drop]
    have h1 := dg_cut (x := l.drop (k + 1)) ha (he h)
    have h2 := be_cut (x := l.drop (k + 1)) ha (he h)
    rw [← e] at h1 h2
    exact ⟨h1, by rw [h2, ← List.drop_eq_getElem_cons h]⟩
  · have ek : l.take k = l := List.take_of_length_le h
    rw [ek] at ha ⊢
    rw [List.drop_eq_nil_of_le h]
    have := dg_be l
    have h1 : dg l = l := by
      have := List.takeWhile_append_of_pos (l₂ := []) ha
      simpa [dg] using this
    rw [h1] at this
    exact ⟨h1, List.append_cancel_left (this.trans (List.append_nil l).symm)⟩

theorem extract_mid (l : List UInt8) (f k : Nat) : (B l).extract f k = B ((l.drop f).take (k - f)) := by
  apply ByteArray.ext
  apply Array.toList_inj.1
  rw [ByteArray.data_extract]
  simp [B, List.extract_eq_take_drop]

set_option maxRecDepth 100000 in
set_option maxHeartbeats 1000000 in
theorem number_l (l : List UInt8) (w : World) (hl : l.length ≤ maxLen) :
    Calls Tryd.prog 40 #[.string (B l)] w fun e w' => e = .returned (.tuple #[.int .i64 (numN l), .string (B (be l))]) ∧ ∃ n, w' = w.drewN n := by
  have hsz : (B l).size = l.length := rfl
  unfold maxLen at hl
  go_enter Tryd.func40, Tryd.ntmps40
  go_wp2
  go_loop [2, 7] (fun n i => ∃ k : Nat, k ≤ l.length ∧ i = .int .i64 k ∧ n = .int .i64 (capV (l.take k)) ∧ Hid (∀ c ∈ l.take k, isD c = true)) (fun _ i => l.length - (intOf i).toNat)
  case atStart => exact ⟨0, Nat.zero_le _, rfl, rfl, fun c hc => by simp at hc⟩
  case round =>
    obtain ⟨k, hk, rfl, rfl, HA⟩ := hrel
    have hcv := capV_le (l.take k)
    obtain ⟨v, HV⟩ : ∃ v, Hid (capV (l.take k) = v) := ⟨_, rfl⟩
    rw [HV.out] at hcv ⊢
    by_cases hlt : k < l.length
    · have HS : Hid (capV (l.take (k + 1)) = capS v l[k]) := by
        show _ = _
        rw [take_snoc' l k hlt, capV_snoc, HV.out]
      have HT : Hid (l.take (k + 1) = l.take k ++ [l[k]]) := take_snoc' l k hlt
      have h256 : ((B l)[k]'hlt).toNat < 256 := UInt8.toNat_lt _
      by_cases hd : 48 ≤ (((B l)[k]'hlt).toNat : Int) ∧ (((B l)[k]'hlt).toNat : Int) ≤ 57
      · obtain ⟨d1, d2⟩ := hd
        go_wp2
        go_round
        case rel =>
          refine ⟨k + 1, by omega, by go_num, ?_, fun c hc => ?_⟩
          · rw [HS.out]
            have e : ((B l)[k]'hlt).toNat = l[k].toNat := rfl
            unfold capS
            congr 1
            split <;> omega
          · rw [HT.out] at hc
            rcases List.mem_append.1 hc with hc | hc
            · exact HA.out c hc
            · simp only [List.mem_singleton] at hc
              subst hc
              have e : ((B l)[k]'hlt).toNat = l[k].toNat := rfl
              rw [e] at d1 d2
              unfold isD
              simp; omega
        case measure => simp [intOf]; omega
      · have HN : Hid (isD l[k] = false) := by
          show _ = _
          have e : ((B l)[k]'hlt).toNat = l[k].toNat := rfl
          rw [e] at hd
          unfold isD
          rw [Bool.eq_false_iff]
          intro q
          simp only [Bool.and_eq_true, decide_eq_true_eq] at q
          exact hd (by omega)
        have HR : Hid (numN l = v ∧ B (be l) = (B l).extract k l.length) := by
          obtain ⟨q1, q2⟩ := dg_of_take hk HA.out (fun _ => HN.out)
          refine ⟨by unfold numN; rw [q1, HV.out], ?_⟩
          rw [q2, extract_mid, List.take_of_length_le (by simp)]
        by_cases d1 : 48 ≤ (((B l)[k]'hlt).toNat : Int)
        · have d2 : 57 < (((B l)[k]'hlt).toNat : Int) := by omega
          have d3 : decide ((((B l)[k]'hlt).toNat : Int) < 48) = false := by simp; omega
          clear hd
          go_wp2
          go_quiet (fail)
          go_wp2
          go_ret2
          rw [HR.out.1, HR.out.2]
          exact ⟨rfl, _, rfl⟩
        · have d3 : (((B l)[k]'hlt).toNat : Int) < 48 := by omega
          clear hd
          go_wp2
          go_quiet (fail)
          go_wp2
          go_ret2
          rw [HR.out.1, HR.out.2]
          exact ⟨rfl, _, rfl⟩
    · have HR : Hid (numN l = v ∧ B (be l) = ⟨#[]⟩) := by
        obtain rfl : k = l.length := by omega
        obtain ⟨q1, q2⟩ := dg_of_take hk HA.out (fun h => absurd h hlt)
        refine ⟨by unfold numN; rw [q1, HV.out], ?_⟩
        rw [q2, List.drop_length]; rfl
      go_wp2
      go_ret2
      rw [HR.out.1, HR.out.2]
      exact ⟨rfl, 0, rfl⟩
end Ck
end Go.Proofs.YtfibcbnhjajdlabDoor
