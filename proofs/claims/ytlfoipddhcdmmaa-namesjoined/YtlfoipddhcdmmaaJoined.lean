/- The walk of the law NamesJoined. -/
import Derived.Test.YtlfoipddhcdmmaaWorks
import Derived.Test.YtlfoipddhcdmmaaJoin
import Derived.Test.YtlfoipddhcdmmaaSame
import Derived.Deep.CutRange
import Derived.Deep.DeepCutAuto
namespace Go.Proofs.Ytlfoipddhcdmmaa
open Go.RowKit
namespace Nm

theorem rd_slice {w : World} {v : Value} {ps : List (List UInt8)} (h : Rd w v ps) : ∃ a cap, v = .slice a ps.length cap ∧ ps.length ≤ cap ∧ cap ≤ maxLen := by
  obtain ⟨a, cap, h1, h2, h3, _⟩ := h
  exact ⟨a, cap, h1, h2, h3⟩

theorem drewN_below (w : World) (n : Nat) : Below w.heap.size w (w.drewN n) := below_drewN (Below.refl _ _) n

theorem name_short {p : List UInt8} (h : nameB p = true) : p.length ≤ 32 := by
  unfold nameB at h; simp only [Bool.and_eq_true, decide_eq_true_eq] at h; exact h.1.2

theorem join_len (ps : List (List UInt8)) (h : ∀ p ∈ ps, p.length ≤ 32) : (joinL ps).length ≤ 33 * ps.length := by
  induction ps with
  | nil => simp [joinL]
  | cons p ps ih =>
    have h1 := h p (by simp)
    have h2 := ih (fun q hq => h q (by simp [hq]))
    cases ps with
    | nil => simp [joinL]; omega
    | cons q qs => simp [joinL] at h2 ⊢; omega

theorem B_append (x y : List UInt8) : B x ++ B y = B (x ++ y) := ByteArray.mk_append_mk x y
theorem B_dot : (ByteArray.mk #[46]) = B [46] := rfl

set_option maxRecDepth 1000000 in
set_option maxHeartbeats 4000000 in
theorem namesJoined_walk (a b : List UInt8) (w : World) (ha : a.length ≤ maxLen) (hb : b.length ≤ maxLen) :
    Calls Try.prog 6 #[.string (B a), .string (B b)] w fun e w' => e = .returned (.bool true) ∧ Below w.heap.size w w' := by
  have HA : Hid (a.length ≤ maxLen) := ha
  have HB : Hid (b.length ≤ maxLen) := hb
  clear ha hb
  by_cases h1 : 65536 < (B a).size
  · go_enter Try.func6, Try.ntmps6
    go_wp2_with (go_at_call 21; refine (works_l _).mono ?_; rintro e w1 ⟨rfl, q1⟩)
    go_ret
    exact ⟨rfl, q1⟩
  by_cases h2 : 65536 < (B b).size
  · go_enter Try.func6, Try.ntmps6
    go_wp2_with (go_at_call 21; refine (works_l _).mono ?_; rintro e w1 ⟨rfl, q1⟩)
    go_ret
    exact ⟨rfl, q1⟩
  have h1i : ((B a).size : Int) ≤ 65536 := by omega
  have h2i : ((B b).size : Int) ≤ 65536 := by omega
  go_enter Try.func6, Try.ntmps6
  go_wp2_with fail
  refine (works_l _).mono ?_
  rintro e w1 ⟨rfl, q1⟩
  go_upto_region 5 with fail
  go_cut [36] from 12 (fun r wr => r = .bool false ∧ Below w.heap.size w wr)
  case first =>
    cases hn : nameB a with
    | false =>
      go_wp2_with fail
      refine (name_l _ _ HA.out).mono ?_
      rintro e w2 ⟨rfl, q2⟩
      go_wp2_with fail
      go_meet
      exact ⟨rfl, below_then q1 q2⟩
    | true =>
      have hd := name_dotted hn
      have HP : Hid (partsL a = [a]) := name_parts hn
      go_wp2_with fail
      refine (name_l _ _ HA.out).mono ?_
      rintro e w2 ⟨rfl, q2⟩
      go_wp2_with fail
      refine (dotted_l _ _ HA.out).mono ?_
      rintro e w3 ⟨rfl, q3⟩
      go_wp2_with fail
      refine (parts_l _ _ HA.out).mono ?_
      rintro e w4 ⟨v, rfl, hown, q4⟩
      have hrd := rd_own hown
      rw [HP.out] at hrd
      clear hown
      go_wp2_with fail
      refine (same_l _ _ [a] [a] _ (hrd.below ((Below.refl _ _).alloc (Nat.le_refl _) _)) (rd_one _ _)).mono ?_
      rintro e w5 ⟨rfl, n, rfl⟩
      have et : decide ([a] = [a]) = true := by simp
      go_wp2_with fail
      go_meet
      exact ⟨rfl, below_drewN (Below.alloc (below_then (below_then (below_then q1 q2) q3) q4) (by have := (below_then (below_then (below_then q1 q2) q3) q4).size; omega) _) _⟩
  case rest =>
    obtain ⟨rfl, hbel⟩ := hcut
    go_wp2_with fail
    refine (parts_l _ _ HA.out).mono ?_
    rintro e w2 ⟨v2, rfl, hown2, q2⟩
    have hx := rd_own hown2
    clear hown2
    go_wp2_with fail
    refine (parts_l _ _ HB.out).mono ?_
    rintro e w3 ⟨v3, rfl, hown3, q3⟩
    have hy := rd_own hown3
    have hx := hx.below q3
    clear hown3
    have hbel := below_then (below_then hbel q2) q3
    clear q1 q2 q3
    obtain ⟨a2, cap2, rfl, hcap2, hm2, hcx⟩ := hx
    obtain ⟨a3, cap3, rfl, hcap3, hm3, _⟩ := hy
    unfold maxLen at hm2 hm3
    have HX : Hid (0 < (partsL a).length → ∃ g, a2 = some ⟨g, 0, none⟩ ∧ g < w3.heap.size ∧ ∀ j (hj : j < (partsL a).length), w3.cell? ⟨g, j, none⟩ = some (.string (B (partsL a)[j]))) := hcx
    clear hcx
    go_upto_region 9 with fail
    go_cut [54] from 12 (fun r wr => r = .bool false ∧ Below w.heap.size w wr ∧ Below w3.heap.size w3 wr)
    case first =>
      have ea := parts_dotted a
      have eb := parts_dotted b
      have EA : Hid (dottedB a = decide (0 < (partsL a).length)) := ea
      have EB : Hid (dottedB b = decide (0 < (partsL b).length)) := eb
      clear ea eb
      go_wp2_with fail
      refine (dotted_l _ _ HA.out).mono ?_
      rintro e w4 ⟨rfl, q4⟩
      rw [EA.out]
      go_wp2_with fail
      refine (dotted_l _ _ HB.out).mono ?_
      rintro e w5 ⟨rfl, q5⟩
      rw [EB.out]
      go_wp2_with fail
      go_meet
      exact ⟨rfl, below_then (below_then hbel q4) q5, below_then q4 q5⟩
    case rest =>
      obtain ⟨rfl, hbel', hb3⟩ := hcut
      clear hbel
      have HN : Hid (∀ p ∈ partsL a, nameB p = true) := parts_name a
      have HS : Hid (∀ p ∈ partsL a, p.length ≤ maxLen) := fun p hp => Nat.le_trans (part_le a p hp) HA.out
      have HJ : Hid (dottedB a = true → joinL (partsL a) = a) := fun h => join_parts h
      have HD : Hid (dottedB a = decide (0 < (partsL a).length)) := parts_dotted a
      have HD2 : Hid (dottedB (a ++ 46 :: b) = (decide (0 < (partsL a).length) && decide (0 < (partsL b).length) && decide ((partsL a).length + (partsL b).length ≤ 4))) := dotted_two a b
      have ca : Hid ((partsL a).length ≤ 4) := parts_count a
      have cb : Hid ((partsL b).length ≤ 4) := parts_count b
      generalize partsL a = ps at *
      generalize partsL b = qs at *
      go_wp2_with fail
      go_loopw [7] (fun i wr => ∃ k : Nat, k ≤ ps.length ∧ i = .int .i64 k ∧ Below w.heap.size w wr ∧ Below w3.heap.size w3 wr) (fun i _ => ps.length - (intOf i).toNat)
      case atStart => exact ⟨0, Nat.zero_le _, rfl, hbel', hb3⟩
      case round =>
        clear hb3 hbel'
        obtain ⟨k, hk, rfl, hbel, hb3⟩ := hrel
        by_cases hp : k < ps.length
        · obtain ⟨g, rfl, hg, hcx⟩ := HX.out (by omega)
          have hc : wr.cell? ⟨g, k, none⟩ = some (.string (B ps[k])) := (hb3.cell (p := ⟨g, k, none⟩) hg).trans (hcx k hp)
          have hn : nameB ps[k] = true := HN.out _ (List.getElem_mem _)
          have HL : Hid ((ps[k]).length ≤ maxLen) := HS.out _ (List.getElem_mem _)
          clear hcx
          go_wp2_with (go_at_call 11; refine (name_l _ _ HL.out).mono ?_; rintro e w5 ⟨rfl, q5⟩)
          go_roundw
          case rel => exact ⟨k + 1, by omega, by go_num, below_then hbel q5, below_then hb3 q5⟩
          case measure => simp [intOf]; omega
        · go_wp2_with fail
          go_loop [8, 9] (fun s i => ∃ k : Nat, k ≤ ps.length ∧ i = .int .i64 k ∧ s = .string (B (joinL (ps.take k)))) (fun _ i => ps.length - (intOf i).toNat)
          case atStart => exact ⟨0, Nat.zero_le _, rfl, rfl⟩
          case round =>
            clear hp hk
            obtain ⟨m, hm, rfl, rfl⟩ := hrel
            have hsz : (B (joinL (ps.take m))).size ≤ 132 := by
              have h := join_len (ps.take m) (fun p hp => name_short (HN.out p (List.mem_of_mem_take hp)))
              have h2 := ca.out
              have h3 : (ps.take m).length ≤ 4 := by rw [List.length_take]; omega
              rw [B_size]; omega
            by_cases hp : m < ps.length
            · obtain ⟨g, rfl, hg, hcx⟩ := HX.out (by omega)
              have hc : wr.cell? ⟨g, m, none⟩ = some (.string (B ps[m])) := (hb3.cell (p := ⟨g, m, none⟩) hg).trans (hcx m hp)
              have hsz2 : (B ps[m]).size ≤ 32 := name_short (HN.out _ (List.getElem_mem _))
              clear hcx
              rcases Nat.eq_zero_or_pos m with h0 | h0
              · subst h0
                have HE : Hid (B (joinL (ps.take 0)) ++ B ps[0] = B (joinL (ps.take 1))) := by
                  rw [B_append, join_first ps hp]; exact rfl
                generalize B ps[0] = x at *
                generalize B (joinL (ps.take 0)) = y at *
                go_wp2
                go_round
                case rel => exact ⟨1, by omega, by go_num, congrArg Value.string HE.out⟩
                case measure => simp [intOf]; omega
              · have HE : Hid (B (joinL (ps.take m)) ++ ByteArray.mk #[46] ++ B ps[m] = B (joinL (ps.take (m + 1)))) := by
                  rw [B_dot, B_append, B_append, join_step ps m hp h0]; exact rfl
                generalize B ps[m] = x at *
                generalize B (joinL (ps.take m)) = y at *
                go_wp2
                go_round
                case rel => exact ⟨m + 1, by omega, by go_num, congrArg Value.string HE.out⟩
                case measure => simp [intOf]; omega
            · have HM : Hid (ps.take m = ps) := List.take_of_length_le (by omega)
              rw [HM.out] at hsz ⊢
              have hab : (B a ++ ByteArray.mk #[46] ++ B b) = B (a ++ 46 :: b) := by
                rw [B_dot, B_append, B_append]; simp
              have HAB : Hid (B a ++ ByteArray.mk #[46] ++ B b = B (a ++ 46 :: b)) := hab
              have HLL : Hid ((a ++ 46 :: b).length ≤ maxLen) := by
                have e1 : (B a).size = a.length := rfl
                have e2 : (B b).size = b.length := rfl
                show (a ++ 46 :: b).length ≤ maxLen
                rw [List.length_append, List.length_cons]
                unfold maxLen
                omega
              have HU : Hid (dottedB (a ++ 46 :: b) = true → underB (a ++ 46 :: b) a = true ∧ underB a (a ++ 46 :: b) = false) := fun h => may_under h
              clear hab HM hm HX HN HS hcap2 hcap3
              by_cases hps : 0 < ps.length
              · have hda : dottedB a = true := by rw [HD.out]; simp [hps]
                have HJA : Hid (joinL ps = a) := HJ.out hda
                rw [HJA.out] at hsz ⊢
                by_cases hqs : 0 < qs.length
                · by_cases hsum : ps.length + qs.length ≤ 4
                  · have hdab : dottedB (a ++ 46 :: b) = true := by rw [HD2.out]; simp [hps, hqs, hsum]
                    obtain ⟨hu1, hu2⟩ := HU.out hdab
                    clear HD HD2 HJ HU
                    go_wp2_with fail
                    refine (dotted_l _ _ HA.out).mono ?_
                    rintro e w5 ⟨rfl, q5⟩
                    go_wp2_with fail
                    rw [HAB.out]
                    refine (dotted_l _ _ HLL.out).mono ?_
                    rintro e w6 ⟨rfl, q6⟩
                    rw [hdab]
                    go_wp2_with fail
                    refine (under_l _ _ _ HLL.out HA.out).mono ?_
                    rintro e w7 ⟨rfl, q7⟩
                    go_wp2_with fail
                    refine (under_l _ _ _ HA.out HLL.out).mono ?_
                    rintro e w8 ⟨rfl, q8⟩
                    go_wp2
                    go_ret
                    exact ⟨rfl, by repeat (first | assumption | refine below_then ?_ (by assumption))⟩
                  · have hdab : dottedB (a ++ 46 :: b) = false := by rw [HD2.out]; simp [hsum]
                    have hca := ca.out
                    have hcb := cb.out
                    have hs3 : decide ((ps.length : Int) + (qs.length : Int) ≤ 4) = false := by simp; omega
                    clear HD HD2 HJ HU
                    go_wp2_with fail
                    refine (dotted_l _ _ HA.out).mono ?_
                    rintro e w5 ⟨rfl, q5⟩
                    go_wp2_with fail
                    rw [HAB.out]
                    refine (dotted_l _ _ HLL.out).mono ?_
                    rintro e w6 ⟨rfl, q6⟩
                    rw [hdab]
                    go_wp2
                    go_ret
                    exact ⟨rfl, by repeat (first | assumption | refine below_then ?_ (by assumption))⟩
                · have hdab : dottedB (a ++ 46 :: b) = false := by rw [HD2.out]; simp [hqs]
                  clear HD HD2 HJ HU
                  go_wp2_with fail
                  refine (dotted_l _ _ HA.out).mono ?_
                  rintro e w5 ⟨rfl, q5⟩
                  go_wp2_with fail
                  rw [HAB.out]
                  refine (dotted_l _ _ HLL.out).mono ?_
                  rintro e w6 ⟨rfl, q6⟩
                  rw [hdab]
                  go_wp2
                  go_ret
                  exact ⟨rfl, by repeat (first | assumption | refine below_then ?_ (by assumption))⟩
              · have hda : dottedB a = false := by rw [HD.out]; simp [hps]
                have hdab : dottedB (a ++ 46 :: b) = false := by rw [HD2.out]; simp [hps]
                clear HD HD2 HJ HU
                go_wp2_with fail
                refine (dotted_l _ _ HA.out).mono ?_
                rintro e w5 ⟨rfl, q5⟩
                go_wp2_with fail
                rw [HAB.out]
                refine (dotted_l _ _ HLL.out).mono ?_
                rintro e w6 ⟨rfl, q6⟩
                rw [hdab]
                go_wp2
                go_ret
                exact ⟨rfl, by repeat (first | assumption | refine below_then ?_ (by assumption))⟩
end Nm
end Go.Proofs.Ytlfoipddhcdmmaa
