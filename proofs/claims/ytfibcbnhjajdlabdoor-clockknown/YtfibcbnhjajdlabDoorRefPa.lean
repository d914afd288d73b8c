/- The document's answer: Parse; and the walk of ClockParses. -/
import Derived.Test.YtfibcbnhjajdlabDoorRefN4
import Derived.Test.YtfibcbnhjajdlabDoorRefD
import Derived.Test.YtfibcbnhjajdlabDoorParseC
import Derived.Test.YtfibcbnhjajdlabDoorTwo
namespace Go.Proofs.YtfibcbnhjajdlabDoor
set_option linter.ambiguousOpen false
open Go.RowKit Er Nm
namespace Ck
set_option linter.unusedSimpArgs false
set_option linter.unusedVariables false

theorem refG_nil (j k s : Nat) : refG (j + 1) k s [] = fin s [] := by rw [refG, if_pos rfl]

theorem refG_bad {j k s : Nat} {r : List UInt8} (hr : r ≠ []) (h : badH r = true ∨ be r = []) : refG (j + 1) k s r = (0, 4) := by rw [refG, if_neg hr, if_pos h]

theorem refG_stop {j k s kk : Nat} {r : List UInt8} (hr : r ≠ []) (h1 : badH r = false) (h2 : be r ≠ []) (hk : findK ((be r).headD 0) (4 - k) k = kk) (h : kk = 4 ∨ (0 < kk ∧ tk (kk - 1) ≤ numN r * tk kk)) : refG (j + 1) k s r = (0, 4) := by
  subst hk
  rw [refG, if_neg hr, if_neg (fun q => by rcases q with q | q; rw [h1] at q; cases q; exact h2 q), if_pos h]

theorem refG_go {j k s kk : Nat} {r : List UInt8} (hr : r ≠ []) (h1 : badH r = false) (h2 : be r ≠ []) (hk : findK ((be r).headD 0) (4 - k) k = kk) (h : ¬ (kk = 4 ∨ (0 < kk ∧ tk (kk - 1) ≤ numN r * tk kk))) : refG (j + 1) k s r = refG j (kk + 1) (min (s + numN r * tk kk) 1099511627777) (be r).tail := by
  subst hk
  rw [refG, if_neg hr, if_neg (fun q => by rcases q with q | q; rw [h1] at q; cases q; exact h2 q), if_neg h]

theorem be_drop (l : List UInt8) (a : Nat) : be (l.drop a) = l.drop (a + (dg (l.drop a)).length) := by
  have h := dg_be (l.drop a)
  have : (dg (l.drop a) ++ be (l.drop a)).drop (dg (l.drop a)).length = be (l.drop a) := by simp
  rw [h, List.drop_drop] at this
  exact this.symm

theorem headD_drop (l : List UInt8) (a : Nat) (h : a < l.length) : (l.drop a).headD 0 = l.getD a 0 := by
  rw [headD_get _ (by simp; omega), drop_getD l a 0 (by omega)]; rfl

/-- The letters, as numbers. -/
def ltI (k : Nat) : Int := ((lt' k).toNat : Int)

theorem idx_letter (k : Nat) (h : k < 4) (w : World) : (Instr.index 9 (.string ⟨#[100, 104, 109, 115]⟩) (.int .i64 (k : Int))).run Tryd.prog w = .ok (.int .u8 (ltI k)) w := by
  have h1 := idx_at [100, 104, 109, 115] k h w
  have e : byI [100, 104, 109, 115] k = ltI k := by
    obtain rfl | rfl | rfl | rfl : k = 0 ∨ k = 1 ∨ k = 2 ∨ k = 3 := by omega
    all_goals rfl
  rw [e] at h1
  exact h1

theorem lt_byI (l : List UInt8) (i k : Nat) : lt' k = l.getD i 0 ↔ byI l i = ltI k := by
  unfold byI ltI
  constructor
  · intro h; rw [h]
  · intro h
    apply UInt8.toNat_inj.1
    omega

theorem findK_hit {c : UInt8} {k : Nat} (h : k < 4) (he : lt' k = c) : findK c (4 - k) k = k := by
  obtain ⟨j, hj⟩ : ∃ j, 4 - k = j + 1 := ⟨3 - k, by omega⟩
  rw [hj, findK, if_pos he]

theorem findK_miss {c : UInt8} {k : Nat} (h : k < 4) (he : lt' k ≠ c) : findK c (4 - k) k = findK c (4 - (k + 1)) (k + 1) := by
  obtain ⟨j, hj⟩ : ∃ j, 4 - k = j + 1 := ⟨3 - k, by omega⟩
  rw [hj, findK, if_neg he]
  congr 1
  omega

theorem worth_l (w : World) (k t : Int) (h : (k = 0 ∧ t = 86400) ∨ (k = 1 ∧ t = 3600) ∨ (k = 2 ∧ t = 60) ∨ (k = 3 ∧ t = 1)) :
    Calls Tryd.prog 38 #[.int .i64 k] w fun e w' => e = .returned (.int .i64 t) ∧ w' = w := by
  rcases h with ⟨rfl, rfl⟩ | ⟨rfl, rfl⟩ | ⟨rfl, rfl⟩ | ⟨rfl, rfl⟩
  · exact worth_c 0 w (by omega)
  · exact worth_c 1 w (by omega)
  · exact worth_c 2 w (by omega)
  · exact worth_c 3 w (by omega)

set_option maxRecDepth 100000 in
set_option maxHeartbeats 4000000 in
theorem rparse_c (l : List UInt8) (w : World) (hl : l.length ≤ maxLen) :
    Calls Tryd.prog 34 #[.string (B l)] w fun e w' => e = .returned (.tuple #[.int .i64 (parseG l).1, .int .i64 (parseG l).2]) ∧ Below w.heap.size w w' := by
  by_cases h0 : l = [48, 115]
  · subst h0
    have e1 : parseG [48, 115] = (0, 0) := rfl
    have e2 : B [48, 115] = ⟨#[48, 115]⟩ := rfl
    rw [e1, e2]
    go_enter Tryd.func34, Tryd.ntmps34
    go_wp2
    go_ret2
    exact ⟨rfl, Below.refl _ _⟩
  have hne : ((B l).toList == [48, 115]) = false := by rw [beq_eq_false_iff_ne, ByteArray.toList_eq]; exact h0
  have HG : Hid (parseG l = refG 5 0 0 l) := by
    show _ = _
    rw [parse_ref, if_neg h0]
  clear h0
  have hsz : (B l).size = l.length := rfl
  have HL : Hid (l.length ≤ maxLen) := hl
  unfold maxLen at hl
  have cW : Hid (∀ (k t : Int) (w1 : World), ((k = 0 ∧ t = 86400) ∨ (k = 1 ∧ t = 3600) ∨ (k = 2 ∧ t = 60) ∨ (k = 3 ∧ t = 1)) → Calls Tryd.prog 38 #[.int .i64 k] w1 fun e w' => e = .returned (.int .i64 t) ∧ w' = w1) := fun k t w1 h => worth_l w1 k t h
  go_enter Tryd.func34, Tryd.ntmps34
  go_wp2
  go_loopw [4, 5, 6, 7] (fun x4 x5 x6 x7 wr => ∃ (s k a i : Nat), i ≤ k ∧ k ≤ 4 ∧ a ≤ l.length ∧ s ≤ 1099511627777 ∧ x4 = .int .i64 s ∧ x5 = .int .i64 k ∧ x6 = .int .i64 a ∧ x7 = .int .i64 i ∧ Hid (refG (5 - i) k s (l.drop a) = parseG l) ∧ Below w.heap.size w wr) (fun _ _ _ x7 _ => 5 - (intOf x7).toNat)
  case atStart => exact ⟨0, 0, 0, 0, by omega, by omega, by omega, by omega, rfl, rfl, rfl, rfl, HG.out.symm, Below.refl _ _⟩
  case round =>
    obtain ⟨s0, k, a, i, hik, hk4, ha, hs, rfl, rfl, rfl, rfl, HP, hB⟩ := hrel
    obtain ⟨j, hj⟩ : ∃ j, 5 - i = j + 1 := ⟨4 - i, by omega⟩
    have hi5 : i < 5 := by omega
    rw [hj] at HP
    obtain ⟨s, HS⟩ : ∃ s : Int, Hid ((s0 : Int) = s) := ⟨_, rfl⟩
    have hs0 : 0 ≤ s := by have := HS.out; omega
    have hs1 : s ≤ 1099511627777 := by have := HS.out; omega
    rw [HS.out]
    clear hs
    by_cases hlt : a < l.length
    · have hr : l.drop a ≠ [] := by intro q; have := congrArg List.length q; simp at this; omega
      have cn := rnumber_c l a wr HL.out hlt
      obtain ⟨c, HC⟩ : ∃ c : Int, Hid ((numN (l.drop a) : Int) = c) := ⟨_, rfl⟩
      obtain ⟨nx, HX⟩ : ∃ nx, Hid (a + (dg (l.drop a)).length = nx) := ⟨_, rfl⟩
      have hc0 : 0 ≤ c := by have := HC.out; omega
      have hc1 : c ≤ 1099511627777 := by have := HC.out; have := numN_le (l.drop a); omega
      have hbe : be (l.drop a) = l.drop nx := by rw [be_drop, HX.out]
      have HBE : Hid (be (l.drop a) = l.drop nx) := hbe
      have hnl : nx ≤ l.length := by
        have h1 := congrArg List.length (dg_be (l.drop a))
        rw [List.length_append, List.length_drop] at h1
        have := HX.out
        omega
      rw [HC.out, HX.out] at cn
      clear hbe
      cases hbad : badH (l.drop a) with
      | true =>
        rw [hbad] at cn
        simp only [Bool.not_true] at cn
        have HZ : Hid (parseG l = (0, 4)) := by show _ = _; rw [← HP.out, refG_bad hr (.inl hbad)]
        clear hbad hr
        go_wp2_with fail
        refine cn.mono ?_
        rintro e w2 ⟨rfl, n2, hw2⟩
        have hB2 : Below w.heap.size w w2 := by rw [hw2]; exact below_drewN hB n2
        clear hw2
        go_wp2
        go_ret2
        rw [HZ.out]
        exact ⟨rfl, hB2⟩
      | false =>
        rw [hbad] at cn
        simp only [Bool.not_false] at cn
        by_cases hnx : nx < l.length
        · have hbn : be (l.drop a) ≠ [] := by rw [HBE.out]; intro q; have := congrArg List.length q; simp at this; omega
          have HK : Hid ((be (l.drop a)).headD 0 = l.getD nx 0) := by show _ = _; rw [HBE.out, headD_drop l nx hnx]
          have HR : Hid (l.drop a ≠ []) := hr
          have HBN : Hid (be (l.drop a) ≠ []) := hbn
          have HBD : Hid (badH (l.drop a) = false) := hbad
          have HT : Hid ((be (l.drop a)).tail = l.drop (nx + 1)) := by show _ = _; rw [HBE.out, List.tail_drop]
          clear hbn hr hbad
          have ix := idx_at l nx hnx
          obtain ⟨x, HBX⟩ : ∃ x, Hid (byI l nx = x) := ⟨_, rfl⟩
          rw [HBX.out] at ix
          go_wp2_with fail
          refine cn.mono ?_
          rintro e w2 ⟨rfl, n2, hw2⟩
          have hB2 : Below w.heap.size w w2 := by rw [hw2]; exact below_drewN hB n2
          clear hw2 cn hB
          rename World => w9
          go_wp2
          go_loopw [5] (fun y wr => ∃ kk : Nat, k ≤ kk ∧ kk ≤ 4 ∧ y = .int .i64 kk ∧ Hid (findK (l.getD nx 0) (4 - kk) kk = findK (l.getD nx 0) (4 - k) k) ∧ Below w.heap.size w wr) (fun y _ => 4 - (intOf y).toNat)
          case atStart => exact ⟨k, Nat.le_refl _, hk4, rfl, rfl, hB2⟩
          case round =>
            obtain ⟨kk, hkk, hkk4, rfl, HF, hB3⟩ := hrel
            by_cases hk5 : kk < 4
            · obtain ⟨z, HZL⟩ : ∃ z, Hid (ltI kk = z) := ⟨_, rfl⟩
              by_cases hxz : x = z
              · subst hxz
                obtain rfl | rfl | rfl | rfl : kk = 0 ∨ kk = 1 ∨ kk = 2 ∨ kk = 3 := by omega
                · -- found: 0
                  have ixl := idx_letter 0 (by omega)
                  have HLT : Hid (ltI 0 = x) := HZL.out
                  rw [HLT.out] at ixl
                  have HF2 : Hid (findK ((be (l.drop a)).headD 0) (4 - k) k = 0) := by
                    show _ = _
                    rw [HK.out, ← HF.out]
                    exact findK_hit (by omega) ((lt_byI l nx 0).2 (by rw [HBX.out, HLT.out]))
                  simp only [Int.cast_ofNat_Int] at ixl ⊢
                  go_wp2
                  go_quiet (fail)
                  have hmm : c * 86400 ≤ 94997804639932800 := by have := HC.out; have := num_tk (l.drop a) 0; simp only [tk] at this; omega
                  have HGO : Hid (refG (5 - (i + 1)) (0 + 1) (min (s0 + numN (l.drop a) * tk 0) 1099511627777) (l.drop (nx + 1)) = parseG l) := by
                    show _ = _
                    rw [← HP.out, refG_go HR.out HBD.out HBN.out HF2.out (by simp only [tk]; have := HC.out; omega), HT.out]
                    congr 1
                    omega
                  go_wp2_with (go_at_call 38; refine (cW.out _ _ _ (by first | exact .inl ⟨rfl, rfl⟩ | exact .inr (.inl ⟨rfl, rfl⟩) | exact .inr (.inr (.inl ⟨rfl, rfl⟩)) | exact .inr (.inr (.inr ⟨rfl, rfl⟩)))).mono ?_; rintro e w5 ⟨rfl, hq5⟩; subst w5)
                  go_roundw
                  case rel =>
                    refine ⟨min (s0 + numN (l.drop a) * tk 0) 1099511627777, 0 + 1, nx + 1, i + 1, by omega, by omega, by omega, by omega, ?_, rfl, by go_num, by go_num, HGO, below_drewN hB3 _⟩
                    have h1 := HS.out
                    have h2 := HC.out
                    simp only [tk]
                    congr 1
                    split <;> omega
                  case measure => simp [intOf]; omega
                · -- found: 1
                  have ixl := idx_letter 1 (by omega)
                  have HLT : Hid (ltI 1 = x) := HZL.out
                  rw [HLT.out] at ixl
                  have HF2 : Hid (findK ((be (l.drop a)).headD 0) (4 - k) k = 1) := by
                    show _ = _
                    rw [HK.out, ← HF.out]
                    exact findK_hit (by omega) ((lt_byI l nx 1).2 (by rw [HBX.out, HLT.out]))
                  simp only [Int.cast_ofNat_Int] at ixl ⊢
                  go_wp2
                  go_quiet (fail)
                  by_cases hge : 86400 ≤ c * 3600
                  · have HZ : Hid (parseG l = (0, 4)) := by
                      show _ = _
                      rw [← HP.out, refG_stop HR.out HBD.out HBN.out HF2.out (.inr ⟨by omega, by simp only [tk]; have := HC.out; omega⟩)]
                    go_wp2_with (go_at_call 38; refine (cW.out _ _ _ (by first | exact .inl ⟨rfl, rfl⟩ | exact .inr (.inl ⟨rfl, rfl⟩) | exact .inr (.inr (.inl ⟨rfl, rfl⟩)) | exact .inr (.inr (.inr ⟨rfl, rfl⟩)))).mono ?_; rintro e w5 ⟨rfl, hq5⟩; subst w5)
                    go_ret2
                    rw [HZ.out]
                    exact ⟨rfl, below_drewN hB3 _⟩
                  · have hgd : decide (86400 ≤ c * 3600) = false := by simpa using hge
                    have hmm : c * 3600 ≤ 94997804639932800 := by have := HC.out; have := num_tk (l.drop a) 1; simp only [tk] at this; omega
                    have HGO : Hid (refG (5 - (i + 1)) (1 + 1) (min (s0 + numN (l.drop a) * tk 1) 1099511627777) (l.drop (nx + 1)) = parseG l) := by
                      show _ = _
                      rw [← HP.out, refG_go HR.out HBD.out HBN.out HF2.out (by simp only [tk]; have := HC.out; omega), HT.out]
                      congr 1
                      omega
                    go_wp2_with (go_at_call 38; refine (cW.out _ _ _ (by first | exact .inl ⟨rfl, rfl⟩ | exact .inr (.inl ⟨rfl, rfl⟩) | exact .inr (.inr (.inl ⟨rfl, rfl⟩)) | exact .inr (.inr (.inr ⟨rfl, rfl⟩)))).mono ?_; rintro e w5 ⟨rfl, hq5⟩; subst w5)
                    go_roundw
                    case rel =>
                      refine ⟨min (s0 + numN (l.drop a) * tk 1) 1099511627777, 1 + 1, nx + 1, i + 1, by omega, by omega, by omega, by omega, ?_, rfl, by go_num, by go_num, HGO, below_drewN hB3 _⟩
                      have h1 := HS.out
                      have h2 := HC.out
                      simp only [tk]
                      congr 1
                      split <;> omega
                    case measure => simp [intOf]; omega
                · -- found: 2
                  have ixl := idx_letter 2 (by omega)
                  have HLT : Hid (ltI 2 = x) := HZL.out
                  rw [HLT.out] at ixl
                  have HF2 : Hid (findK ((be (l.drop a)).headD 0) (4 - k) k = 2) := by
                    show _ = _
                    rw [HK.out, ← HF.out]
                    exact findK_hit (by omega) ((lt_byI l nx 2).2 (by rw [HBX.out, HLT.out]))
                  simp only [Int.cast_ofNat_Int] at ixl ⊢
                  go_wp2
                  go_quiet (fail)
                  by_cases hge : 3600 ≤ c * 60
                  · have HZ : Hid (parseG l = (0, 4)) := by
                      show _ = _
                      rw [← HP.out, refG_stop HR.out HBD.out HBN.out HF2.out (.inr ⟨by omega, by simp only [tk]; have := HC.out; omega⟩)]
                    go_wp2_with (go_at_call 38; refine (cW.out _ _ _ (by first | exact .inl ⟨rfl, rfl⟩ | exact .inr (.inl ⟨rfl, rfl⟩) | exact .inr (.inr (.inl ⟨rfl, rfl⟩)) | exact .inr (.inr (.inr ⟨rfl, rfl⟩)))).mono ?_; rintro e w5 ⟨rfl, hq5⟩; subst w5)
                    go_ret2
                    rw [HZ.out]
                    exact ⟨rfl, below_drewN hB3 _⟩
                  · have hgd : decide (3600 ≤ c * 60) = false := by simpa using hge
                    have hmm : c * 60 ≤ 94997804639932800 := by have := HC.out; have := num_tk (l.drop a) 2; simp only [tk] at this; omega
                    have HGO : Hid (refG (5 - (i + 1)) (2 + 1) (min (s0 + numN (l.drop a) * tk 2) 1099511627777) (l.drop (nx + 1)) = parseG l) := by
                      show _ = _
                      rw [← HP.out, refG_go HR.out HBD.out HBN.out HF2.out (by simp only [tk]; have := HC.out; omega), HT.out]
                      congr 1
                      omega
                    go_wp2_with (go_at_call 38; refine (cW.out _ _ _ (by first | exact .inl ⟨rfl, rfl⟩ | exact .inr (.inl ⟨rfl, rfl⟩) | exact .inr (.inr (.inl ⟨rfl, rfl⟩)) | exact .inr (.inr (.inr ⟨rfl, rfl⟩)))).mono ?_; rintro e w5 ⟨rfl, hq5⟩; subst w5)
                    go_roundw
                    case rel =>
                      refine ⟨min (s0 + numN (l.drop a) * tk 2) 1099511627777, 2 + 1, nx + 1, i + 1, by omega, by omega, by omega, by omega, ?_, rfl, by go_num, by go_num, HGO, below_drewN hB3 _⟩
                      have h1 := HS.out
                      have h2 := HC.out
                      simp only [tk]
                      congr 1
                      split <;> omega
                    case measure => simp [intOf]; omega
                · -- found: 3
                  have ixl := idx_letter 3 (by omega)
                  have HLT : Hid (ltI 3 = x) := HZL.out
                  rw [HLT.out] at ixl
                  have HF2 : Hid (findK ((be (l.drop a)).headD 0) (4 - k) k = 3) := by
                    show _ = _
                    rw [HK.out, ← HF.out]
                    exact findK_hit (by omega) ((lt_byI l nx 3).2 (by rw [HBX.out, HLT.out]))
                  simp only [Int.cast_ofNat_Int] at ixl ⊢
                  go_wp2
                  go_quiet (fail)
                  by_cases hge : 60 ≤ c * 1
                  · have HZ : Hid (parseG l = (0, 4)) := by
                      show _ = _
                      rw [← HP.out, refG_stop HR.out HBD.out HBN.out HF2.out (.inr ⟨by omega, by simp only [tk]; have := HC.out; omega⟩)]
                    go_wp2_with (go_at_call 38; refine (cW.out _ _ _ (by first | exact .inl ⟨rfl, rfl⟩ | exact .inr (.inl ⟨rfl, rfl⟩) | exact .inr (.inr (.inl ⟨rfl, rfl⟩)) | exact .inr (.inr (.inr ⟨rfl, rfl⟩)))).mono ?_; rintro e w5 ⟨rfl, hq5⟩; subst w5)
                    go_ret2
                    rw [HZ.out]
                    exact ⟨rfl, below_drewN hB3 _⟩
                  · have hgd : decide (60 ≤ c * 1) = false := by simpa using hge
                    have hmm : c * 1 ≤ 94997804639932800 := by have := HC.out; have := num_tk (l.drop a) 3; simp only [tk] at this; omega
                    have HGO : Hid (refG (5 - (i + 1)) (3 + 1) (min (s0 + numN (l.drop a) * tk 3) 1099511627777) (l.drop (nx + 1)) = parseG l) := by
                      show _ = _
                      rw [← HP.out, refG_go HR.out HBD.out HBN.out HF2.out (by simp only [tk]; have := HC.out; omega), HT.out]
                      congr 1
                      omega
                    go_wp2_with (go_at_call 38; refine (cW.out _ _ _ (by first | exact .inl ⟨rfl, rfl⟩ | exact .inr (.inl ⟨rfl, rfl⟩) | exact .inr (.inr (.inl ⟨rfl, rfl⟩)) | exact .inr (.inr (.inr ⟨rfl, rfl⟩)))).mono ?_; rintro e w5 ⟨rfl, hq5⟩; subst w5)
                    go_roundw
                    case rel =>
                      refine ⟨min (s0 + numN (l.drop a) * tk 3) 1099511627777, 3 + 1, nx + 1, i + 1, by omega, by omega, by omega, by omega, ?_, rfl, by go_num, by go_num, HGO, below_drewN hB3 _⟩
                      have h1 := HS.out
                      have h2 := HC.out
                      simp only [tk]
                      congr 1
                      split <;> omega
                    case measure => simp [intOf]; omega
              · have hxn : (x != z) = true := by simpa using hxz
                have ixl := idx_letter kk hk5
                rw [HZL.out] at ixl
                have HN : Hid (findK (l.getD nx 0) (4 - (kk + 1)) (kk + 1) = findK (l.getD nx 0) (4 - k) k) := by
                  show _ = _
                  rw [← HF.out, findK_miss hk5 (fun q => hxz (by rw [← HBX.out, ← HZL.out]; exact (lt_byI l nx kk).1 q))]
                clear hxz
                have hki : (kk : Int) < 4 := by omega
                go_wp2
                go_quiet (fail)
                go_wp2
                go_roundw
                case rel => exact ⟨kk + 1, by omega, by omega, by go_num, HN, below_drewN hB3 _⟩
                case measure => simp [intOf]; omega
            · obtain rfl : kk = 4 := by omega
              have HZ : Hid (parseG l = (0, 4)) := by
                show _ = _
                rw [← HP.out, refG_stop (kk := 4) HR.out HBD.out HBN.out (by rw [HK.out, ← HF.out]; rfl) (.inl rfl)]
              simp only [Int.cast_ofNat_Int]
              go_wp2
              go_quiet (fail)
              go_wp2
              go_ret2
              rw [HZ.out]
              exact ⟨rfl, below_drewN hB3 _⟩
        · have HZ : Hid (parseG l = (0, 4)) := by
            show _ = _
            rw [← HP.out, refG_bad hr (.inr (by rw [HBE.out]; exact List.drop_eq_nil_of_le (by omega)))]
          clear hbad hr
          go_wp2_with fail
          refine cn.mono ?_
          rintro e w2 ⟨rfl, n2, hw2⟩
          have hB2 : Below w.heap.size w w2 := by rw [hw2]; exact below_drewN hB n2
          clear hw2
          go_wp2
          go_ret2
          rw [HZ.out]
          exact ⟨rfl, hB2⟩
    · have HD : Hid (l.drop a = []) := List.drop_eq_nil_of_le (by omega)
      have HE : Hid (parseG l = fin s0 []) := by show _ = _; rw [← HP.out, HD.out, refG_nil]
      by_cases hz : s = 0
      · subst hz
        have HZ : Hid (parseG l = (0, 4)) := by
          show _ = _
          have : s0 = 0 := by have := HS.out; omega
          rw [HE.out, this]; rfl
        go_wp2
        go_ret2
        rw [HZ.out]
        exact ⟨rfl, hB⟩
      · have hzb : (s == 0) = false := by rw [beq_eq_false_iff_ne]; exact hz
        by_cases hb : 1099511627776 < s
        · have HZ : Hid (parseG l = (0, 12)) := by
            show _ = _
            have h1 := HS.out
            rw [HE.out]
            unfold fin
            rw [if_neg (by simp; omega), if_pos (by omega)]
          go_wp2
          go_ret2
          rw [HZ.out]
          exact ⟨rfl, hB⟩
        · have HZ : Hid (parseG l = (s0, 0)) := by
            show _ = _
            have h1 := HS.out
            rw [HE.out]
            unfold fin
            rw [if_neg (by simp; omega), if_neg (by omega)]
          go_wp2
          go_ret2
          rw [HZ.out, ← HS.out]
          exact ⟨rfl, hB⟩

set_option maxRecDepth 100000 in
set_option maxHeartbeats 1000000 in
theorem clockParses_walk (l : List UInt8) (w : World) (hl : l.length ≤ maxLen) (hE : Handle w) (hU : Units w) :
    Calls Tryd.prog 20 #[.string (B l)] w fun e w' => e = .returned (.bool true) ∧ Below w.heap.size w w' := by
  have c1 := parse_c l w hl hU
  have c2 : Hid (∀ w1, Calls Tryd.prog 34 #[.string (B l)] w1 fun e w' => e = .returned (.tuple #[.int .i64 (parseG l).1, .int .i64 (parseG l).2]) ∧ Below w1.heap.size w1 w') := fun w1 => rparse_c l w1 hl
  have hno : (parseG l).2 = 0 ∨ (parseG l).2 = 4 ∨ (parseG l).2 = 12 := by
    unfold parseG finP
    split
    · exact .inl rfl
    · split
      · exact .inr (.inl rfl)
      · split
        · exact .inr (.inr rfl)
        · exact .inl rfl
  have HE : Hid (Handle w) := hE
  clear hU hE
  generalize parseG l = x at *
  obtain ⟨m, e0⟩ := x
  simp only at c1 c2 hno
  have c3 : Hid (∀ w1, Below w.heap.size w w1 → Calls Tryd.prog 19 #[errC e0, .int .i64 e0] w1 fun e w' => e = .returned (.bool true) ∧ Below w1.heap.size w1 w') := by
    intro w1 hB
    rcases hno with rfl | rfl | rfl
    · exact plain_ok w1
    · exact plain_same 4 4 rfl (by omega) (by omega) w1 (HE.out.below hB)
    · exact plain_same 12 12 rfl (by omega) (by omega) w1 (HE.out.below hB)
  have hv : errC e0 = .nilIface ∨ ∃ t v, errC e0 = .iface t v := by
    rcases hno with rfl | rfl | rfl
    · exact .inl rfl
    · exact .inr ⟨_, _, rfl⟩
    · exact .inr ⟨_, _, rfl⟩
  clear hno
  generalize errC e0 = ev at *
  rcases hv with rfl | ⟨t, v, rfl⟩
  all_goals
    go_enter Tryd.func20, Tryd.ntmps20
    go_wp2_with fail
    refine c1.mono ?_
    rintro e w1 ⟨rfl, hB1⟩
    go_wp2_with fail
    refine (c2.out _).mono ?_
    rintro e w2 ⟨rfl, hB⟩
    have hB2 := hB1.trans (hB.mono hB1.size)
    clear hB
    go_wp2_with fail
    refine (c3.out _ hB2).mono ?_
    rintro e w3 ⟨rfl, hB⟩
    have hB3 := hB2.trans (hB.mono hB2.size)
    go_wp2
    go_ret
    exact ⟨ret_bool (by simp), hB3⟩
end Ck
end Go.Proofs.YtfibcbnhjajdlabDoor
