/- The parts of a form, as the program reads them. -/
import Derived.Test.YtfibcbnhjajdlabDoorNumber
import Derived.Test.YtfibcbnhjajdlabDoorLaidU
import Derived.WalkMore
namespace Go.Proofs.YtfibcbnhjajdlabDoor
set_option linter.ambiguousOpen false
open Go.RowKit Er Nm
namespace Ck
set_option linter.unusedSimpArgs false
set_option linter.unusedVariables false

theorem num_tk (r : List UInt8) (k : Nat) : numN r * tk k ≤ 94997804639932800 := by
  have h1 := numN_le r
  have h2 : tk k ≤ 86400 := by unfold tk; split <;> omega
  calc numN r * tk k ≤ 1099511627777 * 86400 := Nat.mul_le_mul h1 h2
    _ ≤ _ := by omega

theorem below_drewN {b : Nat} {a w : World} (h : Below b a w) (n : Nat) : Below b a (w.drewN n) := ⟨h.os, h.tape, h.output, h.size, h.block⟩

theorem headD_get (l : List UInt8) (h : 0 < l.length) : l.headD 0 = l[0] := by
  cases l with
  | nil => simp at h
  | cons a b => rfl

theorem be_len (l : List UInt8) : (be l).length ≤ l.length := by
  have := congrArg List.length (dg_be l)
  rw [List.length_append] at this
  omega

/-- The first byte of a text. -/
def hdI (l : List UInt8) : Int := ((l.headD 0).toNat : Int)

theorem idx_first (l : List UInt8) (h : l ≠ []) (w : World) : (Instr.index 9 (.string (B l)) (.int .i64 0)).run Tryd.prog w = .ok (.int .u8 (hdI l)) w := by
  have hp : 0 < l.length := List.length_pos_iff.2 h
  have hs : (B l).size = l.length := rfl
  rw [run_index_string w 9 (B l) .i64 0 Tryd.underlying9, dif_pos ⟨by omega, by omega⟩]
  unfold hdI
  rw [headD_get l hp]
  rfl

theorem hdI_bad (l : List UInt8) : badH l = (decide (hdI l < 49) || decide (57 < hdI l)) := by
  unfold badH hdI
  congr 1
  · rw [decide_eq_decide]; omega
  · rw [decide_eq_decide]; omega

theorem hdI_eq (l : List UInt8) (c : UInt8) (x : Int) (hc : (c.toNat : Int) = x) : hdI l = x ↔ l.headD 0 = c := by
  unfold hdI
  constructor
  · intro h
    apply UInt8.toNat_inj.1
    omega
  · intro h; rw [h, hc]

theorem parts_nil {k t : Nat} {r : List UInt8} (hk : k < 4) (h : be r = []) : partsG (4 - k) k t r = (t, r) := by
  obtain ⟨j, hj⟩ : ∃ j, 4 - k = j + 1 := ⟨3 - k, by omega⟩
  rw [hj, partsG, if_pos h]

theorem parts_skip {k t : Nat} {r : List UInt8} (hk : k < 4) (h : be r ≠ []) (h2 : (be r).headD 0 ≠ lt' k) : partsG (4 - k) k t r = partsG (4 - (k + 1)) (k + 1) t r := by
  obtain ⟨j, hj⟩ : ∃ j, 4 - k = j + 1 := ⟨3 - k, by omega⟩
  rw [hj, partsG, if_neg h, if_pos h2]
  congr 1
  omega

theorem parts_bad {k t : Nat} {r : List UInt8} (hk : k < 4) (h : be r ≠ []) (h2 : (be r).headD 0 = lt' k) (h3 : badH r = true ∨ ms k < numN r) : partsG (4 - k) k t r = (t, r) := by
  obtain ⟨j, hj⟩ : ∃ j, 4 - k = j + 1 := ⟨3 - k, by omega⟩
  rw [hj, partsG, if_neg h, if_neg (fun q => q h2), if_pos h3]

theorem parts_go {k t : Nat} {r : List UInt8} (hk : k < 4) (h : be r ≠ []) (h2 : (be r).headD 0 = lt' k) (h3 : badH r = false) (h4 : numN r ≤ ms k) : partsG (4 - k) k t r = partsG (4 - (k + 1)) (k + 1) (t + numN r * tk k) (be r).tail := by
  obtain ⟨j, hj⟩ : ∃ j, 4 - k = j + 1 := ⟨3 - k, by omega⟩
  rw [hj, partsG, if_neg h, if_neg (fun q => q h2), if_neg (fun q => by rcases q with q | q; rw [h3] at q; cases q; omega)]
  congr 1
  omega

theorem idx0 (w : World) : (Instr.index 47 (.agg #[.int .u8 100, .int .i64 86400, .int .i64 1099511627777, .int .u8 104, .int .i64 3600, .int .i64 23, .int .u8 109, .int .i64 60, .int .i64 59, .int .u8 115, .int .i64 1, .int .i64 59]) (.int .i64 0)).run Tryd.prog w = .ok (.agg #[.int .u8 100, .int .i64 86400, .int .i64 1099511627777]) w := by kernel_rfl

theorem idx1 (w : World) : (Instr.index 47 (.agg #[.int .u8 100, .int .i64 86400, .int .i64 1099511627777, .int .u8 104, .int .i64 3600, .int .i64 23, .int .u8 109, .int .i64 60, .int .i64 59, .int .u8 115, .int .i64 1, .int .i64 59]) (.int .i64 1)).run Tryd.prog w = .ok (.agg #[.int .u8 104, .int .i64 3600, .int .i64 23]) w := by kernel_rfl

theorem idx2 (w : World) : (Instr.index 47 (.agg #[.int .u8 100, .int .i64 86400, .int .i64 1099511627777, .int .u8 104, .int .i64 3600, .int .i64 23, .int .u8 109, .int .i64 60, .int .i64 59, .int .u8 115, .int .i64 1, .int .i64 59]) (.int .i64 2)).run Tryd.prog w = .ok (.agg #[.int .u8 109, .int .i64 60, .int .i64 59]) w := by kernel_rfl

theorem idx3 (w : World) : (Instr.index 47 (.agg #[.int .u8 100, .int .i64 86400, .int .i64 1099511627777, .int .u8 104, .int .i64 3600, .int .i64 23, .int .u8 109, .int .i64 60, .int .i64 59, .int .u8 115, .int .i64 1, .int .i64 59]) (.int .i64 3)).run Tryd.prog w = .ok (.agg #[.int .u8 115, .int .i64 1, .int .i64 59]) w := by kernel_rfl

set_option maxRecDepth 100000 in
set_option maxHeartbeats 2000000 in
theorem parts_c (l : List UInt8) (w : World) (hl : l.length ≤ maxLen) (hU : Units w) :
    Calls Tryd.prog 31 #[.string (B l)] w fun e w' => e = .returned (.tuple #[.int .i64 (partsG 4 0 0 l).1, .string (B (partsG 4 0 0 l).2)]) ∧ Below w.heap.size w w' := by
  have c0 := hU 0 _ rfl
  have c1 := hU 1 _ rfl
  have c2 := hU 2 _ rfl
  have c3 := hU 3 _ rfl
  have c4 := hU 4 _ rfl
  have c5 := hU 5 _ rfl
  have c6 := hU 6 _ rfl
  have c7 := hU 7 _ rfl
  have c8 := hU 8 _ rfl
  have c9 := hU 9 _ rfl
  have c10 := hU 10 _ rfl
  have c11 := hU 11 _ rfl
  go_enter Tryd.func31, Tryd.ntmps31
  go_wp2
  go_step3
  go_wp2
  go_step3
  go_wp2
  go_loopw [2, 3, 10] (fun t r i wr => ∃ (k tt : Nat) (rr : List UInt8), k ≤ 4 ∧ i = .int .i64 k ∧ t = .int .i64 tt ∧ r = .string (B rr) ∧ tt ≤ k * 94997804639932800 ∧ rr.length ≤ l.length ∧ Hid (partsG (4 - k) k tt rr = partsG 4 0 0 l) ∧ Below w.heap.size w wr) (fun _ _ i _ => 4 - (intOf i).toNat)
  case atStart => exact ⟨0, 0, l, by omega, rfl, rfl, rfl, by omega, Nat.le_refl _, rfl, Below.refl _ _⟩
  case round =>
    obtain ⟨k, tt, rr, hk, rfl, rfl, rfl, htt, hrr, HP, hB⟩ := hrel
    have hrl : rr.length ≤ maxLen := Nat.le_trans hrr hl
    obtain rfl | rfl | rfl | rfl | rfl : k = 0 ∨ k = 1 ∨ k = 2 ∨ k = 3 ∨ k = 4 := by omega
    · -- the unit 0
      have hk1 : (0 : Nat) < 4 := by omega
      simp only [Int.cast_ofNat_Int]
      have ix := idx0
      have q0 : (wr.alloc (.cells #[.int .u8 100, .int .i64 86400, .int .i64 1099511627777] 46)).cell? ⟨wr.heap.size, 0, none⟩ = some (.int .u8 100) := by simp
      have q1 : (wr.alloc (.cells #[.int .u8 100, .int .i64 86400, .int .i64 1099511627777] 46)).cell? ⟨wr.heap.size, 1, none⟩ = some (.int .i64 86400) := by simp
      have q2 : (wr.alloc (.cells #[.int .u8 100, .int .i64 86400, .int .i64 1099511627777] 46)).cell? ⟨wr.heap.size, 2, none⟩ = some (.int .i64 1099511627777) := by simp
      have hB1 : Below w.heap.size w (wr.alloc (.cells #[.int .u8 100, .int .i64 86400, .int .i64 1099511627777] 46)) := hB.alloc hB.size _
      go_wp2_with fail
      generalize (wr.alloc (.cells #[.int .u8 100, .int .i64 86400, .int .i64 1099511627777] 46)) = w1 at *
      have hnum := numN_le rr
      have hmul := num_tk rr 0
      have hcn := number_l rr w1 hrl
      obtain ⟨c, HC⟩ : ∃ c : Int, Hid ((numN rr : Int) = c) := ⟨_, rfl⟩
      rw [HC.out] at hcn
      have hc0 : 0 ≤ c := by rw [← HC.out]; omega
      have hc1 : c ≤ 1099511627777 := by rw [← HC.out]; omega
      simp only [tk] at hmul
      have hc2 : c * 86400 ≤ 94997804639932800 := by rw [← HC.out]; omega
      have HT0 : Hid (tt ≤ 0 * 94997804639932800) := htt
      have HC2 : Hid (c * 86400 ≤ 94997804639932800) := hc2
      clear hnum hmul htt hc2
      refine hcn.mono ?_
      rintro e w2 ⟨rfl, n2, hw2⟩
      have p0 : w2.cell? ⟨wr.heap.size, 0, none⟩ = some (.int .u8 100) := by rw [hw2]; exact q0
      have p1 : w2.cell? ⟨wr.heap.size, 1, none⟩ = some (.int .i64 86400) := by rw [hw2]; exact q1
      have p2 : w2.cell? ⟨wr.heap.size, 2, none⟩ = some (.int .i64 1099511627777) := by rw [hw2]; exact q2
      have hB2 : Below w.heap.size w w2 := by rw [hw2]; exact below_drewN hB1 n2
      clear hw2 q0 q1 q2 hB1 hB
      by_cases hbe : be rr = []
      · have e1 : B (be rr) = ⟨#[]⟩ := by rw [hbe]; rfl
        rw [e1]
        go_wp2
        try rw [Exit.noGoto_ret]
        go_ret2
        rw [← HP.out, parts_nil hk1 hbe]
        exact ⟨rfl, hB2⟩
      · have hpos : 0 < (be rr).length := List.length_pos_iff.2 hbe
        have hpB : 0 < (B (be rr)).size := hpos
        have hbs : (B (be rr)).size = (be rr).length := rfl
        have hbn : ((B (be rr)).toList == ([] : List UInt8)) = false := by rw [beq_eq_false_iff_ne, ByteArray.toList_eq]; exact hbe
        have hrpos : 0 < rr.length := List.length_pos_iff.2 (be_nil hbe)
        have hrB : 0 < (B rr).size := hrpos
        have hrs : (B rr).size = rr.length := rfl
        have i1 := idx_first (be rr) hbe
        have i2 := idx_first rr (be_nil hbe)
        obtain ⟨x, hx0⟩ : ∃ x, hdI (be rr) = x := ⟨_, rfl⟩
        obtain ⟨y, hy0⟩ : ∃ y, hdI rr = y := ⟨_, rfl⟩
        rw [hx0] at i1
        rw [hy0] at i2
        have HX0 : Hid (hdI (be rr) = x) := hx0
        have HY0 : Hid (hdI rr = y) := hy0
        clear hx0 hy0
        by_cases hhd : x = 100
        · subst hhd
          have HL : Hid ((be rr).headD 0 = lt' 0) := (hdI_eq _ (lt' 0) 100 rfl).1 HX0.out
          go_wp2
          go_quiet (fail)
          by_cases g1 : y < 49
          · have HG : Hid (badH rr = true) := by
              show _ = _
              rw [hdI_bad, HY0.out]; simp [g1]
            go_wp2
            try rw [Exit.noGoto_ret]
            go_ret2
            rw [← HP.out, parts_bad hk1 hbe HL.out (.inl HG.out)]
            exact ⟨rfl, below_drewN hB2 _⟩
          · have g1d : decide (y < 49) = false := by simpa using g1
            by_cases g2 : 57 < y
            · have HG : Hid (badH rr = true) := by
                show _ = _
                rw [hdI_bad, HY0.out]; simp [g2]
              go_wp2
              try rw [Exit.noGoto_ret]
              go_ret2
              rw [← HP.out, parts_bad hk1 hbe HL.out (.inl HG.out)]
              exact ⟨rfl, below_drewN hB2 _⟩
            · have g2d : decide (57 < y) = false := by simpa using g2
              have HG : Hid (badH rr = false) := by
                show _ = _
                rw [hdI_bad, HY0.out, g1d, g2d]; rfl
              by_cases g3 : (1099511627777 : Int) < c
              · exact absurd g3 (by omega)
              · have g3i : decide ((1099511627777 : Int) < c) = false := by simpa using g3
                have HN : Hid (partsG (4 - (0 + 1)) (0 + 1) (tt + numN rr * tk 0) (be rr).tail = partsG 4 0 0 l) := by
                  show _ = _
                  rw [← HP.out, parts_go hk1 hbe HL.out HG.out (by have := HC.out; simp only [ms]; omega)]
                have htl : (be rr).tail.length ≤ rr.length := by
                  have h1 := be_len rr
                  rw [List.length_tail]; omega
                have HX : Hid ((B (be rr)).extract 1 (be rr).length = B (be rr).tail) := by
                  show _ = _
                  rw [extract_mid, List.take_of_length_le (by simp), List.drop_one]
                have htt : (tt : Int) ≤ 0 * 94997804639932800 := by have := HT0.out; omega
                have hc2 := HC2.out
                go_wp2
                go_roundw
                case rel =>
                  exact ⟨0 + 1, tt + numN rr * tk 0, (be rr).tail, by omega, by go_num, by rw [← HC.out]; simp only [tk]; go_num, by rw [HX.out], by have := HC.out; have := HT0.out; have := HC2.out; simp only [tk]; omega, Nat.le_trans htl hrr, HN, below_drewN hB2 _⟩
                case measure => simp [intOf]
        · have hxn : (x != 100) = true := by simpa using hhd
          have HL : Hid (partsG (4 - (0 + 1)) (0 + 1) tt rr = partsG 4 0 0 l) := by
            show _ = _
            rw [← HP.out, parts_skip hk1 hbe (fun q => hhd (HX0.out.symm.trans ((hdI_eq _ (lt' 0) 100 rfl).2 q)))]
          go_wp2
          go_quiet (fail)
          go_wp2
          go_roundw
          case rel => exact ⟨0 + 1, tt, rr, by omega, by go_num, rfl, rfl, by have := HT0.out; omega, hrr, HL, below_drewN hB2 _⟩
          case measure => simp [intOf]
    · -- the unit 1
      have hk1 : (1 : Nat) < 4 := by omega
      simp only [Int.cast_ofNat_Int]
      have ix := idx1
      have q0 : (wr.alloc (.cells #[.int .u8 104, .int .i64 3600, .int .i64 23] 46)).cell? ⟨wr.heap.size, 0, none⟩ = some (.int .u8 104) := by simp
      have q1 : (wr.alloc (.cells #[.int .u8 104, .int .i64 3600, .int .i64 23] 46)).cell? ⟨wr.heap.size, 1, none⟩ = some (.int .i64 3600) := by simp
      have q2 : (wr.alloc (.cells #[.int .u8 104, .int .i64 3600, .int .i64 23] 46)).cell? ⟨wr.heap.size, 2, none⟩ = some (.int .i64 23) := by simp
      have hB1 : Below w.heap.size w (wr.alloc (.cells #[.int .u8 104, .int .i64 3600, .int .i64 23] 46)) := hB.alloc hB.size _
      go_wp2_with fail
      generalize (wr.alloc (.cells #[.int .u8 104, .int .i64 3600, .int .i64 23] 46)) = w1 at *
      have hnum := numN_le rr
      have hmul := num_tk rr 1
      have hcn := number_l rr w1 hrl
      obtain ⟨c, HC⟩ : ∃ c : Int, Hid ((numN rr : Int) = c) := ⟨_, rfl⟩
      rw [HC.out] at hcn
      have hc0 : 0 ≤ c := by rw [← HC.out]; omega
      have hc1 : c ≤ 1099511627777 := by rw [← HC.out]; omega
      simp only [tk] at hmul
      have hc2 : c * 3600 ≤ 94997804639932800 := by rw [← HC.out]; omega
      have HT0 : Hid (tt ≤ 1 * 94997804639932800) := htt
      have HC2 : Hid (c * 3600 ≤ 94997804639932800) := hc2
      clear hnum hmul htt hc2
      refine hcn.mono ?_
      rintro e w2 ⟨rfl, n2, hw2⟩
      have p0 : w2.cell? ⟨wr.heap.size, 0, none⟩ = some (.int .u8 104) := by rw [hw2]; exact q0
      have p1 : w2.cell? ⟨wr.heap.size, 1, none⟩ = some (.int .i64 3600) := by rw [hw2]; exact q1
      have p2 : w2.cell? ⟨wr.heap.size, 2, none⟩ = some (.int .i64 23) := by rw [hw2]; exact q2
      have hB2 : Below w.heap.size w w2 := by rw [hw2]; exact below_drewN hB1 n2
      clear hw2 q0 q1 q2 hB1 hB
      by_cases hbe : be rr = []
      · have e1 : B (be rr) = ⟨#[]⟩ := by rw [hbe]; rfl
        rw [e1]
        go_wp2
        try rw [Exit.noGoto_ret]
        go_ret2
        rw [← HP.out, parts_nil hk1 hbe]
        exact ⟨rfl, hB2⟩
      · have hpos : 0 < (be rr).length := List.length_pos_iff.2 hbe
        have hpB : 0 < (B (be rr)).size := hpos
        have hbs : (B (be rr)).size = (be rr).length := rfl
        have hbn : ((B (be rr)).toList == ([] : List UInt8)) = false := by rw [beq_eq_false_iff_ne, ByteArray.toList_eq]; exact hbe
        have hrpos : 0 < rr.length := List.length_pos_iff.2 (be_nil hbe)
        have hrB : 0 < (B rr).size := hrpos
        have hrs : (B rr).size = rr.length := rfl
        have i1 := idx_first (be rr) hbe
        have i2 := idx_first rr (be_nil hbe)
        obtain ⟨x, hx0⟩ : ∃ x, hdI (be rr) = x := ⟨_, rfl⟩
        obtain ⟨y, hy0⟩ : ∃ y, hdI rr = y := ⟨_, rfl⟩
        rw [hx0] at i1
        rw [hy0] at i2
        have HX0 : Hid (hdI (be rr) = x) := hx0
        have HY0 : Hid (hdI rr = y) := hy0
        clear hx0 hy0
        by_cases hhd : x = 104
        · subst hhd
          have HL : Hid ((be rr).headD 0 = lt' 1) := (hdI_eq _ (lt' 1) 104 rfl).1 HX0.out
          go_wp2
          go_quiet (fail)
          by_cases g1 : y < 49
          · have HG : Hid (badH rr = true) := by
              show _ = _
              rw [hdI_bad, HY0.out]; simp [g1]
            go_wp2
            try rw [Exit.noGoto_ret]
            go_ret2
            rw [← HP.out, parts_bad hk1 hbe HL.out (.inl HG.out)]
            exact ⟨rfl, below_drewN hB2 _⟩
          · have g1d : decide (y < 49) = false := by simpa using g1
            by_cases g2 : 57 < y
            · have HG : Hid (badH rr = true) := by
                show _ = _
                rw [hdI_bad, HY0.out]; simp [g2]
              go_wp2
              try rw [Exit.noGoto_ret]
              go_ret2
              rw [← HP.out, parts_bad hk1 hbe HL.out (.inl HG.out)]
              exact ⟨rfl, below_drewN hB2 _⟩
            · have g2d : decide (57 < y) = false := by simpa using g2
              have HG : Hid (badH rr = false) := by
                show _ = _
                rw [hdI_bad, HY0.out, g1d, g2d]; rfl
              by_cases g3 : (23 : Int) < c
              · have HM : Hid (ms 1 < numN rr) := by
                  have := HC.out
                  show ms 1 < numN rr
                  simp only [ms]; omega
                go_wp2
                try rw [Exit.noGoto_ret]
                go_ret2
                rw [← HP.out, parts_bad hk1 hbe HL.out (.inr HM.out)]
                exact ⟨rfl, below_drewN hB2 _⟩
              · have g3i : decide ((23 : Int) < c) = false := by simpa using g3
                have HN : Hid (partsG (4 - (1 + 1)) (1 + 1) (tt + numN rr * tk 1) (be rr).tail = partsG 4 0 0 l) := by
                  show _ = _
                  rw [← HP.out, parts_go hk1 hbe HL.out HG.out (by have := HC.out; simp only [ms]; omega)]
                have htl : (be rr).tail.length ≤ rr.length := by
                  have h1 := be_len rr
                  rw [List.length_tail]; omega
                have HX : Hid ((B (be rr)).extract 1 (be rr).length = B (be rr).tail) := by
                  show _ = _
                  rw [extract_mid, List.take_of_length_le (by simp), List.drop_one]
                have htt : (tt : Int) ≤ 1 * 94997804639932800 := by have := HT0.out; omega
                have hc2 := HC2.out
                go_wp2
                go_roundw
                case rel =>
                  exact ⟨1 + 1, tt + numN rr * tk 1, (be rr).tail, by omega, by go_num, by rw [← HC.out]; simp only [tk]; go_num, by rw [HX.out], by have := HC.out; have := HT0.out; have := HC2.out; simp only [tk]; omega, Nat.le_trans htl hrr, HN, below_drewN hB2 _⟩
                case measure => simp [intOf]
        · have hxn : (x != 104) = true := by simpa using hhd
          have HL : Hid (partsG (4 - (1 + 1)) (1 + 1) tt rr = partsG 4 0 0 l) := by
            show _ = _
            rw [← HP.out, parts_skip hk1 hbe (fun q => hhd (HX0.out.symm.trans ((hdI_eq _ (lt' 1) 104 rfl).2 q)))]
          go_wp2
          go_quiet (fail)
          go_wp2
          go_roundw
          case rel => exact ⟨1 + 1, tt, rr, by omega, by go_num, rfl, rfl, by have := HT0.out; omega, hrr, HL, below_drewN hB2 _⟩
          case measure => simp [intOf]
    · -- the unit 2
      have hk1 : (2 : Nat) < 4 := by omega
      simp only [Int.cast_ofNat_Int]
      have ix := idx2
      have q0 : (wr.alloc (.cells #[.int .u8 109, .int .i64 60, .int .i64 59] 46)).cell? ⟨wr.heap.size, 0, none⟩ = some (.int .u8 109) := by simp
      have q1 : (wr.alloc (.cells #[.int .u8 109, .int .i64 60, .int .i64 59] 46)).cell? ⟨wr.heap.size, 1, none⟩ = some (.int .i64 60) := by simp
      have q2 : (wr.alloc (.cells #[.int .u8 109, .int .i64 60, .int .i64 59] 46)).cell? ⟨wr.heap.size, 2, none⟩ = some (.int .i64 59) := by simp
      have hB1 : Below w.heap.size w (wr.alloc (.cells #[.int .u8 109, .int .i64 60, .int .i64 59] 46)) := hB.alloc hB.size _
      go_wp2_with fail
      generalize (wr.alloc (.cells #[.int .u8 109, .int .i64 60, .int .i64 59] 46)) = w1 at *
      have hnum := numN_le rr
      have hmul := num_tk rr 2
      have hcn := number_l rr w1 hrl
      obtain ⟨c, HC⟩ : ∃ c : Int, Hid ((numN rr : Int) = c) := ⟨_, rfl⟩
      rw [HC.out] at hcn
      have hc0 : 0 ≤ c := by rw [← HC.out]; omega
      have hc1 : c ≤ 1099511627777 := by rw [← HC.out]; omega
      simp only [tk] at hmul
      have hc2 : c * 60 ≤ 94997804639932800 := by rw [← HC.out]; omega
      have HT0 : Hid (tt ≤ 2 * 94997804639932800) := htt
      have HC2 : Hid (c * 60 ≤ 94997804639932800) := hc2
      clear hnum hmul htt hc2
      refine hcn.mono ?_
      rintro e w2 ⟨rfl, n2, hw2⟩
      have p0 : w2.cell? ⟨wr.heap.size, 0, none⟩ = some (.int .u8 109) := by rw [hw2]; exact q0
      have p1 : w2.cell? ⟨wr.heap.size, 1, none⟩ = some (.int .i64 60) := by rw [hw2]; exact q1
      have p2 : w2.cell? ⟨wr.heap.size, 2, none⟩ = some (.int .i64 59) := by rw [hw2]; exact q2
      have hB2 : Below w.heap.size w w2 := by rw [hw2]; exact below_drewN hB1 n2
      clear hw2 q0 q1 q2 hB1 hB
      by_cases hbe : be rr = []
      · have e1 : B (be rr) = ⟨#[]⟩ := by rw [hbe]; rfl
        rw [e1]
        go_wp2
        try rw [Exit.noGoto_ret]
        go_ret2
        rw [← HP.out, parts_nil hk1 hbe]
        exact ⟨rfl, hB2⟩
      · have hpos : 0 < (be rr).length := List.length_pos_iff.2 hbe
        have hpB : 0 < (B (be rr)).size := hpos
        have hbs : (B (be rr)).size = (be rr).length := rfl
        have hbn : ((B (be rr)).toList == ([] : List UInt8)) = false := by rw [beq_eq_false_iff_ne, ByteArray.toList_eq]; exact hbe
        have hrpos : 0 < rr.length := List.length_pos_iff.2 (be_nil hbe)
        have hrB : 0 < (B rr).size := hrpos
        have hrs : (B rr).size = rr.length := rfl
        have i1 := idx_first (be rr) hbe
        have i2 := idx_first rr (be_nil hbe)
        obtain ⟨x, hx0⟩ : ∃ x, hdI (be rr) = x := ⟨_, rfl⟩
        obtain ⟨y, hy0⟩ : ∃ y, hdI rr = y := ⟨_, rfl⟩
        rw [hx0] at i1
        rw [hy0] at i2
        have HX0 : Hid (hdI (be rr) = x) := hx0
        have HY0 : Hid (hdI rr = y) := hy0
        clear hx0 hy0
        by_cases hhd : x = 109
        · subst hhd
          have HL : Hid ((be rr).headD 0 = lt' 2) := (hdI_eq _ (lt' 2) 109 rfl).1 HX0.out
          go_wp2
          go_quiet (fail)
          by_cases g1 : y < 49
          · have HG : Hid (badH rr = true) := by
              show _ = _
              rw [hdI_bad, HY0.out]; simp [g1]
            go_wp2
            try rw [Exit.noGoto_ret]
            go_ret2
            rw [← HP.out, parts_bad hk1 hbe HL.out (.inl HG.out)]
            exact ⟨rfl, below_drewN hB2 _⟩
          · have g1d : decide (y < 49) = false := by simpa using g1
            by_cases g2 : 57 < y
            · have HG : Hid (badH rr = true) := by
                show _ = _
                rw [hdI_bad, HY0.out]; simp [g2]
              go_wp2
              try rw [Exit.noGoto_ret]
              go_ret2
              rw [← HP.out, parts_bad hk1 hbe HL.out (.inl HG.out)]
              exact ⟨rfl, below_drewN hB2 _⟩
            · have g2d : decide (57 < y) = false := by simpa using g2
              have HG : Hid (badH rr = false) := by
                show _ = _
                rw [hdI_bad, HY0.out, g1d, g2d]; rfl
              by_cases g3 : (59 : Int) < c
              · have HM : Hid (ms 2 < numN rr) := by
                  have := HC.out
                  show ms 2 < numN rr
                  simp only [ms]; omega
                go_wp2
                try rw [Exit.noGoto_ret]
                go_ret2
                rw [← HP.out, parts_bad hk1 hbe HL.out (.inr HM.out)]
                exact ⟨rfl, below_drewN hB2 _⟩
              · have g3i : decide ((59 : Int) < c) = false := by simpa using g3
                have HN : Hid (partsG (4 - (2 + 1)) (2 + 1) (tt + numN rr * tk 2) (be rr).tail = partsG 4 0 0 l) := by
                  show _ = _
                  rw [← HP.out, parts_go hk1 hbe HL.out HG.out (by have := HC.out; simp only [ms]; omega)]
                have htl : (be rr).tail.length ≤ rr.length := by
                  have h1 := be_len rr
                  rw [List.length_tail]; omega
                have HX : Hid ((B (be rr)).extract 1 (be rr).length = B (be rr).tail) := by
                  show _ = _
                  rw [extract_mid, List.take_of_length_le (by simp), List.drop_one]
                have htt : (tt : Int) ≤ 2 * 94997804639932800 := by have := HT0.out; omega
                have hc2 := HC2.out
                go_wp2
                go_roundw
                case rel =>
                  exact ⟨2 + 1, tt + numN rr * tk 2, (be rr).tail, by omega, by go_num, by rw [← HC.out]; simp only [tk]; go_num, by rw [HX.out], by have := HC.out; have := HT0.out; have := HC2.out; simp only [tk]; omega, Nat.le_trans htl hrr, HN, below_drewN hB2 _⟩
                case measure => simp [intOf]
        · have hxn : (x != 109) = true := by simpa using hhd
          have HL : Hid (partsG (4 - (2 + 1)) (2 + 1) tt rr = partsG 4 0 0 l) := by
            show _ = _
            rw [← HP.out, parts_skip hk1 hbe (fun q => hhd (HX0.out.symm.trans ((hdI_eq _ (lt' 2) 109 rfl).2 q)))]
          go_wp2
          go_quiet (fail)
          go_wp2
          go_roundw
          case rel => exact ⟨2 + 1, tt, rr, by omega, by go_num, rfl, rfl, by have := HT0.out; omega, hrr, HL, below_drewN hB2 _⟩
          case measure => simp [intOf]
    · -- the unit 3
      have hk1 : (3 : Nat) < 4 := by omega
      simp only [Int.cast_ofNat_Int]
      have ix := idx3
      have q0 : (wr.alloc (.cells #[.int .u8 115, .int .i64 1, .int .i64 59] 46)).cell? ⟨wr.heap.size, 0, none⟩ = some (.int .u8 115) := by simp
      have q1 : (wr.alloc (.cells #[.int .u8 115, .int .i64 1, .int .i64 59] 46)).cell? ⟨wr.heap.size, 1, none⟩ = some (.int .i64 1) := by simp
      have q2 : (wr.alloc (.cells #[.int .u8 115, .int .i64 1, .int .i64 59] 46)).cell? ⟨wr.heap.size, 2, none⟩ = some (.int .i64 59) := by simp
      have hB1 : Below w.heap.size w (wr.alloc (.cells #[.int .u8 115, .int .i64 1, .int .i64 59] 46)) := hB.alloc hB.size _
      go_wp2_with fail
      generalize (wr.alloc (.cells #[.int .u8 115, .int .i64 1, .int .i64 59] 46)) = w1 at *
      have hnum := numN_le rr
      have hmul := num_tk rr 3
      have hcn := number_l rr w1 hrl
      obtain ⟨c, HC⟩ : ∃ c : Int, Hid ((numN rr : Int) = c) := ⟨_, rfl⟩
      rw [HC.out] at hcn
      have hc0 : 0 ≤ c := by rw [← HC.out]; omega
      have hc1 : c ≤ 1099511627777 := by rw [← HC.out]; omega
      simp only [tk] at hmul
      have hc2 : c * 1 ≤ 94997804639932800 := by rw [← HC.out]; omega
      have HT0 : Hid (tt ≤ 3 * 94997804639932800) := htt
      have HC2 : Hid (c * 1 ≤ 94997804639932800) := hc2
      clear hnum hmul htt hc2
      refine hcn.mono ?_
      rintro e w2 ⟨rfl, n2, hw2⟩
      have p0 : w2.cell? ⟨wr.heap.size, 0, none⟩ = some (.int .u8 115) := by rw [hw2]; exact q0
      have p1 : w2.cell? ⟨wr.heap.size, 1, none⟩ = some (.int .i64 1) := by rw [hw2]; exact q1
      have p2 : w2.cell? ⟨wr.heap.size, 2, none⟩ = some (.int .i64 59) := by rw [hw2]; exact q2
      have hB2 : Below w.heap.size w w2 := by rw [hw2]; exact below_drewN hB1 n2
      clear hw2 q0 q1 q2 hB1 hB
      by_cases hbe : be rr = []
      · have e1 : B (be rr) = ⟨#[]⟩ := by rw [hbe]; rfl
        rw [e1]
        go_wp2
        try rw [Exit.noGoto_ret]
        go_ret2
        rw [← HP.out, parts_nil hk1 hbe]
        exact ⟨rfl, hB2⟩
      · have hpos : 0 < (be rr).length := List.length_pos_iff.2 hbe
        have hpB : 0 < (B (be rr)).size := hpos
        have hbs : (B (be rr)).size = (be rr).length := rfl
        have hbn : ((B (be rr)).toList == ([] : List UInt8)) = false := by rw [beq_eq_false_iff_ne, ByteArray.toList_eq]; exact hbe
        have hrpos : 0 < rr.length := List.length_pos_iff.2 (be_nil hbe)
        have hrB : 0 < (B rr).size := hrpos
        have hrs : (B rr).size = rr.length := rfl
        have i1 := idx_first (be rr) hbe
        have i2 := idx_first rr (be_nil hbe)
        obtain ⟨x, hx0⟩ : ∃ x, hdI (be rr) = x := ⟨_, rfl⟩
        obtain ⟨y, hy0⟩ : ∃ y, hdI rr = y := ⟨_, rfl⟩
        rw [hx0] at i1
        rw [hy0] at i2
        have HX0 : Hid (hdI (be rr) = x) := hx0
        have HY0 : Hid (hdI rr = y) := hy0
        clear hx0 hy0
        by_cases hhd : x = 115
        · subst hhd
          have HL : Hid ((be rr).headD 0 = lt' 3) := (hdI_eq _ (lt' 3) 115 rfl).1 HX0.out
          go_wp2
          go_quiet (fail)
          by_cases g1 : y < 49
          · have HG : Hid (badH rr = true) := by
              show _ = _
              rw [hdI_bad, HY0.out]; simp [g1]
            go_wp2
            try rw [Exit.noGoto_ret]
            go_ret2
            rw [← HP.out, parts_bad hk1 hbe HL.out (.inl HG.out)]
            exact ⟨rfl, below_drewN hB2 _⟩
          · have g1d : decide (y < 49) = false := by simpa using g1
            by_cases g2 : 57 < y
            · have HG : Hid (badH rr = true) := by
                show _ = _
                rw [hdI_bad, HY0.out]; simp [g2]
              go_wp2
              try rw [Exit.noGoto_ret]
              go_ret2
              rw [← HP.out, parts_bad hk1 hbe HL.out (.inl HG.out)]
              exact ⟨rfl, below_drewN hB2 _⟩
            · have g2d : decide (57 < y) = false := by simpa using g2
              have HG : Hid (badH rr = false) := by
                show _ = _
                rw [hdI_bad, HY0.out, g1d, g2d]; rfl
              by_cases g3 : (59 : Int) < c
              · have HM : Hid (ms 3 < numN rr) := by
                  have := HC.out
                  show ms 3 < numN rr
                  simp only [ms]; omega
                go_wp2
                try rw [Exit.noGoto_ret]
                go_ret2
                rw [← HP.out, parts_bad hk1 hbe HL.out (.inr HM.out)]
                exact ⟨rfl, below_drewN hB2 _⟩
              · have g3i : decide ((59 : Int) < c) = false := by simpa using g3
                have HN : Hid (partsG (4 - (3 + 1)) (3 + 1) (tt + numN rr * tk 3) (be rr).tail = partsG 4 0 0 l) := by
                  show _ = _
                  rw [← HP.out, parts_go hk1 hbe HL.out HG.out (by have := HC.out; simp only [ms]; omega)]
                have htl : (be rr).tail.length ≤ rr.length := by
                  have h1 := be_len rr
                  rw [List.length_tail]; omega
                have HX : Hid ((B (be rr)).extract 1 (be rr).length = B (be rr).tail) := by
                  show _ = _
                  rw [extract_mid, List.take_of_length_le (by simp), List.drop_one]
                have htt : (tt : Int) ≤ 3 * 94997804639932800 := by have := HT0.out; omega
                have hc2 := HC2.out
                go_wp2
                go_roundw
                case rel =>
                  exact ⟨3 + 1, tt + numN rr * tk 3, (be rr).tail, by omega, by go_num, by rw [← HC.out]; simp only [tk]; go_num, by rw [HX.out], by have := HC.out; have := HT0.out; have := HC2.out; simp only [tk]; omega, Nat.le_trans htl hrr, HN, below_drewN hB2 _⟩
                case measure => simp [intOf]
        · have hxn : (x != 115) = true := by simpa using hhd
          have HL : Hid (partsG (4 - (3 + 1)) (3 + 1) tt rr = partsG 4 0 0 l) := by
            show _ = _
            rw [← HP.out, parts_skip hk1 hbe (fun q => hhd (HX0.out.symm.trans ((hdI_eq _ (lt' 3) 115 rfl).2 q)))]
          go_wp2
          go_quiet (fail)
          go_wp2
          go_roundw
          case rel => exact ⟨3 + 1, tt, rr, by omega, by go_num, rfl, rfl, by have := HT0.out; omega, hrr, HL, below_drewN hB2 _⟩
          case measure => simp [intOf]
    · -- behind the last unit
      simp only [Int.cast_ofNat_Int]
      go_wp2
      try rw [Exit.noGoto_ret]
      go_ret2
      rw [← HP.out]
      exact ⟨rfl, hB⟩
end Ck
end Go.Proofs.YtfibcbnhjajdlabDoor
