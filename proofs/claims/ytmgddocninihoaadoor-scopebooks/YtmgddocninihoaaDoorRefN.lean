/- The document's answer for New, All and Print. -/
import Derived.Test.YtmgddocninihoaaDoorBack
namespace Go.Proofs.YtmgddocninihoaaDoor
set_option linter.ambiguousOpen false
open Go.RowKit Nm Er
namespace Sc
set_option linter.unusedSimpArgs false
set_option linter.unusedVariables false

theorem rnew_many (v : Value) (l : List (List UInt8)) (w : World) (h : Rd w v l) (hl : 64 < l.length) :
    Calls Tryd.prog 9 #[v] w fun e w' => e = .returned (.tuple #[.int .i64 5, .int .i64 (-1)]) ∧ w' = w := by
  obtain ⟨a, cap, rfl, hc, hm, hcell⟩ := h
  unfold maxLen at hm
  clear hcell
  go_enter Tryd.func9, Tryd.ntmps9
  go_wp2
  go_ret2
  exact ⟨rfl, rfl⟩

/-- The document's answer for New: the error's number, its place or -1. -/
def newV (l : List (List UInt8)) : Int × Int := match newG [] l with
  | none => (0, -1)
  | some (n, k) => ((n : Int), (k : Int))

theorem below_drewN {w w' : World} {n : Nat} (h : Below w.heap.size w w') : Below w.heap.size w (w'.drewN n) := ⟨h.os, h.tape, h.output, h.size, h.block⟩

set_option maxRecDepth 100000 in
set_option maxHeartbeats 2000000 in
theorem rnew_any (v : Value) (l : List (List UInt8)) (w : World) (h : Rd w v l) (hl : l.length ≤ 64) (hlen : ∀ p ∈ l, p.length ≤ maxLen) :
    Calls Tryd.prog 9 #[v] w fun e w' => e = .returned (.tuple #[.int .i64 (newV l).1, .int .i64 (newV l).2]) ∧ Below w.heap.size w w' := by
  obtain ⟨a, cap, rfl, hc, hm, hcell⟩ := h
  unfold maxLen at hm
  have HC : Hid (0 < l.length → ∃ g o, a = some ⟨g, o, none⟩ ∧ g < w.heap.size ∧ ∀ j (hj : j < l.length), w.cell? ⟨g, o + j, none⟩ = some (.string (B l[j]))) := hcell
  clear hcell
  have HL : Hid (∀ p ∈ l, p.length ≤ maxLen) := hlen
  clear hlen
  go_enter Tryd.func9, Tryd.ntmps9
  go_wp2
  go_loopw [4] (fun i wr => ∃ k : Nat, k ≤ l.length ∧ i = .int .i64 k ∧ Below w.heap.size w wr ∧ Hid (newG (l.take k) (l.drop k) = newG [] l)) (fun i _ => l.length - (intOf i).toNat)
  case atStart => exact ⟨0, Nat.zero_le _, rfl, Below.refl _ _, rfl⟩
  case round =>
    obtain ⟨k, hk, rfl, hb, hG⟩ := hrel
    by_cases hp : k < l.length
    · obtain ⟨g, o, rfl, hgl, hcj⟩ := HC.out (Nat.lt_of_le_of_lt (Nat.zero_le _) hp)
      have hck : wr.cell? ⟨g, o + k, none⟩ = some (.string (B l[k])) := (hb.cell (p := ⟨g, o + k, none⟩) hgl).trans (hcj k hp)
      have hpl : (l[k]).length ≤ maxLen := HL.out _ (List.getElem_mem hp)
      have hdr : l.drop k = l[k] :: l.drop (k + 1) := List.drop_eq_getElem_cons hp
      have htk : l.take (k + 1) = l.take k ++ [l[k]] := List.take_succ_eq_append_getElem hp
      have hlt : (l.take k).length = k := by rw [List.length_take]; omega
      have HCJ : Hid (∀ j (hj : j < l.length), w.cell? ⟨g, o + j, none⟩ = some (.string (B l[j]))) := hcj
      clear hcj
      have cd := rdotted_l l[k] wr hpl
      by_cases hd : dottedB l[k] = false
      · rw [hd] at cd
        have hG2 : Hid (newV l = (8, (k : Int))) := by
          show newV l = (8, (k : Int))
          unfold newV
          rw [← hG.out, hdr]; simp [newG, hd, hlt]
        generalize B l[k] = q at *
        clear hG hdr htk hd
        go_wp2_with fail
        refine cd.mono ?_
        rintro e w1 ⟨rfl, hb1⟩
        go_wp2
        go_ret2
        rw [hG2.out]
        exact ⟨rfl, hb.trans (hb1.mono hb.size)⟩
      · have hd' : dottedB l[k] = true := by simpa using hd
        rw [hd'] at cd
        have HIN : Hid (l[k] ∈ l.take k → newV l = (9, (k : Int))) := fun hin => by
          unfold newV
          rw [← hG.out, hdr]; simp [newG, hd', hin, hlt]
        have HOUT : Hid (l[k] ∉ l.take k → newG (l.take (k + 1)) (l.drop (k + 1)) = newG [] l) := fun hout => by
          rw [← hG.out, hdr, htk]; simp [newG, hd', hout]
        clear hG hdr htk hd hd'
        go_wp2_with fail
        refine cd.mono ?_
        rintro e w1 ⟨rfl, hb1⟩
        have hB1 := hb.trans (hb1.mono hb.size)
        go_wp2
        clear hck
        rename World => wOld
        go_loopw [5] (fun j w3 => ∃ m : Nat, m ≤ k ∧ j = .int .i64 m ∧ Below w.heap.size w w3 ∧ Hid (∀ i (hi : i < l.length), i < m → l[i] ≠ l[k])) (fun j _ => k - (intOf j).toNat)
        case atStart => exact ⟨0, Nat.zero_le _, rfl, hB1, fun i hi h => by omega⟩
        case round =>
          obtain ⟨m, hm2, rfl, hb3, hno⟩ := hrel
          by_cases hq : m < k
          · have hml : m < l.length := by omega
            have hcm : wr.cell? ⟨g, o + m, none⟩ = some (.string (B l[m])) := (hb3.cell (p := ⟨g, o + m, none⟩) hgl).trans (HCJ.out m hml)
            have hck : wr.cell? ⟨g, o + k, none⟩ = some (.string (B l[k])) := (hb3.cell (p := ⟨g, o + k, none⟩) hgl).trans (HCJ.out k hp)
            by_cases he : l[m] = l[k]
            · have hv := HIN.out (by rw [← he]; exact List.mem_take_iff_getElem.2 ⟨m, by omega, rfl⟩)
              have HV : Hid (newV l = (9, (k : Int))) := hv
              rw [he] at hcm
              generalize B l[k] = x at *
              clear he hv
              go_wp2
              go_quiet (fail)
              go_wp2
              go_ret2
              rw [HV.out]
              exact ⟨rfl, below_drewN hb3⟩
            · have hne : ((B l[m]).toList == (B l[k]).toList) = false := by
                rw [beq_eq_false_iff_ne, ByteArray.toList_eq, ByteArray.toList_eq]; exact he
              have HE : Hid (l[m] ≠ l[k]) := he
              clear he
              generalize B l[k] = x at *
              generalize B l[m] = y at *
              go_wp2
              go_quiet (fail)
              go_wp2
              go_roundw
              case rel =>
                refine ⟨m + 1, by omega, by go_num, below_drewN hb3, fun i hi h => ?_⟩
                rcases Nat.lt_or_ge i m with h' | h'
                · exact hno.out i hi h'
                · obtain rfl : i = m := by omega
                  exact HE.out
              case measure => simp [intOf]; omega
          · obtain rfl : m = k := by omega
            have HG3 : Hid (newG (l.take (m + 1)) (l.drop (m + 1)) = newG [] l) := HOUT.out (fun hin => by
              obtain ⟨j, hj, e⟩ := List.mem_take_iff_getElem.1 hin
              exact hno.out j (by omega) (by omega) e)
            go_wp2
            go_roundw
            case rel => exact ⟨m + 1, by omega, by go_num, hb3, HG3⟩
            case measure => simp [intOf]; omega
    · obtain rfl : k = l.length := by omega
      rw [List.take_length, List.drop_length] at hG
      have hG2 : Hid (newV l = (0, -1)) := by
        show newV l = (0, -1)
        unfold newV
        rw [← hG.out]; rfl
      go_wp2
      go_ret2
      rw [hG2.out]
      exact ⟨rfl, hb⟩
theorem allS_step (k : Nat) : allS k ||| Bt.pw k = allS (k + 1) := by
  refine Nat.eq_of_testBit_eq fun i => ?_
  rw [Nat.testBit_or]
  simp only [allS, Bt.pw, Nat.testBit_two_pow_sub_one, Nat.testBit_two_pow]
  rw [Bool.eq_iff_iff]
  simp; omega

set_option maxRecDepth 100000 in
set_option maxHeartbeats 2000000 in
theorem rall_s (v : Value) (l : List (List UInt8)) (w : World) (h : Rd w v l) (hl : l.length ≤ 64) :
    Calls Tryd.prog 17 #[v] w fun e w' => e = .returned (Bt.st (allS l.length)) ∧ w' = w := by
  obtain ⟨a, cap, rfl, hc, hm, hcell⟩ := h
  unfold maxLen at hm
  clear hcell
  go_enter Tryd.func17, Tryd.ntmps17
  go_wp2
  go_loopw [3, 4] (fun s i wr => ∃ k : Nat, k ≤ l.length ∧ i = .int .i64 k ∧ s = Bt.st (allS k) ∧ wr = w) (fun _ i _ => l.length - (intOf i).toNat)
  case atStart => exact ⟨0, Nat.zero_le _, rfl, rfl, rfl⟩
  case round =>
    obtain ⟨k, hk, rfl, rfl, rfl⟩ := hrel
    by_cases hp : k < l.length
    · have kp := Bt.pow_wrap k (by omega)
      have ko := u64_or_nat (allS k) (Bt.pw k) (allS_lt k (by omega)) (Bt.pow_lt k (by omega))
      have HS : Hid (allS k ||| Bt.pw k = allS (k + 1)) := allS_step k
      go_wp2_with (first | (simp only [kp]) | (simp only [ko]) | fail)
      go_roundw
      case rel => exact ⟨k + 1, by omega, by go_num, by rw [HS.out], trivial⟩
      case measure => simp [intOf]; omega
    · obtain rfl : k = l.length := by omega
      go_wp2
      go_ret
      exact ⟨rfl, rfl⟩

theorem B_empty : (⟨#[]⟩ : ByteArray) = B [] := rfl
theorem cat_l (a b : List UInt8) : B a ++ B b = B (a ++ b) := by
  apply ByteArray.ext
  simp [B]
theorem cat_blank (a : List UInt8) : B a ++ ⟨#[32]⟩ = B (a ++ [32]) := cat_l a [32]

theorem numsL_take (s n : Nat) (hn : n ≤ 64) (hw : ∀ i, n ≤ i → i < 64 → s.testBit i = false) : Bt.numsL s 64 = Bt.numsL s n := by
  have : ∀ d, n + d ≤ 64 → Bt.numsL s (n + d) = Bt.numsL s n := by
    intro d
    induction d with
    | zero => intro _; rfl
    | succ d ih =>
      intro h
      rw [← Nat.add_assoc, Bt.numsL_succ, ih (by omega), hw (n + d) (by omega) (by omega)]
      simp
  have e := this (64 - n) (by omega)
  rwa [show n + (64 - n) = 64 by omega] at e

set_option maxRecDepth 100000 in
set_option maxHeartbeats 2000000 in
theorem rprint_bad (v : Value) (l : List (List UInt8)) (s : Nat) (w : World) (h : Rd w v l) (hl : l.length ≤ 64) (hs : s < 18446744073709551616) (hw : Bt.less s (allS l.length) ≠ 0) :
    Calls Tryd.prog 21 #[v, Bt.st s] w fun e w' => e = .returned (.tuple #[.string ⟨#[]⟩, .int .i64 11]) ∧ w' = w := by
  have ca := rall_s v l w h hl
  have ka := u64_andNot_nat s (allS l.length) hs (allS_lt _ hl)
  have hwn : (((s &&& (18446744073709551615 - allS l.length) : Nat) : Int) != 0) = true := by rw [bne_iff_ne]; intro e; exact hw (by unfold Bt.less; omega)
  go_enter Tryd.func21, Tryd.ntmps21
  go_wp2_with fail
  refine ca.mono ?_
  rintro e w1 ⟨rfl, hq⟩
  subst w1
  go_wp2_with (first | (simp only [ka]) | fail)
  go_ret2
  exact ⟨rfl, rfl⟩

set_option maxRecDepth 100000 in
set_option maxHeartbeats 2000000 in
theorem rprint_s (v : Value) (l : List (List UInt8)) (s : Nat) (w : World) (h : Rd w v l) (hl : l.length ≤ 64) (hs : s < 18446744073709551616) (hw : Bt.less s (allS l.length) = 0) (hd : ∀ p ∈ l, dottedB p = true) :
    Calls Tryd.prog 21 #[v, Bt.st s] w fun e w' => e = .returned (.tuple #[.string (B (printL l s)), .int .i64 0]) ∧ w' = w := by
  have ca := rall_s v l w h hl
  have ka := u64_andNot_nat s (allS l.length) hs (allS_lt _ hl)
  have hwz : s &&& (18446744073709551615 - allS l.length) = 0 := hw
  have hwn : (((s &&& (18446744073709551615 - allS l.length) : Nat) : Int) != 0) = false := by rw [hwz]; rfl
  have HP : Hid (printL l s = outP l (Bt.numsL s l.length)) := by
    show _ = _
    unfold printL
    rw [numsL_take s l.length hl (fun i h1 h2 => by
      cases hb : s.testBit i with
      | false => rfl
      | true => have := within_lt hw hs hl h2 hb; omega)]
  have HD : Hid (∀ p ∈ l, dottedB p = true) := hd
  clear hwz hd
  obtain ⟨a, cap, rfl, hc, hm, hcell⟩ := h
  unfold maxLen at hm
  have HC : Hid (0 < l.length → ∃ g o, a = some ⟨g, o, none⟩ ∧ g < w.heap.size ∧ ∀ j (hj : j < l.length), w.cell? ⟨g, o + j, none⟩ = some (.string (B l[j]))) := hcell
  clear hcell
  go_enter Tryd.func21, Tryd.ntmps21
  go_wp2_with fail
  refine ca.mono ?_
  rintro e w1 ⟨rfl, hq⟩
  subst w1
  go_wp2_with (first | (simp only [ka]) | fail)
  go_loopw [6, 7] (fun t i wr => ∃ k : Nat, k ≤ l.length ∧ i = .int .i64 k ∧ t = .string (B (outP l (Bt.numsL s k))) ∧ wr = w) (fun _ i _ => l.length - (intOf i).toNat)
  case atStart => exact ⟨0, Nat.zero_le _, rfl, rfl, rfl⟩
  case round =>
    obtain ⟨k, hk, rfl, rfl, rfl⟩ := hrel
    by_cases hp : k < l.length
    · obtain ⟨g, o, rfl, hgl, hcj⟩ := HC.out (Nat.lt_of_le_of_lt (Nat.zero_le _) hp)
      have hck := hcj k hp
      have z := Bt.shr_one s k hs
      have h131 := dotted_len (HD.out _ (List.getElem_mem hp))
      have hol := outP_len l (fun p hp => dotted_len (HD.out p hp)) (Bt.numsL s k)
      have hnl : (Bt.numsL s k).length ≤ 64 := by
        have := List.length_filter_le (fun i => s.testBit i) (List.range k)
        simp [Bt.numsL] at this ⊢; omega
      clear hcj
      cases hb : s.testBit k with
      | false =>
        rw [hb] at z
        have HN : Hid (outP l (Bt.numsL s (k + 1)) = outP l (Bt.numsL s k)) := by
          show _ = _
          rw [Bt.numsL_succ, hb]; simp
        generalize B l[k] = x at *
        generalize hT : outP l (Bt.numsL s k) = T at *
        clear hb
        go_wp2
        go_roundw
        case rel => exact ⟨k + 1, by omega, by go_num, by rw [HN.out], trivial⟩
        case measure => simp [intOf]; omega
      | true =>
        rw [hb] at z
        have HN : Hid (outP l (Bt.numsL s (k + 1)) = addP (outP l (Bt.numsL s k)) l[k]) := by
          show _ = _
          rw [Bt.numsL_succ, hb, if_pos rfl, outP_snoc, getD_at l k hp]
        generalize l[k] = p at *
        generalize hT : outP l (Bt.numsL s k) = T at *
        clear hb hT
        have hsT : (B T).size = T.length := rfl
        have hsp : (B p).size = p.length := rfl
        by_cases hz : T = []
        · subst hz
          have e1 : addP [] p = p := by simp [addP]
          rw [e1] at HN
          have hzb : ((B []).toList == []) = true := by rw [ByteArray.toList_eq]; rfl
          have hc2 : B [] ++ B p = B p := cat_l [] p
          go_wp2_with (first | (simp only [hc2]) | fail)
          go_roundw
          case rel => exact ⟨k + 1, by omega, by go_num, by rw [HN.out], trivial⟩
          case measure => simp [intOf]; omega
        · have e1 : addP T p = (T ++ [32]) ++ p := by simp [addP, hz]
          rw [e1] at HN
          have hzb : ((B T).toList == []) = false := by rw [beq_eq_false_iff_ne, ByteArray.toList_eq]; exact hz
          have hc1 := cat_blank T
          have hs2 : (B (T ++ [32])).size = T.length + 1 := by show (T ++ [32]).length = _; simp
          have hc2 := cat_l (T ++ [32]) p
          clear hz e1
          go_wp2_with (first | (simp only [hc1]) | (simp only [hc2]) | fail)
          go_roundw
          case rel => exact ⟨k + 1, by omega, by go_num, by rw [HN.out]; simp, trivial⟩
          case measure => simp [intOf]; omega
    · obtain rfl : k = l.length := by omega
      go_wp2
      go_ret2
      rw [HP.out]
      exact ⟨rfl, rfl⟩
end Sc
end Go.Proofs.YtmgddocninihoaaDoor
