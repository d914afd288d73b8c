/- The words of a text, as the program hands them out. -/
import Derived.Test.YtmgddocninihoabDoorRead
import Derived.Test.YtmgddocninihoabDoorPieces
import Derived.Test.YtmgddocninihoabDoorRange
import Derived.Lib.IndexLaws
namespace Go.Proofs.YtmgddocninihoabDoor
set_option linter.ambiguousOpen false
open Go.RowKit Nm
namespace Sc
set_option linter.unusedSimpArgs false
set_option linter.unusedVariables false
attribute [local go_sem] Oper.semAt_some

/-- What stands ahead of the first blank. -/
def hb (t : List UInt8) : List UInt8 := t.takeWhile (· != 32)

theorem hb_len (t : List UInt8) : (hb t).length ≤ t.length := by
  unfold hb
  exact (List.takeWhile_sublist _).length_le

/-- The words of a text, each behind its place; the text begins at the place k. -/
def wordsN : Nat → Nat → List UInt8 → List (Nat × List UInt8)
  | 0, _, _ => []
  | n + 1, k, t => if t = [] then [] else (if hb t = [] then [] else [(k, hb t)]) ++ wordsN n (k + (hb t).length + 1) (t.drop ((hb t).length + 1))
def wordsL (k : Nat) (t : List UInt8) : List (Nat × List UInt8) := wordsN (t.length + 1) k t

theorem wordsN_more : ∀ (n m k : Nat) (t : List UInt8), t.length < n → n ≤ m → wordsN m k t = wordsN n k t
  | 0, _, _, _, h, _ => by omega
  | n + 1, 0, _, _, _, h => by omega
  | n + 1, m + 1, k, t, h, h2 => by
    simp only [wordsN]
    by_cases ht : t = []
    · simp [ht]
    · rw [if_neg ht, if_neg ht]
      have : 0 < t.length := List.length_pos_iff.2 ht
      rw [wordsN_more n m _ _ (by rw [List.length_drop]; omega) (by omega)]

theorem wordsL_nil (k : Nat) : wordsL k [] = [] := by simp [wordsL, wordsN]
theorem wordsL_step (k : Nat) (t : List UInt8) (h : t ≠ []) : wordsL k t = (if hb t = [] then [] else [(k, hb t)]) ++ wordsL (k + (hb t).length + 1) (t.drop ((hb t).length + 1)) := by
  have h0 : 0 < t.length := List.length_pos_iff.2 h
  have e : wordsL k t = (if hb t = [] then [] else [(k, hb t)]) ++ wordsN t.length (k + (hb t).length + 1) (t.drop ((hb t).length + 1)) := by
    unfold wordsL
    simp only [wordsN, if_neg h]
  rw [e]
  unfold wordsL
  rw [wordsN_more _ t.length _ _ (Nat.lt_succ_self _) (by rw [List.length_drop]; omega)]

theorem take_index {t : List UInt8} {o : Nat} (h : Lib.indexByte t 32 = (o : Int)) : t.take o = hb t ∧ o < t.length := by
  obtain ⟨h1, h2⟩ := Lib.indexByte_some h
  have ho : o < t.length := (List.getElem?_eq_some_iff.1 h1).1
  refine ⟨?_, ho⟩
  have e : t = t.take o ++ (32 :: t.drop (o + 1)) := by
    have := List.drop_eq_getElem_cons ho
    have e32 : t[o] = 32 := (List.getElem?_eq_some_iff.1 h1).2
    rw [e32] at this
    rw [← this, List.take_append_drop]
  have hall : ∀ x ∈ t.take o, (x != 32) = true := fun x hx => by
    obtain ⟨j, hj, rfl⟩ := List.getElem_of_mem hx
    have hj2 : j < o := by rw [List.length_take] at hj; omega
    have := h2 j hj2
    rw [List.getElem?_eq_getElem (by omega)] at this
    simp only [List.getElem_take]
    simpa using this
  have : hb t = hb (t.take o ++ (32 :: t.drop (o + 1))) := by rw [← e]
  rw [this]
  unfold hb
  rw [List.takeWhile_append_of_pos hall]
  simp

theorem none_index {t : List UInt8} (h : Lib.indexByte t 32 = -1) : hb t = t := by
  have hall : ∀ x ∈ t, (x != 32) = true := fun x hx => by
    obtain ⟨j, hj, rfl⟩ := List.getElem_of_mem hx
    have := Lib.indexByte_none h j
    rw [List.getElem?_eq_getElem hj] at this
    simpa using this
  have := List.takeWhile_append_of_pos (l₂ := []) hall
  simpa [hb] using this

set_option maxRecDepth 100000 in
set_option maxHeartbeats 1000000 in
theorem cutLite (t : List UInt8) (w : World) (ht : t.length ≤ 4096) :
    Calls Tryd.prog 44 #[.string (B t), .string ⟨#[32]⟩] w fun e w' => (∃ x y, e = .returned (.tuple #[.string (B (hb t)), x, y])) ∧ ∃ n, w' = w.drewN n := by
  have ci := Tryd.stringslite_Index_one (B t) 32 w
  have hsz : (B t).size = t.length := rfl
  have ci2 : Calls Tryd.prog 56 #[.string (B t), .string ⟨#[32]⟩] w fun e w' => e = .returned (.int .i64 (Lib.indexByte t 32)) ∧ w' = w := ci
  clear ci
  by_cases hn : Lib.indexByte t 32 < 0
  · have h1 : Lib.indexByte t 32 = -1 := by have := Lib.indexByte_ge t 32; omega
    rw [h1] at ci2
    have HE : Hid (hb t = t) := none_index h1
    clear h1 hn
    go_enter Tryd.func44, Tryd.ntmps44
    go_wp2_with (go_at_call 56; refine ci2.mono ?_; rintro e w1 ⟨rfl, rfl⟩)
    go_ret3
    rw [HE.out]
    exact ⟨⟨_, _, rfl⟩, 0, rfl⟩
  · obtain ⟨o, ho⟩ := Int.eq_ofNat_of_zero_le (Int.not_lt.1 hn)
    rw [ho] at ci2
    obtain ⟨h1, h2⟩ := take_index ho
    have HE : Hid ((B t).extract 0 o = B (hb t)) := by
      show _ = _
      rw [extract_mid, List.drop_zero, Nat.sub_zero, h1]
    clear h1 ho hn
    go_enter Tryd.func44, Tryd.ntmps44
    go_wp2_with (go_at_call 56; refine ci2.mono ?_; rintro e w1 ⟨rfl, rfl⟩)
    go_quiet (fail)
    go_wp2
    go_ret3
    rw [HE.out]
    exact ⟨⟨_, _, rfl⟩, _, rfl⟩

set_option maxRecDepth 100000 in
set_option maxHeartbeats 1000000 in
theorem cut_l (t : List UInt8) (w : World) (ht : t.length ≤ 4096) :
    Calls Tryd.prog 29 #[.string (B t), .string ⟨#[32]⟩] w fun e w' => (∃ x y, e = .returned (.tuple #[.string (B (hb t)), x, y])) ∧ ∃ n, w' = w.drewN n := by
  have c := cutLite t w ht
  go_enter Tryd.func29, Tryd.ntmps29
  go_wp2_with (go_at_call 44; refine c.mono ?_; rintro e w1 ⟨⟨x, y, rfl⟩, n, rfl⟩)
  go_ret3
  exact ⟨⟨_, _, rfl⟩, n, rfl⟩
theorem wordsMake (t : List UInt8) (w : World) : Calls Tryd.prog 12 #[.string (B t)] w fun e w' => e = .returned (.func (.func 28) #[] #[.pointer (some ⟨w.heap.size, 0, none⟩)]) ∧ w' = w.alloc (.cells #[.string (B t)] 9) := by
  go_enter Tryd.func12, Tryd.ntmps12
  go_wp2
  go_ret
  exact ⟨rfl, rfl⟩

theorem grown_drewN (W : World) (n : Nat) : W.grownBy (W.drewN n) none := ⟨rfl, rfl, rfl, Nat.le_refl _, fun _ _ _ => rfl⟩

set_option maxRecDepth 100000 in
set_option maxHeartbeats 1000000 in
theorem words_seq (t : List UInt8) (Bs : Nat) (w : World) (ht : t.length ≤ 4096) (hBs : w.cell? ⟨Bs, 0, none⟩ = some (.string (B t))) (hlt : Bs < w.heap.size) :
    Rf.Seq Tryd.prog 28 #[.pointer (some ⟨Bs, 0, none⟩)] (fun x : Nat × List UInt8 => #[.int .i64 (x.1 : Int), .string (B x.2)]) (fun b => b = Bs) 0 (wordsL 0 t) w := by
  intro l J Jx W hW hJ hJx hY h0
  have hc : W.cell? ⟨Bs, 0, none⟩ = some (.string (B t)) := (hW.cell (p := ⟨Bs, 0, none⟩) hlt).trans hBs
  have hltW : Bs < W.heap.size := Nat.lt_of_lt_of_le hlt hW.size
  clear hBs
  have hsz : (B t).size = t.length := rfl
  refine callsIn_of_wp Tryd.func28 rfl trivial ?_ rfl
  simp only [Tryd.ntmps28, List.size_toArray, List.length_cons, List.length_nil, Nat.reduceAdd, Nat.reduceSub, Array.replicate_succ, Array.replicate_zero, List.push_toArray, List.append_toArray, List.nil_append, List.cons_append]
  gi_wp2
  gi_loopw [3] (fun v wr => ∃ (pre : List (Nat × List UInt8)) (k : Nat), k ≤ t.length + 1 ∧ v = .int .i64 k ∧ Hid (wordsL 0 t = pre ++ wordsL k (t.drop k)) ∧ wr.cell? ⟨Bs, 0, none⟩ = some (.string (B t)) ∧ W.heap.size ≤ wr.heap.size ∧ J pre wr) (fun v _ => t.length + 1 - (intOf v).toNat)
  case atStart =>
    exact ⟨[], 0, by omega, rfl, rfl, hc, Nat.le_refl _, h0⟩
  case round =>
    obtain ⟨pre, k, hk, rfl, hL, hcr, hszr, hJr⟩ := hrel
    by_cases hp : k < t.length
    · have hx : (B t).extract k t.length = B (t.drop k) := extract_last t k
      have hne : t.drop k ≠ [] := by
        intro e
        have := congrArg List.length e
        rw [List.length_drop] at this
        simp at this; omega
      have hst := wordsL_step k (t.drop k) hne
      have hbl := hb_len (t.drop k)
      have hdl : (t.drop k).length = t.length - k := List.length_drop
      have hdd : (t.drop k).drop ((hb (t.drop k)).length + 1) = t.drop (k + (hb (t.drop k)).length + 1) := by rw [List.drop_drop]; congr 1
      rw [hdd] at hst
      have ct := cut_l (t.drop k) wr (by omega)
      by_cases hz : hb (t.drop k) = []
      · rw [hz] at hst ct
        simp only [if_true, List.nil_append, List.length_nil, Nat.add_zero] at hst
        have hL2 : Hid (wordsL 0 t = pre ++ wordsL (k + 1) (t.drop (k + 1))) := by
          show _ = _
          rw [hL.out, hst]
        clear hL hst hne hbl hdl hdd hz
        gi_wp2_with fail
        refine ⟨trivial, (callsIn_wide.2 ct).mono ?_⟩
        rintro e w1 ⟨⟨x, y, rfl⟩, n, rfl⟩
        have hJn : J pre (wr.drewN n) := hJ pre wr _ none hJr (grown_drewN wr n) (fun r e => by cases e)
        have hzb : ((B []).toList == []) = true := by rw [ByteArray.toList_eq]; rfl
        have hbz : (B []).size = 0 := rfl
        generalize B [] = e0 at *
        gi_wp2
        refine ⟨(fun f hf => (nomatch hf)), ?_⟩
        gi_wp2
        go_roundw
        case rel => exact ⟨pre, k + 1, by omega, by go_num, hL2, hcr, hszr, hJn⟩
        case measure => simp [intOf]; omega
      · have hL2 : Hid (wordsL 0 t = (pre ++ [(k, hb (t.drop k))]) ++ wordsL (k + (hb (t.drop k)).length + 1) (t.drop (k + (hb (t.drop k)).length + 1))) := by
          show _ = _
          rw [hL.out, hst, if_neg hz, List.append_assoc]
        have hpre : pre ++ [(k, hb (t.drop k))] <+: wordsL 0 t := by
          rw [hL2.out]; exact ⟨_, rfl⟩
        have hzb : ((B (hb (t.drop k))).toList == []) = false := by
          rw [beq_eq_false_iff_ne, ByteArray.toList_eq]; exact hz
        have hbz : (B (hb (t.drop k))).size = (hb (t.drop k)).length := rfl
        have hJn : ∀ n, J pre (wr.drewN n) := fun n => hJ pre wr _ none hJr (grown_drewN wr n) (fun r e => by cases e)
        have HY : Hid (∀ n, YieldAt Fence.wide 7 Tryd.prog l #[.int .i64 (k : Int), .string (B (hb (t.drop k)))] (wr.drewN n) fun e W' => (e = .returned (.bool true) ∧ J (pre ++ [(k, hb (t.drop k))]) W' ∧ Rf.Leaves (fun b => b = Bs) W.heap.size (W.heap.size + 0) (wr.drewN n) W') ∨ (e = .returned (.bool false) ∧ Jx (pre ++ [(k, hb (t.drop k))]) W' ∧ Rf.Leaves (fun b => b = Bs) W.heap.size (W.heap.size + 0) (wr.drewN n) W')) := fun n => hY pre (k, hb (t.drop k)) (wr.drewN n) hpre (by show _ ≤ wr.heap.size; omega) (hJn n)
        have hkl : k + (hb (t.drop k)).length ≤ t.length := by omega
        clear hst hne hbl hdl hdd hz hL
        generalize hb (t.drop k) = h at *
        gi_wp2_with fail
        refine ⟨trivial, (callsIn_wide.2 ct).mono ?_⟩
        rintro e w1 ⟨⟨x, y, rfl⟩, n, rfl⟩
        obtain ⟨fn, tmps, assign, body, hy, hR⟩ := HY.out n
        gi_wp2_with fail
        refine hR.mono ?_
        rintro e W3 (⟨rfl, hJ3, hk3⟩ | ⟨rfl, hJx3, _⟩)
        · have hc3 : W3.cell? ⟨Bs, 0, none⟩ = some (.string (B t)) := hk3.cell (a := ⟨Bs, 0, none⟩) (.inl rfl) hcr
          gi_wp2
          go_roundw
          case rel => exact ⟨pre ++ [(k, h)], k + h.length + 1, by omega, by go_num, hL2, hc3, Nat.le_trans hszr hk3.size, hJ3⟩
          case measure => simp [intOf]; omega
        · gi_wp2
          refine bodyPost_ret (results_none rfl _ _ _) rfl ?_
          exact ⟨⟨_, rfl⟩, .inr ⟨pre ++ [(k, h)], hpre, hJx3⟩⟩
    · have hd : t.drop k = [] := List.drop_eq_nil_of_le (by omega)
      have hL2 : Hid (wordsL 0 t = pre) := by
        show _ = _
        rw [hL.out, hd, wordsL_nil, List.append_nil]
      clear hL hd
      gi_wp2
      go_end0
      exact ⟨⟨_, rfl⟩, .inl (by rw [hL2.out]; exact hJr)⟩
end Sc
end Go.Proofs.YtmgddocninihoabDoor
