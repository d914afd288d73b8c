import Derived.Test.YthdibodmnpcekaaGreatDoorPrgU
import Derived.WalkMore
/- The program's iterator over records. -/
namespace Go.Proofs.YthdibodmnpcekaaGreatDoor
set_option linter.ambiguousOpen false
open Go.RowKit
namespace Rc
namespace Pr
open Sm Pk
set_option linter.unusedSimpArgs false
set_option linter.unusedVariables false
attribute [local go_sem] Oper.semAt_some

/-- A payload in memory of its own. -/
def EncR (x : Nat × List UInt8) (b : Nat) (W : World) (v : Value) : Prop := W.ownsRow b 5 1 v x.2.length (x.2.map by1)

/-- The record, where its first block's head fits. -/
def fit (ep : Nat) (b : List UInt8) : Option (List UInt8 × Nat) → Option (List UInt8 × Nat)
  | none => none
  | some (p, k) => if b.take 11 = topB ep p then some (p, k) else none

theorem oneP_opens (ep : Nat) (b : List UInt8) (r : List (List UInt8)) (h : opensP ep b) : oneP ep b r = fit ep b (gathP (sizeB b) (b.drop 11) 1 r) := by
  rw [oneP, if_pos h]
  cases gathP (sizeB b) (b.drop 11) 1 r with
  | none => rfl
  | some x => rfl

theorem cut99 (c : List UInt8) : (Lib.hasPrefix c [99] = true ↔ c.take 1 = [99]) ∧ (c.take 1 = [99] → Lib.trimPrefix c [99] = c.drop 1) := by
  have h : Lib.hasPrefix c [99] = true ↔ c.take 1 = [99] := by
    unfold Lib.hasPrefix
    cases c with
    | nil => simp
    | cons x l =>
      simp only [List.isPrefixOf, List.take_succ_cons, List.take_zero, Bool.and_true, beq_iff_eq, List.cons.injEq, and_true]
      exact eq_comm
  refine ⟨h, fun q => ?_⟩
  unfold Lib.trimPrefix
  rw [if_pos (h.2 q)]
  rfl

theorem cutp (c : List UInt8) : ∃ (f : ByteArray) (d : Bool), (∀ w, Calls Tryz.prog 63 #[.string (tx c), .string ⟨#[99]⟩] w (fun e w' => e = .returned (.tuple #[.string f, .bool d]) ∧ w' = w)) ∧ (d = true ↔ c.take 1 = [99]) ∧ (d = true → f = tx (c.drop 1)) := by
  refine ⟨_, _, fun w => Tryz.strings_CutPrefix (tx c) ⟨#[99]⟩ w, (cut99 c).1, fun h => ?_⟩
  have := (cut99 c).2 ((cut99 c).1.1 h)
  show ByteArray.mk (Lib.trimPrefix c [99]).toArray = _
  rw [this]

set_option maxRecDepth 1000000 in
set_option maxHeartbeats 8000000 in
theorem all_seq (ep Be Bl : Nat) (cv : Value) (ls : List (List UInt8)) (w : World) (hep : ep < 4294967296) (hM : Base3 w ep ls Be Bl cv) (hn : ls.length ≤ 8796093022208) (hT : ∀ t ∈ ls, t.length ≤ 9223372036854775807) :
    Rf.SeqV Tryz.prog 61 #[.pointer (some ⟨Bl, 0, none⟩), .pointer (some ⟨Be, 0, none⟩)] (fun x v => #[nu (x.1 : Int), v]) EncR (fun b => b = Be ∨ b = Bl ∨ cv.ownBlock = some b) (recs ep 0 ls) w := by
  obtain ⟨i0, ji, hz0, hz1, hz2⟩ := info_parts info_byte
  intro l J Jx W hW hY h0
  have HM : Hid (Base3 W ep ls Be Bl cv) := hM.below hW
  have HY := Hid.mk' hY
  have HT := Hid.mk' hT
  have HJ0 := Hid.mk' h0
  obtain ⟨L, hL⟩ : ∃ L, recs ep 0 ls = L := ⟨_, rfl⟩
  rw [hL] at HY ⊢
  have HL0 : Hid ([] ++ recs ep 0 (ls.drop 0) = L) := hL
  obtain ⟨n, hnn⟩ : ∃ n, ls.length = n := ⟨_, rfl⟩
  rw [hnn] at hn
  have HN := Hid.mk' hnn
  clear hY hT h0 hL hM hW hnn
  refine callsIn_of_wp Tryz.func61 rfl trivial ?_ rfl
  refine wpIn_wide.2 ?_
  simp only [Tryz.ntmps61, List.size_toArray, List.length_cons, List.length_nil, Nat.reduceAdd, Nat.reduceSub, Array.replicate_succ, Array.replicate_zero, List.push_toArray, List.append_toArray, List.nil_append, List.cons_append]
  go_step3
  go_wp2
  go_step3
  go_wp2
  go_loopw [4, 5, 6, 7, 8, 9] (fun nv _ _ _ _ _ wr => ∃ (next : Nat) (pre : List (Nat × List UInt8)) (W0 : World), next ≤ n ∧ nv = nu (next : Int) ∧ Hid (pre ++ recs ep next (ls.drop next) = L) ∧ Hid (J pre W0) ∧ Hid (Below W0.heap.size W0 wr) ∧ Hid (W.heap.size ≤ W0.heap.size) ∧ Hid (Base3 wr ep ls Be Bl cv)) (fun nv _ _ _ _ _ _ => n - (intOf nv).toNat)
  case atStart => exact ⟨0, [], W, Nat.zero_le _, rfl, HL0, HJ0, Below.refl _ _, Nat.le_refl _, HM⟩
  case round =>
  rename World => WR
  obtain ⟨next, pre, W0, hnx, rfl, HL, HJ, HB, HS, HM2⟩ := hrel
  clear HM HJ0 HL0
  have hcl := HM2.out.l.cell
  have hce := HM2.out.e.cell
  by_cases hlt : next < n
  · obtain ⟨b, hb⟩ : ∃ b, ls[next]? = some b := ⟨ls[next]'(by rw [HN.out]; exact hlt), List.getElem?_eq_getElem _⟩
    have hbl : b.length ≤ 9223372036854775807 := HT.out b (List.mem_of_getElem? hb)
    obtain ⟨z, f, d, cO, hd, hdt⟩ := opened_any ep b hep hbl
    have hdrop : ls.drop next = b :: ls.drop (next + 1) := by
      have h1 : next < ls.length := by rw [HN.out]; exact hlt
      rw [List.drop_eq_getElem_cons h1]
      rw [List.getElem?_eq_getElem h1] at hb
      rw [Option.some.inj hb]
    obtain ⟨g, o, cap, hcv, hct⟩ := HM2.out.text next b hb
    subst hcv
    have hrdc := HM2.out.rd
    rw [HN.out] at HM2 HY hcl hrdc ⊢
    have hnc : n ≤ cap := by
      obtain ⟨_, _, e, h1, _⟩ := hrdc
      cases e
      rw [HN.out] at h1
      exact h1
    have hcc : (n : Int) ≤ (cap : Int) := by omega
    have hone : Hid (one ep (ls.drop next) = oneP ep b (ls.drop (next + 1))) := by
      show _ = _
      rw [hdrop, one_same]
    have hfin : Hid (one ep (ls.drop next) = none → L = pre) := fun h => by
      rw [← HL.out, recs_none ep next _ h, List.append_nil]
    have hnI : (next : Int) < (n : Int) := by omega
    have hn0 : (0 : Int) ≤ (next : Int) := by omega
    obtain ⟨fb, hfb⟩ : ∃ x, tx b = x := ⟨_, rfl⟩
    rw [hfb] at hct
    have HSS : Hid (∀ wx, Below WR.heap.size WR wx → wx.cell? ⟨Bl, 0, none⟩ = some (.slice (some ⟨g, o, none⟩) n cap) ∧ wx.cell? ⟨Be, 0, none⟩ = some (.int .u32 (ep : Int)) ∧ wx.cell? ⟨g, o + next, none⟩ = some (.string fb) ∧ Below WR.heap.size WR wx) := fun wx hx => by
      have hM5 := HM2.out.below hx
      obtain ⟨g', o', cap', e1, e2⟩ := hM5.text next b hb
      obtain ⟨rfl, rfl⟩ : g = g' ∧ o = o' := by
        simp at e1
        exact ⟨e1.1.1, e1.1.2⟩
      rw [hfb] at e2
      exact ⟨hM5.l.cell, hM5.e.cell, e2, hx⟩
    have C3 : Hid (∀ wx, Below WR.heap.size WR wx → Calls Tryz.prog 62 #[.int .u32 (ep : Int), .string fb] wx fun e w' => e = .returned (.tuple #[.int .i64 (z : Int), .string f, .bool d]) ∧ Below WR.heap.size WR w') := fun wx hx => by
      have := cO wx
      rw [hfb] at this
      refine this.mono ?_
      rintro e w' ⟨rfl, hb'⟩
      exact ⟨rfl, hx.trans (hb'.mono hx.size)⟩
    have HFB := Hid.mk' hfb
    have HD := Hid.mk' hd
    have HDT := Hid.mk' hdt
    have HBN := Hid.mk' hb
    clear hdrop cO hrdc hfb hb hd hdt
    go_wp2_with fail
    go_region_held3 (fun w' => w'.cell? ⟨Bl, 0, none⟩ = some (.slice (some ⟨g, o, none⟩) n cap) ∧ w'.cell? ⟨Be, 0, none⟩ = some (.int .u32 (ep : Int)) ∧ w'.cell? ⟨g, o + next, none⟩ = some (.string fb) ∧ Below WR.heap.size WR w') (first | assumption | exact HSS.out _ (Below.refl _ _) | exact HSS.out _ (Below.refl _ _).drew | exact HSS.out _ hb5 | exact HSS.out _ hb5.drew | fail) (first | (go_at_call 62; with_reducible refine (C3.out _ ?hb).mono ?_; (case hb => (first | exact Below.refl _ _ | exact (Below.refl _ _).drew | fail)); rintro e w5 ⟨rfl, hb5⟩) | fail)
    have HB5 := Hid.mk' hb5
    clear hb5 hcl hce hct C3 HSS
    cases d with
    | false =>
      have hno : Hid (L = pre) := hfin.out (by
        rw [hone.out, oneP, if_neg (of_decide_eq_false HD.out.symm)])
      have HBf := Hid.mk' (HB.out.trans (HB5.out.mono HB.out.size))
      clear HD HDT
      go_wp2
      rw [Exit.noGoto_normal]
      go_end0
      exact ⟨⟨_, rfl⟩, W0, HBf.out, .inl (by rw [hno.out]; exact HJ.out)⟩
    | true =>
      obtain ⟨hzz, hff⟩ := HDT.out rfl
      have hop : opensP ep b := of_decide_eq_true HD.out.symm
      obtain ⟨o1, o2, o3, o4⟩ := id hop
      rw [← hzz] at o2 o3
      obtain ⟨G, hG⟩ : ∃ x, gathP z (b.drop 11) 1 (ls.drop (next + 1)) = x := ⟨_, rfl⟩
      have hone2 : Hid (one ep (ls.drop next) = fit ep b G) := by
        show _ = _
        rw [hone.out, oneP_opens ep b _ hop, ← hzz, hG]
      obtain ⟨m0, hm0⟩ : ∃ x, (b.drop 11).length = x := ⟨_, rfl⟩
      have hm0z : m0 ≤ z := by
        rw [← hm0, List.length_drop]
        omega
      obtain ⟨w6, hmk, hown6, hgr6⟩ := run_make_own (P := Tryz.prog) w5 WR.heap.size 46 5 i0 (.int .u8 0) 1 Tryz.underlying46 ji hz0 hz1 .i64 .i64 z (by rw [hz2]; omega) (by unfold maxLen; omega) HB5.out.size
      have HG6 : Hid (Ga WR w6 (.slice (some ⟨w5.heap.size, 0, none⟩) 0 z) [] 0) := ⟨hown6, rfl, Below.grown HB5.out hgr6 HB5.out.size (fun r e => by cases e)⟩
      have HFF := Hid.mk' hff
      have hbd : Hid (0 + (b.drop 11).length ≤ 140737488355328) := by show _ ≤ _; omega
      have hp0 : Hid (0 + (b.drop 11).length = m0) := by show _ = _; omega
      have HG0 := Hid.mk' hG
      have hz512 : z ≤ 512 := o2
      have hnx1 : (next : Int) + 1 ≤ 8796093022209 := by omega
      have HT11 : Hid (11 ≤ b.length) := o1
      clear hzz hff hop o1 o2 o3 o4 hG hm0 hown6 hgr6 HD HDT hone
      go_wp2_with (at_builtin; refine wpList_append_text rfl _ _ rfl WR.heap.size 0 _ f [] (b.drop 11) rfl rfl HFF.out HG6.out.own hbd.out HG6.out.bel.size ?_; intro v7 w7 oo og ov; have HG7 : Hid (Ga WR w7 v7 (b.drop 11) m0) := HG6.out.more og rfl hp0.out oo; obtain ⟨ga7, gc7, rfl⟩ := HG7.out.shape; clear oo og ov)
      have hr512 : Hid (m0 ≤ z) := hm0z
      clear HG6 hmk hm0z HB5
      go_loopw [4, 7, 8, 9] (fun nv _ _ pv wr => ∃ (s k m : Nat) (q : List UInt8) (a : Option Addr) (c : Nat), s ≤ n ∧ m ≤ z ∧ nv = nu (s : Int) ∧ pv = .slice a m c ∧ Hid (next + k = s ∧ 1 ≤ k) ∧ Hid (gathP z q k (ls.drop s) = G) ∧ Hid (Ga WR wr (.slice a m c) q m)) (fun nv _ _ _ _ => n - (intOf nv).toNat)
      case atStart => exact ⟨next + 1, 1, m0, b.drop 11, ga7, gc7, by omega, hr512.out, by go_num, rfl, ⟨rfl, Nat.le_refl _⟩, HG0, HG7⟩
      case round =>
      clear HG7 HG0
      obtain ⟨s, k, m, q, a, c, hsn, hmz, rfl, rfl, HK, HG, HGa⟩ := hrel
      have HMi := Hid.mk' (HM2.out.below HGa.out.bel)
      have hcl := HMi.out.l.cell
      have hce := HMi.out.e.cell
      by_cases hm : m < z
      · have hmI : (m : Int) < (z : Int) := by omega
        by_cases hs : s < n
        · obtain ⟨t, ht⟩ : ∃ t, ls[s]? = some t := ⟨ls[s]'(by rw [HN.out]; exact hs), List.getElem?_eq_getElem _⟩
          have htl : t.length ≤ 9223372036854775807 := HT.out t (List.mem_of_getElem? ht)
          have hdrop : ls.drop s = t :: ls.drop (s + 1) := by
            have h1 : s < ls.length := by rw [HN.out]; exact hs
            rw [List.drop_eq_getElem_cons h1]
            rw [List.getElem?_eq_getElem h1] at ht
            rw [Option.some.inj ht]
          obtain ⟨g', o', cap', e1, hct⟩ := HMi.out.text s t ht
          obtain ⟨rfl, rfl⟩ : g = g' ∧ o = o' := by
            simp at e1
            exact ⟨e1.1.1, e1.1.2⟩
          obtain ⟨fc, dc, cP, hdc, hfc⟩ := cutp t
          obtain ⟨ft, hft⟩ : ∃ x, tx t = x := ⟨_, rfl⟩
          simp only [hft] at hct cP
          have CP := Hid.mk' cP
          have hsI : (s : Int) < (n : Int) := by omega
          have hs0 : (0 : Int) ≤ (s : Int) := by omega
          have hsB : ((s : Int) == (n : Int)) = false := beq_eq_false_iff_ne.2 (by omega)
          obtain ⟨r, hr⟩ : ∃ r, min (z - m) 255 = r := ⟨_, rfl⟩
          have hmin : ∀ wx, (Builtin.min_ #[3, 3] 3 #[.int .i64 ((z : Int) - (m : Int)), .int .i64 255]).run Tryz.prog wx = .ok (.int .i64 (r : Int)) wx := fun wx => by
            rw [min_two, ← hr]
            congr 2
            split <;> omega
          have hlq : q.length = m := HGa.out.len
          have HDC := Hid.mk' hdc
          have HFC := Hid.mk' hfc
          have HDP := Hid.mk' hdrop
          have HLQ := Hid.mk' hlq
          have HRR := Hid.mk' hr
          clear e1 cP hdc hfc hft hdrop ht hlq hr hcl hce
          have hcl := HMi.out.l.cell
          go_wp2_with fail
          refine (CP.out _).mono ?_
          rintro e w8 ⟨rfl, hw8⟩
          subst w8
          cases dc with
          | false =>
            have hno : Hid (L = pre) := hfin.out (by
              rw [hone2.out, ← HG.out, HDP.out, gathP_no _ _ _ _ _ (by rw [HLQ.out]; exact hm) (fun q => by have := HDC.out.2 q.1; cases this)]
              rfl)
            have HBf := Hid.mk' (HB.out.trans (HGa.out.bel.mono HB.out.size))
            go_wp2
            rw [Exit.noGoto_normal]
            go_end0
            exact ⟨⟨_, rfl⟩, W0, HBf.out, .inl (by rw [hno.out]; exact HJ.out)⟩
          | true =>
            have hfs : fc = tx (t.drop 1) := HFC.out rfl
            have hsz : fc.size = t.length - 1 := by
              rw [hfs]
              show (t.drop 1).length = _
              rw [List.length_drop]
            have ht1 : 1 ≤ t.length := by
              have := congrArg List.length (HDC.out.1 rfl)
              rw [List.length_take] at this
              simp at this
              omega
            have hfsz : (fc.size : Int) ≤ 9223372036854775807 := by omega
            by_cases hrl : fc.size = r
            · have hB : ((fc.size : Int) != (r : Int)) = false := by simp [hrl]
              have hgm : Hid (gathP z (q ++ t.drop 1) (k + 1) (ls.drop (s + 1)) = G) := by
                show _ = _
                rw [← HG.out, HDP.out, gathP_more _ _ _ _ _ (by rw [HLQ.out]; exact hm) (HDC.out.1 rfl) (by rw [HLQ.out, HRR.out]; omega)]
              have HFS := Hid.mk' hfs
              have hbd : Hid (m + (t.drop 1).length ≤ 140737488355328) := by show _ ≤ _; have := HRR.out; rw [List.length_drop]; omega
              have hmm : Hid (m + (t.drop 1).length = m + r) := by show _ = _; rw [List.length_drop]; omega
              have hrz : Hid (m + r ≤ z) := by show _ ≤ _; have := HRR.out; omega
              clear hfs hsz ht1 hrl
              go_wp2_with (at_builtin; refine wpList_append_text rfl _ _ rfl WR.heap.size m _ fc _ (t.drop 1) rfl rfl HFS.out HGa.out.own hbd.out HGa.out.bel.size ?_; intro v9 w9 oo og ov; have HG9 : Hid (Ga WR w9 v9 (q ++ t.drop 1) (m + r)) := HGa.out.more og rfl hmm.out oo; obtain ⟨ga9, gc9, rfl⟩ := HG9.out.shape; clear oo og ov)
              go_roundw
              case rel => exact ⟨s + 1, k + 1, m + r, q ++ t.drop 1, ga9, gc9, by omega, hrz.out, by go_num, rfl, ⟨by have := HK.out.1; omega, by omega⟩, hgm, HG9⟩
              case measure => simp [intOf]; omega
            · have hB : ((fc.size : Int) != (r : Int)) = true := by
                simp
                omega
              have hno : Hid (L = pre) := hfin.out (by
                rw [hone2.out, ← HG.out, HDP.out, gathP_no _ _ _ _ _ (by rw [HLQ.out]; exact hm) (fun q' => hrl (by
                  have := q'.2
                  rw [HLQ.out, HRR.out] at this
                  omega))]
                rfl)
              have HBf := Hid.mk' (HB.out.trans (HGa.out.bel.mono HB.out.size))
              clear hfs hsz ht1 hrl
              go_wp2
              rw [Exit.noGoto_normal]
              go_end0
              exact ⟨⟨_, rfl⟩, W0, HBf.out, .inl (by rw [hno.out]; exact HJ.out)⟩
        · obtain rfl : s = n := by omega
          have hno : Hid (L = pre) := hfin.out (by
            rw [hone2.out, ← HG.out, List.drop_eq_nil_of_le (by rw [HN.out]; exact Nat.le_refl _), gathP_end _ _ _ (by rw [HGa.out.len]; exact hm)]
            rfl)
          have hsB : ((s : Int) == (s : Int)) = true := beq_self_eq_true _
          have HBf := Hid.mk' (HB.out.trans (HGa.out.bel.mono HB.out.size))
          go_wp2
          rw [Exit.noGoto_normal]
          go_end0
          exact ⟨⟨_, rfl⟩, W0, HBf.out, .inl (by rw [hno.out]; exact HJ.out)⟩
      · have hmI : ¬ (m : Int) < (z : Int) := by omega
        have hGk : Hid (G = some (q, k)) := by
          show _ = _
          rw [← HG.out, gathP_done _ _ _ _ (by rw [HGa.out.len]; exact hm)]
        obtain ⟨FT, hFT⟩ : ∃ x, tx (topB ep q) = x := ⟨_, rfl⟩
        obtain ⟨F11, hF11⟩ : ∃ x, tx (b.take 11) = x := ⟨_, rfl⟩
        have hs11 : fb.extract 0 11 = F11 := by
          rw [← HFB.out, ← hF11]
          exact tx_take b 11
        have hsz11 : (11 : Int) ≤ (fb.size : Int) := by
          have := HT11.out
          rw [← HFB.out]
          show (11 : Int) ≤ (b.length : Int)
          omega
        obtain ⟨dh, hdh⟩ : ∃ x, (!decide (b.take 11 = topB ep q)) = x := ⟨_, rfl⟩
        have heq : (F11.toList == FT.toList) = !dh := by
          rw [← hF11, ← hFT, tx_list, tx_list, ← hdh, Bool.not_not]
          by_cases hq : b.take 11 = topB ep q
          · rw [hq, decide_eq_true rfl, beq_self_eq_true]
          · rw [decide_eq_false hq, beq_eq_false_iff_ne]
            exact hq
        have hGW := HGa.out
        obtain ⟨WI, hWI⟩ : ∃ x, x = wr := ⟨_, rfl⟩
        have HSS : Hid (∀ wx, Below wr.heap.size wr wx → wx.cell? ⟨Bl, 0, none⟩ = some (.slice (some ⟨g, o, none⟩) n cap) ∧ wx.cell? ⟨Be, 0, none⟩ = some (.int .u32 (ep : Int)) ∧ wx.cell? ⟨g, o + next, none⟩ = some (.string fb) ∧ Below wr.heap.size wr wx) := fun wx hx => by
          have hM5 := HMi.out.below hx
          obtain ⟨g', o', cap', e1, e2⟩ := hM5.text next b HBN.out
          obtain ⟨rfl, rfl⟩ : g = g' ∧ o = o' := by
            simp at e1
            exact ⟨e1.1.1, e1.1.2⟩
          rw [HFB.out] at e2
          exact ⟨hM5.l.cell, hM5.e.cell, e2, hx⟩
        have CH : Hid (∀ wx, Below wr.heap.size wr wx → Calls Tryz.prog 64 #[.int .u32 (ep : Int), .slice a m c] wx fun e w' => e = .returned (.string FT) ∧ Below wr.heap.size wr w') := fun wx hx => by
          have := heading_p ep (.slice a m c) q wx hep (HGa.out.rd.below hx) (by rw [HGa.out.len]; omega)
          rw [hFT] at this
          refine this.mono ?_
          rintro e w' ⟨rfl, hb'⟩
          exact ⟨rfl, hx.trans (hb'.mono hx.size)⟩
        have hct := (HSS.out _ (Below.refl _ _)).2.2.1
        have HDH := Hid.mk' hdh
        clear hF11 hFT hdh hGW hWI
        go_wp2_with fail
        go_region_held3 (fun w' => w'.cell? ⟨Bl, 0, none⟩ = some (.slice (some ⟨g, o, none⟩) n cap) ∧ w'.cell? ⟨Be, 0, none⟩ = some (.int .u32 (ep : Int)) ∧ w'.cell? ⟨g, o + next, none⟩ = some (.string fb) ∧ Below wr.heap.size wr w') (first | assumption | exact HSS.out _ (Below.refl _ _) | exact HSS.out _ (Below.refl _ _).drew | exact HSS.out _ hb9 | exact HSS.out _ hb9.drew | fail) (first | (go_at_call 64; with_reducible refine (CH.out _ ?hb).mono ?_; (case hb => (first | exact Below.refl _ _ | exact (Below.refl _ _).drew | fail)); rintro e w9 ⟨rfl, hb9⟩) | fail)
        have HB9 := Hid.mk' hb9
        have HG9 := Hid.mk' (HGa.out.below hb9)
        have HM9 := Hid.mk' (HMi.out.below hb9)
        clear hb9 hcl hce hct CH HSS HMi HGa hs11 hsz11 heq hmI
        cases dh with
        | true =>
          have hno : Hid (L = pre) := hfin.out (by
            rw [hone2.out, hGk.out]
            show (if b.take 11 = topB ep q then some (q, k) else none) = none
            rw [if_neg (of_decide_eq_false (by have := HDH.out; rw [Bool.not_eq_true'] at this; exact this))])
          have HBf := Hid.mk' (HB.out.trans (HG9.out.bel.mono HB.out.size))
          go_wp2
          rw [Exit.noGoto_normal]
          go_end0
          exact ⟨⟨_, rfl⟩, W0, HBf.out, .inl (by rw [hno.out]; exact HJ.out)⟩
        | false =>
          have hyes : one ep (ls.drop next) = some (q, k) := by
            rw [hone2.out, hGk.out]
            show (if b.take 11 = topB ep q then some (q, k) else none) = _
            rw [if_pos (of_decide_eq_true (by have := HDH.out; rw [Bool.not_eq_false'] at this; exact this))]
          have hrec := recs_some ep next (ls.drop next) q k hyes
          rw [List.drop_drop] at hrec
          have hLn : Hid ((pre ++ [(next, q)]) ++ recs ep s (ls.drop s) = L) := by
            show _ = _
            rw [← HL.out, hrec, ← HK.out.1, List.append_assoc]
            rfl
          have hpre : pre ++ [(next, q)] <+: L := ⟨_, hLn.out⟩
          obtain ⟨fn, tmps, assign, body, hy, hR⟩ := HY.out pre (next, q) (.slice a m c) W0 w9 hpre HS.out HJ.out (HB.out.trans (HG9.out.bel.mono HB.out.size)) (by
            have := HG9.out.own
            rw [← HG9.out.len] at this
            show World.ownsRow _ _ _ _ _ _ _
            rw [HG9.out.len] at this ⊢
            exact own_mono this HB.out.size)
          have HPR := Hid.mk' hpre
          clear hyes hrec hpre
          go_upto_region 14 with fail
          refine (wpIn_wide (n := 8)).1 ?_
          gi_wp2_with fail
          refine hR.mono ?_
          rintro e W3 (⟨rfl, hJ3, hk3⟩ | ⟨rfl, hJx3, _⟩)
          · have HJ3 := Hid.mk' hJ3
            have HM3 := Hid.mk' (HM9.out.leaves hk3)
            have HS3 : Hid (W.heap.size ≤ W3.heap.size) := Nat.le_trans HS.out (Nat.le_trans (HB.out.trans (HG9.out.bel.mono HB.out.size)).size hk3.size)
            have hks : Hid (next < s) := by show _ < _; have := HK.out; omega
            clear hJ3 hk3 hy hR
            gi_wp2_with fail
            go_wp2
            go_roundw
            case rel => exact ⟨s, pre ++ [(next, q)], W3, hsn, rfl, hLn, HJ3, Below.refl _ _, HS3, HM3⟩
            case measure => have := hks.out; simp [intOf]; omega
          · have HJx := Hid.mk' hJx3
            clear hJx3 hy hR
            gi_wp2_with fail
            go_wp2
            rw [Exit.noGoto_ret]
            refine bodyPost_ret (results_none rfl _ _ _) rfl ?_
            exact ⟨⟨_, rfl⟩, W3, Below.refl _ _, .inr ⟨pre ++ [(next, q)], HPR.out, HJx.out⟩⟩
  · have hno : Hid (L = pre) := by
      show _ = _
      rw [← HL.out, recs_none ep next _ (by rw [List.drop_eq_nil_of_le (by rw [HN.out]; omega)]; rfl), List.append_nil]
    obtain ⟨a, cap, hcv, _⟩ := HM2.out.rd
    subst hcv
    rw [HN.out] at hcl
    have hnI : ¬ (next : Int) < (n : Int) := by omega
    go_wp2
    try rw [Exit.noGoto_ret]
    go_end0
    exact ⟨⟨_, rfl⟩, W0, HB.out, .inl (by rw [hno.out]; exact HJ.out)⟩
end Pr
end Rc
end Go.Proofs.YthdibodmnpcekaaGreatDoor
