/- RecordTorn. -/
import Derived.Test.YtjnodkjeiogloaaWholeK
namespace Go.Proofs.Ytjnodkjeiogloaa
set_option linter.ambiguousOpen false
open Go.RowKit
namespace Rc
open Sm Pk
set_option linter.unusedSimpArgs false
set_option linter.unusedVariables false

theorem cell_atR {w : World} {sb j : Nat} {xs : Array Value} {t : TypeId} {v : Value} (h : w.heap[sb]? = some (.cells xs t)) (hj : xs[j]? = some v) : w.cell? ⟨sb, j, none⟩ = some v := by
  simp [World.cell?, h, hj]

/-- Under way: the blocks, the payloads, the torn one's blocks. -/
structure Tn (w0 w : World) (ep : Nat) (PS T : List (List UInt8)) (q : List UInt8) (bv ov mv : Value) (vs : List Value) (m i k : Nat) : Prop where
  bl : w.ownsRow w0.heap.size 9 1 bv (m + i) ((flat ep PS ++ T).map Nm.txt)
  ml : (flat ep PS).length = m
  tl : T.length = i
  nb : ∀ b r, T = b :: r → ¬ begins ep b
  tt : ∀ t ∈ T, t.length ≤ 140737488350000
  out : w.ownsRow w0.heap.size 32 1 ov vs.length vs
  mo : w.ownsRow w0.heap.size 9 1 mv k ((blocks ep q).map Nm.txt)
  sep : Nm.Sep bv ov
  sem : Nm.Sep bv mv
  bel : Below w0.heap.size w0 w

theorem Tn.below {w0 w w' : World} {ep : Nat} {PS T : List (List UInt8)} {q : List UInt8} {bv ov mv : Value} {vs : List Value} {m i k : Nat} (h : Tn w0 w ep PS T q bv ov mv vs m i k) (hb : Below w.heap.size w w') : Tn w0 w' ep PS T q bv ov mv vs m i k :=
  ⟨own_keptB h.bl hb, h.ml, h.tl, h.nb, h.tt, own_keptB h.out hb, own_keptB h.mo hb, h.sep, h.sem, h.bel.trans (hb.mono h.bel.size)⟩

/-- One block more. -/
theorem Tn.more {w0 w w' : World} {ep : Nat} {PS T : List (List UInt8)} {q t : List UInt8} {bv ov mv : Value} {vs : List Value} {m i k g cap : Nat} (h : Tn w0 w ep PS T q bv ov mv vs m i k) (ht : t.length ≤ 140737488350000) (hn : i = 0 → ¬ begins ep t) (ho : w'.ownsRow w0.heap.size 9 1 (.slice (some ⟨g, 0, none⟩) (m + i + 1) cap) (m + i + 1) ((flat ep PS ++ T).map Nm.txt ++ [.string (tx t)])) (hg : w.grownBy w' bv.ownBlock) (hl : bv.ownBlock = some g ∨ g = w.heap.size) : Tn w0 w' ep PS (T ++ [t]) q (.slice (some ⟨g, 0, none⟩) (m + i + 1) cap) ov mv vs m (i + 1) k := by
  have hsp : ∀ {u : Value} {e : TypeId} {n : Nat} {xs : List Value}, w.ownsRow w0.heap.size e 1 u n xs → Nm.Sep bv u → Nm.Sep (.slice (some ⟨g, 0, none⟩) (m + i + 1) cap) u := fun hu hs b hb1 hb2 => by
    have e : g = b := by simpa [Value.ownBlock] using hb1
    subst e
    rcases hl with hl | hl
    · exact hs g hl hb2
    · have := (hu.lt g hb2).2
      omega
  refine ⟨?_, h.ml, by rw [List.length_append, h.tl]; rfl, ?_, ?_, h.out.kept hg (sep_kept h.sep), h.mo.kept hg (sep_kept h.sem), hsp h.out h.sep, hsp h.mo h.sem, Below.grown h.bel hg h.bel.size (fun j hj => (h.bl.lt j hj).1)⟩
  · rw [← List.append_assoc, List.map_append]
    exact ho
  · intro b r hb
    cases T with
    | nil =>
      have h0 := h.tl
      simp at hb
      rw [← hb.1]
      exact hn (by simpa using h0.symm)
    | cons c T' =>
      simp at hb
      rw [← hb.1]
      exact h.nb c T' rfl
  · intro x hx
    rcases List.mem_append.1 hx with hx | hx
    · exact h.tt x hx
    · simp at hx
      subst hx
      exact ht

set_option maxRecDepth 100000 in
set_option maxHeartbeats 16000000 in
theorem torn_yes (SF : FrameC) (SS : ScanC) (ep : Nat) (lv pv bf : Value) (th : Int) (L B : List (List UInt8)) (p : List UInt8) (w : World) (hep : ep < 4294967296) (hR : RdL w lv L) (hN : L.length ≤ 1000000000000) (hp : RdB w pv p) (hzp : Nz pv) (hth : -9223372036854775808 ≤ th ∧ th ≤ 9223372036854775807) (hB : Nm.Rd w bf B) (hBt : ∀ t ∈ B, t.length ≤ 140737488350000) :
    Calls Try.prog 5 #[.int .u32 (ep : Int), lv, .agg #[pv, nu th, bf]] w fun e w' => e = .returned (.bool true) ∧ Below w.heap.size w w' := by
  obtain ⟨i0, ji, hz0, hz1, hz2⟩ := info_parts (show (Try.prog.info? 9).map (fun i => (i.zero, i.size, i.bytes)) = some (some (.string ⟨#[]⟩), 1, 16) by kernel_rfl)
  obtain ⟨np, hnp⟩ : ∃ x, p.length = x := ⟨_, rfl⟩
  obtain ⟨nb, hnb⟩ : ∃ x, B.length = x := ⟨_, rfl⟩
  obtain ⟨nl, hnl⟩ : ∃ x, L.length = x := ⟨_, rfl⟩
  have HP := Hid.mk' hp
  have HB := Hid.mk' hB
  have HRL := Hid.mk' hR
  obtain ⟨ap, cp, rfl, _⟩ := hp
  obtain ⟨ab, cb, rfl, hcb1, hcb2, hcbx⟩ := hB
  obtain ⟨al, cl, rfl, _⟩ := hR
  rw [hnp] at HP hzp ⊢
  rw [hnb] at HB hcb1 ⊢
  rw [hnl] at HRL ⊢
  have HCB : Hid (∀ i, i < nb → ∃ g o t, ab = some ⟨g, o, none⟩ ∧ g < w.heap.size ∧ w.cell? ⟨g, o + i, none⟩ = some (.string (tx t)) ∧ t ∈ B) := fun i hi => by
    obtain ⟨g, o, e1, e2, e3⟩ := hcbx (by omega)
    exact ⟨g, o, B[i]'(by omega), e1, e2, e3 i (by omega), List.getElem_mem _⟩
  have hB0 : Hid (Below w.heap.size w (w.alloc (.cells #[.slice ap np cp, nu th, .slice ab nb cb] 47))) := (Below.refl _ _).alloc (Nat.le_refl _) _
  have HBX : Hid ((w.alloc (.cells #[.slice ap np cp, nu th, .slice ab nb cb] 47)).heap[w.heap.size]? = some (.cells #[.slice ap np cp, nu th, .slice ab nb cb] 47)) := heap_alloc_new _ _
  obtain ⟨w0, hw0⟩ : ∃ x, w.alloc (.cells #[.slice ap np cp, nu th, .slice ab nb cb] 47) = x := ⟨_, rfl⟩
  have hsz0 : w.heap.size < w0.heap.size := by rw [← hw0]; simp
  have HSZ := Hid.mk' hsz0
  have c1 := Hid.mk' (laid_any SF ep (.slice al nl cl) L w0 hep (by rw [← hw0]; exact HRL.out.below hB0.out) hN)
  rw [hw0] at hB0 HBX
  have cW := Hid.mk' (fun wx => works_yes SF SS wx)
  obtain ⟨PS, hPS⟩ : ∃ x, L.map (·.take 512) = x := ⟨_, rfl⟩
  have HPl : Hid (∀ p ∈ PS, p.length ≤ 512) := fun p hp => by
    rw [← hPS] at hp
    obtain ⟨q, _, rfl⟩ := List.mem_map.1 hp
    rw [List.length_take]
    omega
  have hPn : PS.length ≤ 1000000000000 := by
    rw [← hPS, List.length_map]
    exact hN
  rw [hPS] at c1
  have HNP := Hid.mk' hnp
  have HZP := Hid.mk' hzp
  have HBT := Hid.mk' hBt
  have HTH := Hid.mk' hth
  have HW0 := Hid.mk' hw0
  clear hPS hcbx hnb hnl hnp hcb1 hcb2 hBt hzp hth hN hsz0
  go_enter Try.func5, Try.ntmps5
  go_wp2_with fail
  refine c1.out.mono ?_
  rintro e x1 ⟨bv, ov, vs, m, rfl, hL⟩
  have HL1 := Hid.mk' hL
  have hm3 : m ≤ 3000000000000 := by
    have := flat_take_len ep PS HPl.out
    rw [hL.ml] at this
    omega
  obtain ⟨a1, k1, rfl, _⟩ := Nm.own_shape hL.bl
  obtain ⟨a2, k2, rfl, _⟩ := Nm.own_shape hL.out
  obtain ⟨nv, hnv⟩ : ∃ x, vs.length = x := ⟨_, rfl⟩
  rw [hnv] at HL1 ⊢
  have HNV := Hid.mk' hnv
  have hx1 : ∀ wx : World, Below w0.heap.size w0 wx → wx.heap[w.heap.size]? = some (.cells #[.slice ap np cp, nu th, .slice ab nb cb] 47) := fun wx hb => (hb.block _ HSZ.out).trans HBX.out
  have HX := Hid.mk' hx1
  have p0 := cell_atR (j := 0) (hx1 _ hL.bel) rfl
  have C2 := Hid.mk' (cut_any ap cp np p x1 HNP.out (HP.out.below (hB0.out.trans (hL.bel.mono hB0.out.size))) HZP.out)
  obtain ⟨k, hk⟩ : ∃ x, (blocks ep (p.take 512)).length = x := ⟨_, rfl⟩
  have hpl : (p.take 512).length ≤ 512 := by rw [List.length_take]; omega
  have hk3 : 1 ≤ k ∧ k ≤ 3 := by
    rw [← hk, blocks_len]
    omega
  have C3 : Hid (∀ wx v, RdB wx v (p.take 512) → Nz v → Calls Try.prog 19 #[.int .u32 (ep : Int), v] wx fun e w' => ∃ gr cr, e = .returned (.tuple #[.slice (some ⟨gr, 0, none⟩) k cr, .nilIface]) ∧ w'.ownsRow wx.heap.size 9 1 (.slice (some ⟨gr, 0, none⟩) k cr) k ((blocks ep (p.take 512)).map Nm.txt) ∧ Below wx.heap.size wx w') := fun wx v hv hz => by
    refine (SF wx ep v (p.take 512) hep hv hz (by omega)).mono ?_
    rintro e w' ⟨r, rfl, ho, hb⟩
    rw [framed, if_neg (by omega)] at ho
    rw [if_neg (by omega)]
    rw [hk] at ho
    rcases ho.2 with ⟨rfl, h0⟩ | ⟨gr, cr, cur, rfl, _⟩
    · omega
    · exact ⟨gr, cr, rfl, ho, hb⟩
  have HKK := Hid.mk' hk
  clear hL hnv c1 hx1 hk hpl
  go_wp2_with fail
  refine C2.out.mono ?_
  rintro e x2 ⟨⟨m', rfl, hml, hrd, hz'⟩, rfl⟩
  have D3 := Hid.mk' (C3.out _ _ hrd hz')
  clear hml hrd hz' C2 C3 p0
  go_wp2_with fail
  refine D3.out.mono ?_
  rintro e x3 ⟨gr, cr, rfl, ho, hb⟩
  have HT3 : Hid (Tn w0 x3 ep PS [] (p.take 512) (.slice a1 m k1) (.slice a2 nv k2) (.slice (some ⟨gr, 0, none⟩) k cr) vs m 0 k) := by
    have hL3 := HL1.out.below hb
    refine ⟨by rw [List.append_nil]; exact hL3.bl, hL3.ml, rfl, fun b r h => by simp at h, fun t h => by simp at h, hL3.out, own_mono ho HL1.out.bel.size, hL3.sep, ?_, hL3.bel⟩
    exact sep_later HL1.out.bl ho (Nat.le_refl _)
  have HRD := Hid.mk' HL1.out.rd
  clear ho hb D3 HL1
  go_wp2_with fail
  refine (cW.out _).mono ?_
  rintro e x4 ⟨rfl, hb⟩
  have HT4 := Hid.mk' (HT3.out.below hb)
  clear hb HT3 cW
  have q1 := cell_atR (j := 1) (HX.out _ HT4.out.bel) rfl
  obtain ⟨y, hy⟩ : ∃ y : Nat, th % (k : Int) = (y : Int) := ⟨(th % (k : Int)).toNat, by rw [Int.toNat_of_nonneg (Int.emod_nonneg _ (by omega))]⟩
  have hyk : y < k := by
    have := Int.emod_lt_of_pos th (by omega : (0 : Int) < (k : Int))
    omega
  have C5 : Hid (Calls Try.prog 13 #[nu th, nu (k : Int)] x4 fun e w' => e = .returned (nu (y : Int)) ∧ w' = x4) := by
    have := pick_any th k x4 (by omega) (by omega) HTH.out
    rw [hy] at this
    exact this
  have hkI : ((k : Int) == 0) = false := beq_eq_false_iff_ne.2 (by omega)
  clear hy
  go_wp2_with fail
  refine C5.out.mono ?_
  rintro e x5 ⟨rfl, rfl⟩
  clear C5 q1
  go_wp2
  go_loopw [7, 14, 15] (fun bv iv _ wr => ∃ (i : Nat) (T : List (List UInt8)), i ≤ k ∧ iv = nu (i : Int) ∧ Hid (Tn w0 wr ep PS T (p.take 512) bv (.slice a2 nv k2) (.slice (some ⟨gr, 0, none⟩) k cr) vs m i k)) (fun _ iv _ _ => k - (intOf iv).toNat)
  case atStart => exact ⟨0, [], Nat.zero_le _, rfl, HT4⟩
  case round =>
  clear HT4
  obtain ⟨i, T, hi, rfl, hT⟩ := hrel
  by_cases hik : i < k
  · have q2 := cell_atR (j := 2) (HX.out _ hT.out.bel) rfl
    have hiI : (i : Int) < (k : Int) := by omega
    have hi0 : (0 : Int) ≤ (i : Int) := by omega
    obtain ⟨mt, hmt, hmtl⟩ : ∃ mt, wr.cell? ⟨gr, i, none⟩ = some (.string (tx mt)) ∧ mt.length ≤ 140737488350000 := by
      have hjb : i < (blocks ep (p.take 512)).length := by rw [HKK.out]; exact hik
      refine ⟨(blocks ep (p.take 512))[i], ?_, by have := blocks_short ep (p.take 512) _ (List.getElem_mem hjb); omega⟩
      have := hT.out.mo.cells (g := gr) rfl i (Nm.txt (blocks ep (p.take 512))[i]) (by rw [List.getElem?_map, List.getElem?_eq_getElem hjb]; rfl)
      rw [Addr.add_lit, Nat.zero_add] at this
      exact this
    have hmx : Hid (m + i + 1 ≤ maxLen) := by show _ ≤ _; unfold maxLen; omega
    have hby : Hid ((m + i + 1) * 16 ≤ 140737488355328) := by show _ ≤ _; omega
    have cB : Hid (∀ wx t, t.length ≤ 140737488350000 → Calls Try.prog 18 #[.string (tx t), .int .u32 (ep : Int)] wx fun e w' => e = .returned (.bool (decide (begins ep t))) ∧ Below wx.heap.size wx w') := fun wx t ht => begins_any ep t wx hep (by omega)
    by_cases hib : i < nb
    · obtain ⟨g, o, t, rfl, hg, hc, hmem⟩ := HCB.out i hib
      have hct : wr.cell? ⟨g, o + i, none⟩ = some (.string (tx t)) := ((hB0.out.trans (hT.out.bel.mono hB0.out.size)).cell (p := ⟨g, o + i, none⟩) hg).trans hc
      have htl := HBT.out t hmem
      have hibI : (i : Int) < (nb : Int) := by omega
      clear hc hmem
      by_cases hi00 : i = 0
      · subst hi00
        rw [Nat.add_zero] at hct
        have C := Hid.mk' (cB.out wr t htl)
        by_cases hbg : begins ep t
        · rw [decide_eq_true hbg] at C
          go_wp2_with fail
          refine C.out.mono ?_
          rintro e x6 ⟨rfl, hb⟩
          have HB6 := Hid.mk' (hB0.out.trans ((hT.out.bel.trans (hb.mono hT.out.bel.size)).mono hB0.out.size))
          clear hb
          go_wp2
          go_ret
          exact ⟨rfl, HB6.out⟩
        · rw [decide_eq_false hbg] at C
          have HBG := Hid.mk' hbg
          have hky : ¬ (k : Int) - (y : Int) ≤ 0 := by omega
          clear hbg
          go_wp2_with fail
          refine C.out.mono ?_
          rintro e x6 ⟨rfl, hb⟩
          have HT6 := Hid.mk' (hT.out.below hb)
          clear hb C
          clear hmt q2 hct
          have hone : Hid (∀ x ∈ [Value.string (tx t)], x.oneCell' = true) := by intro x hx; simp at hx; subst hx; rfl
          go_wp2_with (at_builtin; refine wpList_append_lies _ rfl _ _ 23 rfl w0.heap.size 9 i0 (.string ⟨#[]⟩) 1 16 Try.underlying23 ji hz0 hz1 hz2 rfl (by decide) _ (m + 0) _ rfl (HT6.out.bl.alloc _) ⟨x6.heap.size, 0, none⟩ 1 1 [.string (tx t)] rfl rfl (cell_one_new _ _ _) hone.out (by decide) hmx.out hby.out (by have := HT6.out.bel.size; simp; omega) _ rfl ?_; intro g3 c3 w3 ho hg hl hlt; have HT9 := Hid.mk' (Tn.more (HT6.out.below ((Below.refl _ _).alloc (Nat.le_refl _) _)) htl (fun _ => HBG.out) ho hg hl); clear ho hg hl hlt)
          first
            | (refine ⟨⟨0 + 1, T ++ [t], by omega, by go_num, HT9⟩, ?_⟩; simp [intOf]; omega)
            | (go_roundw; (case rel => exact ⟨0 + 1, T ++ [t], by omega, by go_num, HT9⟩); (case measure => simp [intOf]; omega))
      · have hi1 : ((i : Int) == 0) = false := beq_eq_false_iff_ne.2 (by omega)
        by_cases hky : k - y ≤ i
        · have hkI2 : (k : Int) - (y : Int) ≤ (i : Int) := by omega
          have hone : Hid (∀ x ∈ [Value.string (tx mt)], x.oneCell' = true) := by intro x hx; simp at hx; subst hx; rfl
          go_wp2_with (at_builtin; refine wpList_append_lies _ rfl _ _ 23 rfl w0.heap.size 9 i0 (.string ⟨#[]⟩) 1 16 Try.underlying23 ji hz0 hz1 hz2 rfl (by decide) _ (m + i) _ rfl (hT.out.bl.alloc _) ⟨wr.heap.size, 0, none⟩ 1 1 [.string (tx mt)] rfl rfl (cell_one_new _ _ _) hone.out (by decide) hmx.out hby.out (by have := hT.out.bel.size; simp; omega) _ rfl ?_; intro g3 c3 w3 ho hg hl hlt; have HT9 := Hid.mk' (Tn.more (hT.out.below ((Below.refl _ _).alloc (Nat.le_refl _) _)) hmtl (fun h => absurd h hi00) ho hg hl); clear ho hg hl hlt)
          first
            | (refine ⟨⟨i + 1, T ++ [mt], by omega, by go_num, HT9⟩, ?_⟩; simp [intOf]; omega)
            | (go_roundw; (case rel => exact ⟨i + 1, T ++ [mt], by omega, by go_num, HT9⟩); (case measure => simp [intOf]; omega))
        · have hkI2 : ¬ (k : Int) - (y : Int) ≤ (i : Int) := by omega
          have hone : Hid (∀ x ∈ [Value.string (tx t)], x.oneCell' = true) := by intro x hx; simp at hx; subst hx; rfl
          go_wp2_with (at_builtin; refine wpList_append_lies _ rfl _ _ 23 rfl w0.heap.size 9 i0 (.string ⟨#[]⟩) 1 16 Try.underlying23 ji hz0 hz1 hz2 rfl (by decide) _ (m + i) _ rfl (hT.out.bl.alloc _) ⟨wr.heap.size, 0, none⟩ 1 1 [.string (tx t)] rfl rfl (cell_one_new _ _ _) hone.out (by decide) hmx.out hby.out (by have := hT.out.bel.size; simp; omega) _ rfl ?_; intro g3 c3 w3 ho hg hl hlt; have HT9 := Hid.mk' (Tn.more (hT.out.below ((Below.refl _ _).alloc (Nat.le_refl _) _)) htl (fun h => absurd h hi00) ho hg hl); clear ho hg hl hlt)
          first
            | (refine ⟨⟨i + 1, T ++ [t], by omega, by go_num, HT9⟩, ?_⟩; simp [intOf]; omega)
            | (go_roundw; (case rel => exact ⟨i + 1, T ++ [t], by omega, by go_num, HT9⟩); (case measure => simp [intOf]; omega))
    · have hibI : ¬ (i : Int) < (nb : Int) := by omega
      have htl : ([] : List UInt8).length ≤ 140737488350000 := by decide
      by_cases hi00 : i = 0
      · subst hi00
        have C := Hid.mk' (cB.out wr ([] : List UInt8) htl)
        by_cases hbg : begins ep ([] : List UInt8)
        · rw [decide_eq_true hbg] at C
          go_wp2_with fail
          refine C.out.mono ?_
          rintro e x6 ⟨rfl, hb⟩
          have HB6 := Hid.mk' (hB0.out.trans ((hT.out.bel.trans (hb.mono hT.out.bel.size)).mono hB0.out.size))
          clear hb
          go_wp2
          go_ret
          exact ⟨rfl, HB6.out⟩
        · rw [decide_eq_false hbg] at C
          have HBG := Hid.mk' hbg
          have hky : ¬ (k : Int) - (y : Int) ≤ 0 := by omega
          clear hbg
          go_wp2_with fail
          refine C.out.mono ?_
          rintro e x6 ⟨rfl, hb⟩
          have HT6 := Hid.mk' (hT.out.below hb)
          clear hb C
          clear hmt q2
          have hone : Hid (∀ x ∈ [Value.string ⟨#[]⟩], x.oneCell' = true) := by intro x hx; simp at hx; subst hx; rfl
          go_wp2_with (at_builtin; refine wpList_append_lies _ rfl _ _ 23 rfl w0.heap.size 9 i0 (.string ⟨#[]⟩) 1 16 Try.underlying23 ji hz0 hz1 hz2 rfl (by decide) _ (m + 0) _ rfl (HT6.out.bl.alloc _) ⟨x6.heap.size, 0, none⟩ 1 1 [.string ⟨#[]⟩] rfl rfl (cell_one_new _ _ _) hone.out (by decide) hmx.out hby.out (by have := HT6.out.bel.size; simp; omega) _ rfl ?_; intro g3 c3 w3 ho hg hl hlt; have HT9 := Hid.mk' (Tn.more (HT6.out.below ((Below.refl _ _).alloc (Nat.le_refl _) _)) htl (fun _ => HBG.out) ho hg hl); clear ho hg hl hlt)
          first
            | (refine ⟨⟨0 + 1, T ++ [([] : List UInt8)], by omega, by go_num, HT9⟩, ?_⟩; simp [intOf]; omega)
            | (go_roundw; (case rel => exact ⟨0 + 1, T ++ [([] : List UInt8)], by omega, by go_num, HT9⟩); (case measure => simp [intOf]; omega))
      · have hi1 : ((i : Int) == 0) = false := beq_eq_false_iff_ne.2 (by omega)
        by_cases hky : k - y ≤ i
        · have hkI2 : (k : Int) - (y : Int) ≤ (i : Int) := by omega
          have hone : Hid (∀ x ∈ [Value.string (tx mt)], x.oneCell' = true) := by intro x hx; simp at hx; subst hx; rfl
          go_wp2_with (at_builtin; refine wpList_append_lies _ rfl _ _ 23 rfl w0.heap.size 9 i0 (.string ⟨#[]⟩) 1 16 Try.underlying23 ji hz0 hz1 hz2 rfl (by decide) _ (m + i) _ rfl (hT.out.bl.alloc _) ⟨wr.heap.size, 0, none⟩ 1 1 [.string (tx mt)] rfl rfl (cell_one_new _ _ _) hone.out (by decide) hmx.out hby.out (by have := hT.out.bel.size; simp; omega) _ rfl ?_; intro g3 c3 w3 ho hg hl hlt; have HT9 := Hid.mk' (Tn.more (hT.out.below ((Below.refl _ _).alloc (Nat.le_refl _) _)) hmtl (fun h => absurd h hi00) ho hg hl); clear ho hg hl hlt)
          first
            | (refine ⟨⟨i + 1, T ++ [mt], by omega, by go_num, HT9⟩, ?_⟩; simp [intOf]; omega)
            | (go_roundw; (case rel => exact ⟨i + 1, T ++ [mt], by omega, by go_num, HT9⟩); (case measure => simp [intOf]; omega))
        · have hkI2 : ¬ (k : Int) - (y : Int) ≤ (i : Int) := by omega
          have hone : Hid (∀ x ∈ [Value.string ⟨#[]⟩], x.oneCell' = true) := by intro x hx; simp at hx; subst hx; rfl
          go_wp2_with (at_builtin; refine wpList_append_lies _ rfl _ _ 23 rfl w0.heap.size 9 i0 (.string ⟨#[]⟩) 1 16 Try.underlying23 ji hz0 hz1 hz2 rfl (by decide) _ (m + i) _ rfl (hT.out.bl.alloc _) ⟨wr.heap.size, 0, none⟩ 1 1 [.string ⟨#[]⟩] rfl rfl (cell_one_new _ _ _) hone.out (by decide) hmx.out hby.out (by have := hT.out.bel.size; simp; omega) _ rfl ?_; intro g3 c3 w3 ho hg hl hlt; have HT9 := Hid.mk' (Tn.more (hT.out.below ((Below.refl _ _).alloc (Nat.le_refl _) _)) htl (fun h => absurd h hi00) ho hg hl); clear ho hg hl hlt)
          first
            | (refine ⟨⟨i + 1, T ++ [([] : List UInt8)], by omega, by go_num, HT9⟩, ?_⟩; simp [intOf]; omega)
            | (go_roundw; (case rel => exact ⟨i + 1, T ++ [([] : List UInt8)], by omega, by go_num, HT9⟩); (case measure => simp [intOf]; omega))
  · obtain rfl : i = k := by omega
    have HRd : Hid (Nm.Rd wr u7 (flat ep PS ++ T)) := Nm.rd_own (by rw [List.length_append, hT.out.ml, hT.out.tl]; exact hT.out.bl)
    have hsc := scan_whole ep PS T HPl.out hT.out.nb
    have CS : Hid (Calls Try.prog 8 #[.int .u32 (ep : Int), u7] wr fun e w' => ∃ r vs', e = .returned (.tuple #[r, nu (m : Int)]) ∧ w'.ownsRow wr.heap.size 32 1 r vs'.length vs' ∧ Rows w' wr.heap.size vs' PS ∧ Below wr.heap.size wr w') := by
      refine (SS wr ep u7 (flat ep PS ++ T) hep HRd.out (by rw [List.length_append, hT.out.ml, hT.out.tl]; omega) (fun t ht => ?_)).mono ?_
      · rcases List.mem_append.1 ht with h | h
        · obtain ⟨q, _, hq⟩ := List.mem_flatMap.1 h
          have := blocks_short ep q t hq
          omega
        · exact hT.out.tt t h
      · rintro e w' ⟨r, vs', rfl, ho, hr, _, hb⟩
        rw [hsc.1] at hr
        rw [hsc.2, hT.out.ml]
        exact ⟨r, vs', rfl, ho, hr, hb⟩
    clear hsc HRd
    go_wp2_with fail
    refine CS.out.mono ?_
    rintro e x7 ⟨r, vs', rfl, ho5, hr5, hb5⟩
    have HB7 := Hid.mk' (hT.out.bel.trans (hb5.mono hT.out.bel.size))
    have HG7 := Hid.mk' (rows_rdl ho5 hr5)
    have HW7 : Hid (RdL x7 (.slice a2 nv k2) PS) := by
      have h1 := own_keptB hT.out.out hb5
      rw [← HNV.out] at h1 ⊢
      exact reads_rdl h1 (HRD.out.below HB7.out)
    have C8 := Hid.mk' (same_rows r (.slice a2 nv k2) PS x7 HG7.out HW7.out)
    obtain ⟨a5, k5, rfl, _⟩ := Nm.own_shape ho5
    clear ho5 hr5 hb5 CS HG7 HW7
    go_wp2_with fail
    refine C8.out.mono ?_
    rintro e x8 ⟨rfl, hb⟩
    have HB8 := Hid.mk' (hB0.out.trans ((HB7.out.trans (hb.mono HB7.out.size)).mono hB0.out.size))
    clear hb C8
    go_wp2
    go_ret
    exact ⟨rfl, HB8.out⟩
end Rc
end Go.Proofs.Ytjnodkjeiogloaa
