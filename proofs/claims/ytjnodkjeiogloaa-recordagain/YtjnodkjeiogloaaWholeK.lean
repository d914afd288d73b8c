/- RecordWhole. -/
import Derived.Test.YtjnodkjeiogloaaLadR
namespace Go.Proofs.Ytjnodkjeiogloaa
set_option linter.ambiguousOpen false
open Go.RowKit
namespace Rc
open Sm Pk
set_option linter.unusedSimpArgs false
set_option linter.unusedVariables false

/-- Appending texts (which may be none) to a list of texts of one's own. -/
theorem append_texts {w : World} {base n : Nat} {v : Value} {xs : List Value} (hown : w.ownsRow base 9 1 v n xs) {u : Value} {l : List (List UInt8)} (hR : Nm.Rd w u l) (hz : Nz u) (hb : (n + l.length) * 16 ≤ 140737488355328) (hbase : base ≤ w.heap.size) (ty : TypeId) :
    ∃ v' w', (Builtin.append_ #[23, 23] ty #[v, u]).run Try.prog w = .ok v' w' ∧ w'.ownsRow base 9 1 v' (n + l.length) (xs ++ l.map Nm.txt) ∧ w.grownBy w' v.ownBlock := by
  obtain ⟨i0, hi, hz0, hz1, hz2⟩ := info_parts (show (Try.prog.info? 9).map (fun i => (i.zero, i.size, i.bytes)) = some (some (.string ⟨#[]⟩), 1, 16) by kernel_rfl)
  obtain ⟨a, cap, rfl, h1, h2, h3⟩ := hR
  rcases hz with hz | ⟨ad, m, c, hz⟩
  · obtain ⟨rfl, h0, rfl⟩ : a = none ∧ l.length = 0 ∧ cap = 0 := by simpa using hz
    obtain rfl := List.eq_nil_of_length_eq_zero h0
    refine ⟨v, w, ?_, by simpa using hown, ⟨rfl, rfl, rfl, Nat.le_refl _, fun _ _ _ => rfl⟩⟩
    exact run_append_owned_none w base 23 ty 9 i0 1 Try.underlying23 hi v n xs hown
  · obtain ⟨rfl, h0, rfl⟩ : a = some ad ∧ l.length = m ∧ cap = c := by simpa using hz
    have hn : ∀ j u, (l.map Nm.txt)[j]? = some u → w.cell? (ad.add j) = some u := fun j u hj => by
      have hj' : j < l.length := by
        have := (List.getElem?_eq_some_iff.1 hj).1
        simpa using this
      obtain ⟨g, o, e1, _, e3⟩ := h3 (by omega)
      cases e1
      rw [List.getElem?_map, List.getElem?_eq_getElem hj'] at hj
      rw [Addr.add_mid, e3 j hj']
      exact hj
    obtain ⟨v', w', hr, g1, g2, _, g4⟩ := run_append_own_at (P := Try.prog) w base 23 ty 9 i0 (.string ⟨#[]⟩) 1 16 Try.underlying23 hi hz0 hz1 hz2 rfl (by decide) v n xs hown ad l.length cap (l.map Nm.txt) (by simp) hn (fun u hu => by
      obtain ⟨b, _, rfl⟩ := List.mem_map.1 hu
      rfl) (by unfold maxLen; omega) (by omega) hbase
    exact ⟨v', w', hr, g1, g2⟩

theorem wpList_append_texts {w : World} {ops : Array Oper} {rest : List Oper} {o : Oper} {a : Act} {Q : Exit → Act → World → Prop} (hgd : o.guard = none) (s x : Operand)
    (ho : o.op = .call { callee := .builtin .append, args := #[s, x], argTypes := #[23, 23] })
    (base n : Nat) (v u : Value) (xs : List Value) (l : List (List UInt8)) (hs : a.eval s = v) (hx : a.eval x = u) (hown : w.ownsRow base 9 1 v n xs) (hR : Nm.Rd w u l) (hz : Nz u) (hb : (n + l.length) * 16 ≤ 140737488355328) (hbase : base ≤ w.heap.size)
    (h : ∀ v' w', w'.ownsRow base 9 1 v' (n + l.length) (xs ++ l.map Nm.txt) → w.grownBy w' v.ownBlock → wpList Try.prog ops Q rest (a.put o.dst v') w') : wpList Try.prog ops Q (o :: rest) a w := by
  refine wpList_plain hgd fun K hK => ?_
  obtain ⟨v', w', hr, h1, h2⟩ := append_texts hown hR hz hb hbase o.type
  unfold Oper.wp execOp
  simp only [ho, resolve, invoke, builtin, Sem.run_bind, Sem.run_pure, Result.andThen_ok, List.map_toArray, List.map_cons, List.map_nil, hs, hx, hr]
  exact hK _ _ (h v' w' h1 h2)

theorem sep_kept {u v : Value} (h : Nm.Sep u v) : v.ownBlock = none ∨ v.ownBlock ≠ u.ownBlock := by
  cases hv : v.ownBlock with
  | none => exact .inl rfl
  | some b => exact .inr (fun e => h b e.symm hv)

set_option maxRecDepth 100000 in
set_option maxHeartbeats 8000000 in
theorem whole_yes (SF : FrameC) (SS : ScanC) (ep : Nat) (lv bh : Value) (L B : List (List UInt8)) (w : World) (hep : ep < 4294967296) (hR : RdL w lv L) (hN : L.length ≤ 1000000000000) (hB : Nm.Rd w bh B) (hzB : Nz bh) (hBn : B.length ≤ 1000000000000) (hBt : ∀ t ∈ B, t.length ≤ 140737488350000) :
    Calls Try.prog 4 #[.int .u32 (ep : Int), lv, bh] w fun e w' => e = .returned (.bool true) ∧ Below w.heap.size w w' := by
  have c1 := Hid.mk' (laid_any SF ep lv L w hep hR hN)
  have cW := Hid.mk' (fun wx => works_yes SF SS wx)
  obtain ⟨PS, hPS⟩ : ∃ x, L.map (·.take 512) = x := ⟨_, rfl⟩
  have hPl : ∀ p ∈ PS, p.length ≤ 512 := fun p hp => by
    rw [← hPS] at hp
    obtain ⟨q, _, rfl⟩ := List.mem_map.1 hp
    rw [List.length_take]
    omega
  have hPn : PS.length ≤ 1000000000000 := by
    rw [← hPS, List.length_map]
    exact hN
  rw [hPS] at c1
  have HPl := Hid.mk' hPl
  have HBR := Hid.mk' hB
  have HZB := Hid.mk' hzB
  have HBT := Hid.mk' hBt
  obtain ⟨al, cl, rfl, _⟩ := hR
  obtain ⟨nb, hnb⟩ : ∃ x, B.length = x := ⟨_, rfl⟩
  have HNB := Hid.mk' hnb
  obtain ⟨ab, cb, rfl, hcb1, hcb2, hcbx⟩ := hB
  rw [hnb] at HBR HZB hBn ⊢
  have HCB : Hid (0 < nb → ∃ g o t, ab = some ⟨g, o, none⟩ ∧ g < w.heap.size ∧ w.cell? ⟨g, o, none⟩ = some (.string (tx t)) ∧ t ∈ B ∧ B.head? = some t) := fun h0 => by
    obtain ⟨g, o, e1, e2, e3⟩ := hcbx (by omega)
    cases B with
    | nil => simp at hnb; omega
    | cons t B' =>
      have := e3 0 (by simp)
      exact ⟨g, o, t, e1, e2, this, by simp, rfl⟩
  clear hPS hPl hcbx hnb hcb1 hcb2 hBt hzB
  obtain ⟨nl, hnl⟩ : ∃ x, L.length = x := ⟨_, rfl⟩
  rw [hnl] at c1 ⊢
  clear hnl hN
  go_enter Try.func4, Try.ntmps4
  go_wp2_with fail
  refine c1.out.mono ?_
  rintro e x1 ⟨bv, ov, vs, m, rfl, hL⟩
  have HL := Hid.mk' hL
  have hm3 : m ≤ 3000000000000 := by
    have := flat_take_len ep PS HPl.out
    rw [hL.ml] at this
    omega
  obtain ⟨a1, k1, rfl, _⟩ := Nm.own_shape hL.bl
  obtain ⟨a2, k2, rfl, _⟩ := Nm.own_shape hL.out
  obtain ⟨nv, hnv⟩ : ∃ x, vs.length = x := ⟨_, rfl⟩
  rw [hnv] at HL ⊢
  have HNV := Hid.mk' hnv
  clear hL hnv c1
  go_wp2_with fail
  refine (cW.out _).mono ?_
  rintro e x2 ⟨rfl, hb⟩
  have HL2 := Hid.mk' (HL.out.below hb)
  clear hb HL
  by_cases hcase : ∃ t, B.head? = some t ∧ begins ep t
  · obtain ⟨t, ht1, ht2⟩ := hcase
    have hnb0 : 0 < nb := by
      have := HNB.out
      cases B with
      | nil => simp at ht1
      | cons t B' => simp at this; omega
    obtain ⟨g, o, t', rfl, hg, hc, hmem, hh⟩ := HCB.out hnb0
    obtain rfl : t = t' := by rw [ht1] at hh; exact Option.some.inj hh
    have hcx : x2.cell? ⟨g, o, none⟩ = some (.string (tx t)) := (HL2.out.bel.cell (p := ⟨g, o, none⟩) hg).trans hc
    have cB : Hid (∀ wx, Calls Try.prog 18 #[.string (tx t), .int .u32 (ep : Int)] wx fun e w' => e = .returned (.bool true) ∧ Below wx.heap.size wx w') := fun wx => by
      have := begins_any ep t wx hep (by have := HBT.out t hmem; omega)
      rw [decide_eq_true ht2] at this
      exact this
    have hnI : (0 : Int) < (nb : Int) := by omega
    clear hc hh ht1 ht2 hmem
    go_wp2_with fail
    refine (cB.out _).mono ?_
    rintro e x3 ⟨rfl, hb⟩
    have HB3 := Hid.mk' (HL2.out.bel.trans (hb.mono HL2.out.bel.size))
    clear hb hcx
    go_wp2_with fail
    refine (cW.out _).mono ?_
    rintro e x4 ⟨rfl, hb⟩
    have HB4 := Hid.mk' (HB3.out.trans (hb.mono HB3.out.size))
    clear hb
    go_wp2
    go_ret
    exact ⟨rfl, HB4.out⟩
  · by_cases hnb0 : 0 < nb
    · obtain ⟨g, o, t, rfl, hg, hc, hmem, hh⟩ := HCB.out hnb0
      have hcx : x2.cell? ⟨g, o, none⟩ = some (.string (tx t)) := (HL2.out.bel.cell (p := ⟨g, o, none⟩) hg).trans hc
      have cB : Hid (∀ wx, Calls Try.prog 18 #[.string (tx t), .int .u32 (ep : Int)] wx fun e w' => e = .returned (.bool false) ∧ Below wx.heap.size wx w') := fun wx => by
        have := begins_any ep t wx hep (by have := HBT.out t hmem; omega)
        rw [decide_eq_false (fun h => hcase ⟨t, hh, h⟩)] at this
        exact this
      have hnI : (0 : Int) < (nb : Int) := by omega
      clear hc hh hmem
      go_wp2_with fail
      refine (cB.out _).mono ?_
      rintro e x3 ⟨rfl, hb⟩
      have HL3 := Hid.mk' (HL2.out.below hb)
      clear hb hcx HL2 cB
      have hby : Hid ((m + B.length) * 16 ≤ 140737488355328) := by show _ ≤ _; have := HNB.out; omega
      go_wp2_with (at_builtin; refine wpList_append_texts rfl _ _ rfl w.heap.size m _ _ _ B rfl rfl HL3.out.bl (HBR.out.below HL3.out.bel) HZB.out hby.out HL3.out.bel.size ?_; intro v' w4 ho hg; have HO4 := Hid.mk' ho; have HW4 := Hid.mk' (HL3.out.out.kept hg (sep_kept HL3.out.sep)); have HB4 : Hid (Below w.heap.size w w4) := Below.grown HL3.out.bel hg HL3.out.bel.size (fun j hj => (HL3.out.bl.lt j hj).1); clear ho hg)
      have HRd : Hid (Nm.Rd w4 v' (flat ep PS ++ B)) := Nm.rd_own (by rw [List.length_append, List.map_append, HL3.out.ml]; exact HO4.out)
      have hsc := scan_whole ep PS B HPl.out (fun b r hb hbe => hcase ⟨b, by rw [hb]; rfl, hbe⟩)
      have CS : Hid (Calls Try.prog 8 #[.int .u32 (ep : Int), v'] w4 fun e w' => ∃ r vs', e = .returned (.tuple #[r, nu (m : Int)]) ∧ w'.ownsRow w4.heap.size 32 1 r vs'.length vs' ∧ Rows w' w4.heap.size vs' PS ∧ Below w4.heap.size w4 w') := by
        refine (SS w4 ep v' (flat ep PS ++ B) hep HRd.out (by rw [List.length_append, HL3.out.ml, HNB.out]; omega) (fun t ht => ?_)).mono ?_
        · rcases List.mem_append.1 ht with h | h
          · obtain ⟨q, _, hq⟩ := List.mem_flatMap.1 h
            have := blocks_short ep q t hq
            omega
          · exact HBT.out t h
        · rintro e w' ⟨r, vs', rfl, ho, hr, _, hb⟩
          rw [hsc.1] at hr
          rw [hsc.2, HL3.out.ml]
          exact ⟨r, vs', rfl, ho, hr, hb⟩
      clear hsc HO4 HRd
      refine CS.out.mono ?_
      rintro e x5 ⟨r, vs', rfl, ho5, hr5, hb5⟩
      have HB5 := Hid.mk' (HB4.out.trans (hb5.mono HB4.out.size))
      have HG5 := Hid.mk' (rows_rdl ho5 hr5)
      have HW5 : Hid (RdL x5 (.slice a2 nv k2) PS) := by
        have h1 := own_keptB HW4.out hb5
        rw [← HNV.out] at h1 ⊢
        exact reads_rdl h1 (HL3.out.rd.below HB5.out)
      have C6 := Hid.mk' (same_rows r (.slice a2 nv k2) PS x5 HG5.out HW5.out)
      obtain ⟨a5, k5, rfl, _⟩ := Nm.own_shape ho5
      clear ho5 hr5 hb5 CS HG5 HW5 HW4
      go_wp2_with fail
      refine C6.out.mono ?_
      rintro e x6 ⟨rfl, hb⟩
      have HB6 := Hid.mk' (HB5.out.trans (hb.mono HB5.out.size))
      clear hb C6
      go_wp2
      go_ret
      exact ⟨rfl, HB6.out⟩
    · have hnI : ¬ (0 : Int) < (nb : Int) := by omega
      have hby : Hid ((m + B.length) * 16 ≤ 140737488355328) := by show _ ≤ _; have := HNB.out; omega
      go_wp2_with (at_builtin; refine wpList_append_texts rfl _ _ rfl w.heap.size m _ _ _ B rfl rfl HL2.out.bl (HBR.out.below HL2.out.bel) HZB.out hby.out HL2.out.bel.size ?_; intro v' w4 ho hg; have HO4 := Hid.mk' ho; have HW4 := Hid.mk' (HL2.out.out.kept hg (sep_kept HL2.out.sep)); have HB4 : Hid (Below w.heap.size w w4) := Below.grown HL2.out.bel hg HL2.out.bel.size (fun j hj => (HL2.out.bl.lt j hj).1); clear ho hg)
      have HRd : Hid (Nm.Rd w4 v' (flat ep PS ++ B)) := Nm.rd_own (by rw [List.length_append, List.map_append, HL2.out.ml]; exact HO4.out)
      have hsc := scan_whole ep PS B HPl.out (fun b r hb hbe => hcase ⟨b, by rw [hb]; rfl, hbe⟩)
      have CS : Hid (Calls Try.prog 8 #[.int .u32 (ep : Int), v'] w4 fun e w' => ∃ r vs', e = .returned (.tuple #[r, nu (m : Int)]) ∧ w'.ownsRow w4.heap.size 32 1 r vs'.length vs' ∧ Rows w' w4.heap.size vs' PS ∧ Below w4.heap.size w4 w') := by
        refine (SS w4 ep v' (flat ep PS ++ B) hep HRd.out (by rw [List.length_append, HL2.out.ml, HNB.out]; omega) (fun t ht => ?_)).mono ?_
        · rcases List.mem_append.1 ht with h | h
          · obtain ⟨q, _, hq⟩ := List.mem_flatMap.1 h
            have := blocks_short ep q t hq
            omega
          · exact HBT.out t h
        · rintro e w' ⟨r, vs', rfl, ho, hr, _, hb⟩
          rw [hsc.1] at hr
          rw [hsc.2, HL2.out.ml]
          exact ⟨r, vs', rfl, ho, hr, hb⟩
      clear hsc HO4 HRd
      refine CS.out.mono ?_
      rintro e x5 ⟨r, vs', rfl, ho5, hr5, hb5⟩
      have HB5 := Hid.mk' (HB4.out.trans (hb5.mono HB4.out.size))
      have HG5 := Hid.mk' (rows_rdl ho5 hr5)
      have HW5 : Hid (RdL x5 (.slice a2 nv k2) PS) := by
        have h1 := own_keptB HW4.out hb5
        rw [← HNV.out] at h1 ⊢
        exact reads_rdl h1 (HL2.out.rd.below HB5.out)
      have C6 := Hid.mk' (same_rows r (.slice a2 nv k2) PS x5 HG5.out HW5.out)
      obtain ⟨a5, k5, rfl, _⟩ := Nm.own_shape ho5
      clear ho5 hr5 hb5 CS HG5 HW5 HW4
      go_wp2_with fail
      refine C6.out.mono ?_
      rintro e x6 ⟨rfl, hb⟩
      have HB6 := Hid.mk' (HB5.out.trans (hb.mono HB5.out.size))
      clear hb C6
      go_wp2
      go_ret
      exact ⟨rfl, HB6.out⟩
end Rc
end Go.Proofs.Ytjnodkjeiogloaa
