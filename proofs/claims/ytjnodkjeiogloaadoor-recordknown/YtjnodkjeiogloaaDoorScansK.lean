import Derived.Test.YtjnodkjeiogloaaDoorScaM
/- RecordScans. -/
namespace Go.Proofs.YtjnodkjeiogloaaDoor
set_option linter.ambiguousOpen false
open Go.RowKit
namespace Rc
open Sm Pk Ft
set_option linter.unusedSimpArgs false
set_option linter.unusedVariables false
attribute [local go_sem] Oper.semAt_some

theorem eq_seq_nil (p q : Option Addr) (w : World) : (binOp BinOp.eql 94 (.func (.func 66) #[] #[.pointer p, .pointer q]) .nilFunc).run Tryd.prog w = .ok (.bool false) w := by kernel_rfl

theorem rd_lent {w : World} {base g cap : Nat} {l : List (List UInt8)} {xs : List Value} (hown : w.ownsRow base 9 1 (.slice (some ⟨g, 0, none⟩) (l.length + 16) cap) (l.length + 16) (l.map Nm.txt ++ xs)) (hcap : l.length + 16 ≤ cap) (hcm : cap ≤ maxLen) : Nm.Rd w (.slice (some ⟨g, 0, none⟩) l.length cap) l := by
  refine ⟨some ⟨g, 0, none⟩, cap, rfl, by omega, hcm, fun _ => ⟨g, 0, rfl, (hown.lt g rfl).2, fun j hj => ?_⟩⟩
  have := hown.cells (g := g) rfl j (Nm.txt l[j]) (by rw [List.getElem?_append_left (by simpa using hj), List.getElem?_map, List.getElem?_eq_getElem hj]; rfl)
  rw [Addr.add_lit] at this
  exact this

/-- A list of rows of one's own, by cells, reads as those rows. -/
theorem sc_rdl {w : World} {base : Nat} {r : Value} {vs : List Value} {ps : List (List UInt8)} (h : w.ownsRow base 23 1 r vs.length vs) (hl : vs.length = ps.length) (hr : ∀ (j : Nat) (v : Value) (p : List UInt8), vs[j]? = some v → ps[j]? = some p → OwnC w base v p) : RdL w r ps := by
  rcases h.2 with ⟨rfl, h0⟩ | ⟨g, cap, cur, rfl, h1, h2, h3, h4, h5, h6⟩
  · have : ps = [] := List.eq_nil_of_length_eq_zero (by omega)
    subst this
    exact ⟨none, 0, rfl, Nat.le_refl _, by decide, fun h => by simp at h⟩
  · refine ⟨some ⟨g, 0, none⟩, cap, by rw [hl], by omega, h4, fun _ => ⟨g, 0, rfl, (Array.getElem?_eq_some_iff.1 h2).1, fun j p hj => ?_⟩⟩
    have hj' : j < vs.length := by
      have := (List.getElem?_eq_some_iff.1 hj).1
      omega
    have ho := hr j vs[j] p (List.getElem?_eq_getElem hj') hj
    refine ⟨vs[j], ?_, ho.rd, ho.nz⟩
    rw [Nat.zero_add]
    have := h.cells (g := g) rfl j vs[j] (List.getElem?_eq_getElem hj')
    rw [Addr.add_lit, Nat.zero_add] at this
    exact this

set_option maxRecDepth 1000000 in
set_option maxHeartbeats 16000000 in
theorem scans_yes (ep : Nat) (lv : Value) (ls : List (List UInt8)) (most : Int) (w : World) (hep : ep < 4294967296) (hR : Nm.Rd w lv ls) (hN : ls.length ≤ 1048576) (hT : ∀ t ∈ ls, t.length ≤ 1048576) (hmost : -9223372036854775808 ≤ most ∧ most ≤ 9223372036854775807) :
    Calls Tryd.prog 27 #[.int .u32 (ep : Int), lv, nu most] w fun e w' => e = .returned (.bool true) ∧ Below w.heap.size w w' := by
  obtain ⟨i1, ji1, kz0, kz1, kz2⟩ := info_parts (show (Tryd.prog.info? 23).map (fun i => (i.zero, i.size, i.bytes)) = some (some (.slice none 0 0), 1, 24) by kernel_rfl)
  obtain ⟨n, hn⟩ : ∃ n, ls.length = n := ⟨_, rfl⟩
  have HN := Hid.mk' hn
  have HR := Hid.mk' hR
  have HT := Hid.mk' hT
  obtain ⟨la, lc, rfl, _⟩ := hR
  rw [hn] at HR hN ⊢
  have hB6 : Boxed (w.alloc (.cells #[.bool false] 4)) w.heap.size 4 (.bool false) := Boxed.new w _ _
  have q1 : Below w.heap.size w (w.alloc (.cells #[.bool false] 4)) := (Below.refl _ _).alloc (Nat.le_refl _) _
  have hs1 : Hid ((w.alloc (.cells #[.bool false] 4)).heap.size = w.heap.size + 1) := by show _ = _; simp
  obtain ⟨W1, hW1⟩ : ∃ x, w.alloc (.cells #[.bool false] 4) = x := ⟨_, rfl⟩
  rw [hW1] at hB6 q1 hs1
  have HB6 := Hid.mk' hB6
  have Q1 := Hid.mk' q1
  have c1 := Hid.mk' (Lb.lent_any (.slice la n lc) ls W1 (HR.out.below q1) (by rw [hn]; omega))
  obtain ⟨A, hA⟩ : ∃ x, recs ep 0 ls = x := ⟨_, rfl⟩
  obtain ⟨K, hK⟩ : ∃ x, (scan ep ls).2.2 = x := ⟨_, rfl⟩
  have HA1 : Hid ((scan ep ls).1 = A.map (·.2)) := by
    show _ = _
    rw [← hA, recs_pays]
  have HA2 : Hid ((scan ep ls).2.1 = A.map (·.1)) := by
    show _ = _
    rw [← hA, recs_places]
  have HAl : Hid (A.length ≤ 1048576) := by
    have h1 := recs_len ep ls
    rw [hA] at h1
    show _ ≤ _
    omega
  have HAs : Hid (∀ x ∈ A, x.2.length ≤ 512 ∧ x.1 + (blocks ep x.2).length ≤ 1048576) := fun x hx => by
    have := recs_in ep ls.length 0 ls (Nat.le_refl _) x (by rw [hA]; exact hx)
    exact ⟨this.1, by omega⟩
  have c2 : Hid (∀ wx v, Nm.Rd wx v ls → Calls Tryd.prog 29 #[.int .u32 (ep : Int), v] wx fun e w' => ∃ r vs, e = .returned (.tuple #[r, nu (K : Int)]) ∧ w'.ownsRow wx.heap.size 23 1 r vs.length vs ∧ Rows w' wx.heap.size vs (A.map (·.2)) ∧ Below wx.heap.size wx w') := fun wx v hv => by
    refine (Pr.scan_p wx ep v ls hep hv (by omega) (fun t ht => by have := HT.out t ht; omega)).mono ?_
    rintro e w' ⟨r, vs, rfl, h1, h2, _, h4⟩
    rw [HA1.out] at h2
    rw [hK]
    exact ⟨r, vs, rfl, h1, h2, h4⟩
  have c3 : Hid (∀ wx, Nm.Rd wx (.slice la n lc) ls → Calls Tryd.prog 51 #[.int .u32 (ep : Int), .slice la n lc] wx fun e w' => ∃ ov pv vs, e = .returned (.tuple #[ov, pv, nu (K : Int)]) ∧ Sc wx w' (A.map (·.2)) (A.map (·.1)) ov pv vs) := fun wx hv => by
    refine (refscan ep (.slice la n lc) ls wx hep hv (by omega) (fun t ht => by have := HT.out t ht; omega)).mono ?_
    rintro e w' ⟨ov, pv, vs, rfl, h1⟩
    rw [HA1.out, HA2.out] at h1
    rw [hK]
    exact ⟨ov, pv, vs, rfl, h1⟩
  have HREC : Hid (recs ep 0 ls = A) := hA
  clear hn hT hB6 q1 hA hK
  refine (callsIn_wide (n := 8)).1 ?_
  refine callsIn_of_wp_marks Tryd.func27 rfl trivial ?_ rfl
  refine wpIn_wide.2 ?_
  simp only [Tryd.ntmps27, List.size_toArray, List.length_cons, List.length_nil, Nat.reduceAdd, Nat.reduceSub, Array.replicate_succ, Array.replicate_zero, List.push_toArray, List.append_toArray, List.nil_append, List.cons_append]
  go_wp2_with fail
  rw [HN.out] at c1
  refine c1.out.mono ?_
  rintro e W2 ⟨gx, cx, rfl, hx1, hx2, hx3, hb2⟩
  have HX := Hid.mk' (show W2.ownsRow W1.heap.size 9 1 (.slice (some ⟨gx, 0, none⟩) (ls.length + 16) cx) (ls.length + 16) (ls.map Nm.txt ++ Nm.marks 90 16) by rw [HN.out]; exact hx3)
  have hxc : Hid (ls.length + 16 ≤ cx ∧ cx ≤ maxLen) := ⟨by rw [HN.out]; exact hx1, hx2⟩
  have Q2 := Hid.mk' (Q1.out.trans (hb2.mono Q1.out.size))
  have hr2 := rd_lent HX.out hxc.out.1 hxc.out.2
  rw [HN.out] at hr2
  have C2 := Hid.mk' (c2.out W2 _ hr2)
  have HB2 : Hid (Below W1.heap.size W1 W2) := hb2
  clear c1 c2 hx1 hx2 hx3 hr2 hb2 hW1
  go_wp2_with fail
  refine C2.out.mono ?_
  rintro e W3 ⟨av, asv, rfl, ha1, ha2, hb3⟩
  have HA3 := Hid.mk' ha1
  have HR3 := Hid.mk' ha2
  have HB3 := Hid.mk' hb3
  have Q3 := Hid.mk' (Q2.out.trans (hb3.mono Q2.out.size))
  have C3 := Hid.mk' (c3.out W3 (HR.out.below Q3.out))
  obtain ⟨aa, ac, rfl, _⟩ := Nm.own_shape ha1
  clear ha1 ha2 hb3 C2 c3
  go_wp2_with fail
  refine C3.out.mono ?_
  rintro e W4 ⟨ov, pv, vs, rfl, hS⟩
  have HS4 := Hid.mk' hS
  have Q4 := Hid.mk' (Q3.out.trans (hS.bel.mono Q3.out.size))
  obtain ⟨oa, oc, rfl, _⟩ := Nm.own_shape hS.out
  obtain ⟨pa, pc, rfl, _⟩ := Nm.own_shape hS.pl
  obtain ⟨nv, hnv⟩ : ∃ x, vs.length = x := ⟨_, rfl⟩
  obtain ⟨npl, hnpl⟩ : ∃ x, (A.map (·.1)).length = x := ⟨_, rfl⟩
  obtain ⟨na, hna⟩ : ∃ x, asv.length = x := ⟨_, rfl⟩
  simp only [hnv, hnpl, hna] at HS4 HA3 ⊢
  have HNV : Hid (nv = A.length) := by show _ = _; rw [← hnv, hS.len, List.length_map]
  have HNP : Hid (npl = A.length) := by show _ = _; rw [← hnpl, List.length_map]
  have HNA : Hid (na = A.length) := by show _ = _; rw [← hna, HR3.out.len, List.length_map]
  have HAV : Hid (asv.length = na) := hna
  have HVL : Hid (vs.length = nv) := hnv
  clear hS C3 hnpl hna hnv
  have q5 : Below W4.heap.size W4 ((W4.alloc (.cells #[.slice oa nv oc] 50)).alloc (.cells #[.slice pa npl pc] 59)) := ((Below.refl _ W4).alloc (Nat.le_refl _) _).alloc (by simp) _
  have g10 : Boxed ((W4.alloc (.cells #[.slice oa nv oc] 50)).alloc (.cells #[.slice pa npl pc] 59)) W4.heap.size 50 (.slice oa nv oc) := (Boxed.new W4 _ _).alloc _
  have g11 : Boxed ((W4.alloc (.cells #[.slice oa nv oc] 50)).alloc (.cells #[.slice pa npl pc] 59)) (W4.heap.size + 1) 59 (.slice pa npl pc) := by
    have := Boxed.new (W4.alloc (.cells #[.slice oa nv oc] 50)) 59 (.slice pa npl pc)
    simpa using this
  have s5 : ((W4.alloc (.cells #[.slice oa nv oc] 50)).alloc (.cells #[.slice pa npl pc] 59)).heap.size = W4.heap.size + 2 := by simp
  obtain ⟨W5, hW5⟩ : ∃ x, (W4.alloc (.cells #[.slice oa nv oc] 50)).alloc (.cells #[.slice pa npl pc] 59) = x := ⟨_, rfl⟩
  rw [hW5] at q5 g10 g11 s5
  have HW5 := Hid.mk' hW5
  have B34 : Below W3.heap.size W3 W5 := HS4.out.bel.trans (q5.mono HS4.out.bel.size)
  have hra : RdL W5 (.slice aa na ac) (A.map (·.2)) := by
    have h1 := rows_rdl (show W3.ownsRow W2.heap.size 23 1 (.slice aa na ac) asv.length asv by rw [HAV.out]; exact HA3.out) HR3.out
    exact h1.below B34
  have hro : RdL W5 (.slice oa nv oc) (A.map (·.2)) := by
    have h1 := sc_rdl (show W4.ownsRow W3.heap.size 23 1 (.slice oa nv oc) vs.length vs from HS4.out.out) HS4.out.len HS4.out.row
    exact h1.below q5
  have C4 := Hid.mk' (same_rows (.slice aa na ac) (.slice oa nv oc) (A.map (·.2)) W5 hra hro)
  have HQ5 := Hid.mk' q5
  have HG10 := Hid.mk' g10
  have HG11 := Hid.mk' g11
  have HS5 := Hid.mk' s5
  have HB35 := Hid.mk' B34
  have HRO := Hid.mk' hro
  have hPLr : Hid (W5.ownsRow W3.heap.size 3 1 (.slice pa npl pc) npl ((A.map (·.1)).map fun n : Nat => nu (n : Int))) := by
    have h1 := own_keptB HS4.out.pl q5
    rw [List.length_map, ← HNP.out] at h1
    exact h1
  have hc10 := g10.cell
  clear q5 g10 g11 s5 B34 hra hro
  go_wp2_with fail
  clear hW5 hc10
  refine C4.out.mono ?_
  rintro e WK ⟨rfl, hbk⟩
  have Q5 := Hid.mk' (Q4.out.trans (HQ5.out.mono Q4.out.size))
  have QK := Hid.mk' (Q5.out.trans (hbk.mono Q5.out.size))
  have b10 : Boxed WK W4.heap.size 50 (.slice oa nv oc) := (hbk.block _ HG10.out.lt).trans HG10.out
  have b11 : Boxed WK (W4.heap.size + 1) 59 (.slice pa npl pc) := (hbk.block _ HG11.out.lt).trans HG11.out
  have B1K : Below W1.heap.size W1 WK := (((HB2.out.trans (HB3.out.mono HB2.out.size)).trans (HB35.out.mono (Nat.le_trans HB2.out.size HB3.out.size)))).trans (hbk.mono (Nat.le_trans (Nat.le_trans HB2.out.size HB3.out.size) HB35.out.size))
  have B2K : Below W2.heap.size W2 WK := (HB3.out.trans (HB35.out.mono HB3.out.size)).trans (hbk.mono (Nat.le_trans HB3.out.size HB35.out.size))
  have B3K : Below W3.heap.size W3 WK := HB35.out.trans (hbk.mono HB35.out.size)
  have b6 : Boxed WK w.heap.size 4 (.bool false) := (B1K.block _ HB6.out.lt).trans HB6.out
  have HB6K := Hid.mk' b6
  have HB10 := Hid.mk' b10
  have HB11 := Hid.mk' b11
  have HXK := Hid.mk' (own_keptB HX.out B2K)
  have HLK := Hid.mk' (HR.out.below QK.out)
  have HAK : Hid (WK.ownsRow W2.heap.size 23 1 (.slice aa na ac) na asv) := own_keptB HA3.out B3K
  have HRK := Hid.mk' (HR3.out.below B3K)
  have HOK := Hid.mk' (HRO.out.below hbk)
  have HPK := Hid.mk' (own_keptB hPLr.out hbk)
  have hW2 : Hid (w.heap.size ≤ W2.heap.size) := Q2.out.size
  clear C4 hbk HG10 HG11 HW5 HS5 HB35 HRO hPLr HS4 HA3 HR3 HX HB6 HB2 HB3 HQ5 Q1 Q2 Q3 Q4 Q5 b6 b10 b11 B1K B2K B3K
  have P0 : Hid (Pt (WK.alloc (.cells #[.slice none 0 0] 50)) WK w.heap.size WK.heap.size (.slice none 0 0) [] []) := ⟨(Below.refl _ _).alloc (Nat.le_refl _) _, Boxed.new _ _ _, World.ownsRow_nil _ _ _ _, ⟨rfl, fun k v p hv => by simp at hv, fun j k u x _ hu => by simp at hu⟩⟩
  have hna1 : na ≤ 1048576 := by have := HNA.out; have := HAl.out; omega
  go_wp2_with fail
  go_loopw [14] (fun iv wr => ∃ (i : Nat) (v : Value), i ≤ na ∧ iv = nu (i : Int) ∧ Hid (Pt wr WK w.heap.size WK.heap.size v (asv.take i) ((A.map (·.2)).take i))) (fun iv _ => na - (intOf iv).toNat)
  case atStart => exact ⟨0, _, Nat.zero_le _, rfl, P0⟩
  case round =>
  clear P0
  obtain ⟨i, v, hi, rfl, hP⟩ := hrel
  by_cases hin : i < na
  · have hiI : (i : Int) < (na : Int) := by omega
    have hi0 : (0 : Int) ≤ (i : Int) := by omega
    have hia : i < asv.length := by rw [HAV.out]; exact hin
    obtain ⟨u, hu⟩ : ∃ u, asv[i]? = some u := ⟨_, List.getElem?_eq_getElem hia⟩
    obtain ⟨p, hp⟩ : ∃ p, (A.map (·.2))[i]? = some p := ⟨_, List.getElem?_eq_getElem (by rw [← HRK.out.len]; exact hia)⟩
    have huK := HRK.out.own i u p hu hp
    obtain ⟨ua, uc, hue, _⟩ := Nm.own_shape huK
    subst hue
    obtain ⟨ga, cpa, hae, hca, _⟩ := own_posB HAK.out (by omega)
    obtain ⟨rfl, rfl⟩ : aa = some ⟨ga, 0, none⟩ ∧ ac = cpa := by simpa using hae
    have hcu : wr.cell? ⟨ga, i, none⟩ = some (.slice ua p.length uc) := by
      have h1 := HAK.out.cells (g := ga) rfl i _ hu
      rw [Addr.add_lit, Nat.zero_add] at h1
      exact (hP.out.bel.cell (p := ⟨ga, i, none⟩) (HAK.out.lt ga rfl).2).trans h1
    have htk : (asv.take i).length = i := by rw [List.length_take]; omega
    have hrow := hP.out.row
    rw [htk] at hrow
    obtain ⟨va, vc, hve, _⟩ := Nm.own_shape hrow
    subst hve
    obtain ⟨np, hnp⟩ : ∃ x, p.length = x := ⟨_, rfl⟩
    rw [hnp] at hcu
    have hT1 : Hid (asv.take (i + 1) = asv.take i ++ [.slice ua np uc]) := by show _ = _; rw [List.take_add_one, hu, hnp]; rfl
    have hT2 : Hid ((A.map (·.2)).take (i + 1) = (A.map (·.2)).take i ++ [p]) := by show _ = _; rw [List.take_add_one, hp]; rfl
    have HROW := Hid.mk' hrow
    have HTK := Hid.mk' htk
    have hc0 := hP.out.box.cell
    have hmx : Hid (i + 1 ≤ maxLen) := by show _ ≤ _; unfold maxLen; omega
    have hby : Hid ((i + 1) * 24 ≤ 140737488355328) := by show _ ≤ _; omega
    have hws : Hid (WK.heap.size ≤ wr.heap.size) := hP.out.bel.size
    have hne : (⟨WK.heap.size, 0, none⟩ : Addr).block ≠ wr.heap.size := by have := hP.out.box.lt; show WK.heap.size ≠ _; omega
    have hlt0 : WK.heap.size < wr.heap.size := hP.out.box.lt
    have HPU : Hid (∀ g4 c4 w4, w4.ownsRow WK.heap.size 23 1 (.slice (some ⟨g4, 0, none⟩) (i + 1) c4) (i + 1) (asv.take i ++ [.slice ua np uc]) → ((wr.alloc (.cells #[.slice ua np uc] 23)).drew).grownBy w4 (Value.ownBlock (.slice va i vc)) → Boxed w4 WK.heap.size 50 (.slice va i vc) ∧ Pt (w4.setCell ⟨WK.heap.size, 0, none⟩ (.slice (some ⟨g4, 0, none⟩) (i + 1) c4)) WK w.heap.size WK.heap.size (.slice (some ⟨g4, 0, none⟩) (i + 1) c4) (asv.take (i + 1)) ((A.map (·.2)).take (i + 1))) := fun g4 c4 w4 r1 r2 => by
      have hb1 : Below wr.heap.size wr ((wr.alloc (.cells #[.slice ua np uc] 23)).drew) := ((Below.refl _ _).alloc (Nat.le_refl _) _).drew
      have hRw : Rows ((wr.alloc (.cells #[.slice ua np uc] 23)).drew) w.heap.size (asv.take i ++ [.slice ua np uc]) ((A.map (·.2)).take i ++ [p]) := by
        rw [← hT1.out, ← hT2.out]
        exact (((HRK.out.below hP.out.bel).below hb1).mono hW2.out).take (i + 1)
      rw [hT1.out, hT2.out]
      exact (hP.out.below hb1).push (H := 0) hRw (Nat.le_refl _) (by rw [HTK.out]; exact r1) r2
    clear hrow htk huK hp hu hia hca hae hnp
    go_wp2_with fail
    first | (go_region_law (refine step_append_lies _ (by rfl) _ _ 50 (by rfl) WK.heap.size 23 i1 (.slice none 0 0) 1 24 Tryd.underlying50 ji1 kz0 kz1 kz2 rfl (by decide) (.slice va i vc) i (asv.take i) (by rfl) ((HROW.out.alloc _).drew) ⟨wr.heap.size, 0, none⟩ 1 1 [.slice ua np uc] (by rfl) (by rfl) (World.news_of_block (cs := #[.slice ua np uc]) (t := 23) (fr := (0, 0)) (heap_alloc_new wr _)) (by simp [Value.oneCell']) (by decide) hmx.out hby.out (by have := hws.out; simp; omega) (wr.heap.size + 1) (by simp) ?_; intro g4 c4 w4 hs4 hg4 at4 lt4; obtain ⟨hbx, P2⟩ := HPU.out g4 c4 w4 hs4 hg4; have hc2 := hbx.cell; have hf2 := hbx.frozen; have HP2 := Hid.mk' P2; clear P2 hbx hs4 hg4 at4 lt4)) | fail
    all_goals (clear hc2 hf2 HPU HROW hT1 hT2 hc0 hcu hne; go_wp2; go_roundw)
    all_goals first | (exact ⟨i + 1, _, by omega, by go_num, HP2⟩) | (simp [intOf]; omega)
  · obtain rfl : i = na := by omega
    rw [List.take_of_length_le (by rw [HAV.out]; exact Nat.le_refl _), List.take_of_length_le (by rw [List.length_map, ← HNA.out]; exact Nat.le_refl _)] at hP
    have hiI : ¬ (i : Int) < (i : Int) := by omega
    have hrx : Nm.Rd wr (.slice (some ⟨gx, 0, none⟩) n cx) ls := by
      have h1 := rd_lent (own_keptB HXK.out hP.out.bel) hxc.out.1 hxc.out.2
      rw [HN.out] at h1
      exact h1
    have CA := Hid.mk' (Pr.allMake_p ep (.slice (some ⟨gx, 0, none⟩) n cx) ls wr hrx (by rw [HN.out]; omega))
    have hnil := eq_seq_nil
    clear hrx
    go_wp2_with fail
    refine CA.out.mono ?_
    rintro e W7 ⟨Be, Bl, cv, rfl, hM⟩
    have hbx := hP.out.box.lt
    have hbe := hM.be
    have hbl := hM.bl
    have ST0 : Hid (St W7 WK w.heap.size WK.heap.size ep ls Be Bl cv [] v asv (A.map (·.2))) := ⟨hP.out.bel.trans (hM.bel.mono hP.out.bel.size), (hM.bel.block _ hP.out.box.lt).trans hP.out.box, own_keptB hP.out.row hM.bel, hP.out.pays.below hM.bel, hM.base, own_mono hM.row hP.out.bel.size, ⟨List.nodup_nil, fun D hD => by simp at hD⟩⟩
    have hcvb : Hid (∀ b, cv.ownBlock = some b → WK.heap.size < b) := fun b hb => by
      have := (hM.row.lt b hb).1
      omega
    have hBe : Hid (WK.heap.size < Be) := by show _ < _; omega
    have hBl : Hid (WK.heap.size < Bl) := by show _ < _; omega
    have hqs0 : Hid (∀ q ∈ A.map (·.2), q.length ≤ 512) := fun q hq => by
      obtain ⟨x, hx, rfl⟩ := List.mem_map.1 hq
      exact (HAs.out x hx).1
    have hlen0 : Hid (asv.length = (0 + 1) * i) := by show _ = _; rw [HAV.out]; omega
    have hMK : Hid (w.heap.size ≤ WK.heap.size) := QK.out.size
    have HSEQ : Hid (∀ W', Pr.Base3 W' ep ls Be Bl cv → Rf.SeqV Tryd.prog 66 #[.pointer (some ⟨Bl, 0, none⟩), .pointer (some ⟨Be, 0, none⟩)] (fun x v => #[nu (x.1 : Int), v]) Pr.EncR (fun b => b = Be ∨ b = Bl ∨ cv.ownBlock = some b) A W') := fun W' hb => by
      have := Pr.all_seq ep Be Bl cv ls W' hep hb (by rw [HN.out]; omega) (fun t ht => by have := HT.out t ht; omega)
      rw [HREC.out] at this
      exact this
    clear hM hP CA hbx hbe hbl
    go_wp2_with fail
    refine wp_loop (fun a wr => ∃ (k : Nat) (Ds : List Nat) (v : Value) (us : List Value) (qs : List (List UInt8)) (u16 u17 u18 u19 u66 u67 u68 u69 u70 u71 u72 u73 u74 u75 u76 u77 u78 u79 u80 u81 u82 u83 u84 u85 u86 u87 u88 u89 u90 u91 u92 u93 u94 u95 u96 u97 u98 u99 u100 u101 u102 u103 : Value), k ≤ 2 ∧ u16 = nu (k : Int) ∧ Hid (St wr WK w.heap.size WK.heap.size ep ls Be Bl cv Ds v us qs) ∧ Hid (us.length = (k + 1) * i) ∧ Hid (∀ q ∈ qs, q.length ≤ 512) ∧ a = { tmps := #[.int .u32 (ep : Int), .slice la n lc, nu most, undef, undef, undef, .pointer (some ⟨w.heap.size, 0, none⟩), .slice (some ⟨gx, 0, none⟩) n cx, .slice aa i ac, nu (K : Int), .pointer (some ⟨W4.heap.size, 0, none⟩), .pointer (some ⟨W4.heap.size + 1, 0, none⟩), nu (K : Int), .pointer (some ⟨WK.heap.size, 0, none⟩), nu (i : Int), .func (.func 66) #[] #[.pointer (some ⟨Bl, 0, none⟩), .pointer (some ⟨Be, 0, none⟩)], u16, u17, u18, u19, undef, undef, undef, undef, .slice la n lc, .slice (some ⟨gx, 0, none⟩) n cx, .tuple #[.slice aa i ac, nu (K : Int)], .int .u32 (ep : Int), .slice (some ⟨gx, 0, none⟩) n cx, .tuple #[.slice aa i ac, nu (K : Int)], .slice aa i ac, nu (K : Int), .tuple #[.slice oa nv oc, .slice pa npl pc, nu (K : Int)], .int .u32 (ep : Int), .slice la n lc, .tuple #[.slice oa nv oc, .slice pa npl pc, nu (K : Int)], .slice oa nv oc, .slice pa npl pc, nu (K : Int), .slice aa i ac, .slice oa nv oc, .bool true, .bool false, .bool false, nu (K : Int), nu (K : Int), .bool false, .bool false, nu (i : Int), .slice aa i ac, .int .i64 (i : Int), .bool false, u52, u53, u54, u55, u56, u57, u58, u59, u60, .int .u32 (ep : Int), .slice (some ⟨gx, 0, none⟩) n cx, .func (.func 66) #[] #[.pointer (some ⟨Bl, 0, none⟩), .pointer (some ⟨Be, 0, none⟩)], .func (.func 66) #[] #[.pointer (some ⟨Bl, 0, none⟩), .pointer (some ⟨Be, 0, none⟩)], .bool false, u66, u67, u68, u69, u70, u71, u72, u73, u74, u75, u76, u77, u78, u79, u80, u81, u82, u83, u84, u85, u86, u87, u88, u89, u90, u91, u92, u93, u94, u95, u96, u97, u98, u99, u100, u101, u102, u103, undef, undef, undef, undef, undef, undef, undef, undef, undef, undef, undef, undef, undef, undef, undef, undef, undef, undef, undef, undef, undef, undef, undef, undef, undef, undef, undef, undef, undef, undef, undef, undef, undef, undef, undef, undef, undef, undef, undef, undef, undef, undef, undef, undef, undef, undef], defers := Rf.marks Ds })
      (fun a _ => 2 - (intOf (a.tmps.getD 16 undef)).toNat) ⟨0, [], v, asv, _, _, _, _, _, _, _, _, _, _, _, _, _, _, _, _, _, _, _, _, _, _, _, _, _, _, _, _, _, _, _, _, _, _, _, _, _, _, _, _, _, _, _, by omega, rfl, ST0, hlen0, hqs0, rfl⟩ ?_
    clear ST0 hlen0
    rintro a wr ⟨k, Ds, v, us, qs, u16, u17, u18, u19, u66, u67, u68, u69, u70, u71, u72, u73, u74, u75, u76, u77, u78, u79, u80, u81, u82, u83, u84, u85, u86, u87, u88, u89, u90, u91, u92, u93, u94, u95, u96, u97, u98, u99, u100, u101, u102, u103, hk, rfl, hSt, hlen, hqs, rfl⟩
    have hsr := hSt.out.bel.size
    have hBx := hSt.out.box.lt
    by_cases hp : k < 2
    · have hkd : decide ((k : Int) < 2) = true := by simp; omega
      go_wp2_with fail
      clear hkd
      have s8 : (wr.alloc (.cells #[.int .i64 0] 3)).heap.size = wr.heap.size + 1 := by simp
      have b17 : Boxed (wr.alloc (.cells #[.int .i64 0] 3)) wr.heap.size 3 (nu ((([] : List (Nat × List UInt8)).length : Nat) : Int)) := Boxed.new wr _ _
      have q8 : Below wr.heap.size wr (wr.alloc (.cells #[.int .i64 0] 3)) := (Below.refl _ wr).alloc (Nat.le_refl _) _
      obtain ⟨W8, hW8⟩ : ∃ x, wr.alloc (.cells #[.int .i64 0] 3) = x := ⟨_, rfl⟩
      rw [hW8] at s8 b17 q8 ⊢
      clear hW8
      have hS8 := hSt.out.below q8
      have hlt8 : Be < wr.heap.size ∧ Bl < wr.heap.size ∧ (∀ b, cv.ownBlock = some b → b < wr.heap.size) ∧ (∀ D ∈ Ds, D < wr.heap.size) := ⟨hSt.out.seq.e.lt, hSt.out.seq.l.lt, fun b hb => (hSt.out.cvr.lt b hb).2, fun D hD => hSt.out.op.lt D hD⟩
      obtain ⟨hlBe, hlBl, hlcv, hlD⟩ := hlt8
      have hou0 := hS8.outs (W8.heap.size + 2)
      refine Rf.wp_rangeV (L := A) (w0 := W8) rfl (enters_of Tryd.func66 (by kernel_rfl) rfl) (HSEQ.out W8 hS8.seq) (Below.refl _ _) (fun _ _ => rfl) (fun b hb => by
          rcases hb with rfl | rfl | hb
          · omega
          · omega
          · have := hlcv b hb
            omega) Pr.enc_put
        (fun pre W' => ∃ v us, St W' WK w.heap.size WK.heap.size ep ls Be Bl cv Ds v us (qs ++ pre.map (·.2)) ∧ Out W8.heap.size (W8.heap.size + 2) v ∧ (∀ y ∈ us, Out W8.heap.size (W8.heap.size + 2) y) ∧ Boxed W' wr.heap.size 3 (nu ((pre.length : Nat) : Int)))
        (fun _ _ _ => False) ?rest (fun _ _ _ _ _ hs _ _ => hs)
        ⟨v, us, by rw [List.map_nil, List.append_nil]; exact hS8, hou0.1, hou0.2, b17⟩ ?act ?assign ?body ?done (fun _ _ _ _ h _ => h.elim)
      case assign =>
        intro l' x v W2 K hK
        gi_wp2
        exact hK
      case rest =>
        rintro pre A' B row ⟨v, us, h1, h2, h3, h4⟩ hg hr
        exact ⟨v, us, h1.rest h2 h3 (by omega) (by omega) (by omega) (by omega) (fun b hb => by have := hlcv b hb; omega) (fun D hD => by have := hlD D hD; omega) hg hr, h2, h3, h4.kept hg (fun e => by have := (hr _ e.symm).1; omega)⟩
      case body =>
        rintro l' pre x uv W0 W hpre hsz ⟨v, us, hSt0, hov, hou, hI⟩ hb hE
        obtain ⟨at_, p⟩ := x
        have hat := pre_at hpre
        have hpl := hpre.length_le
        have hlA : pre.length < i := by have := HNA.out; simp at hpl; omega
        have hltv : pre.length < nv := by have := HNV.out; have := HNA.out; omega
        have hltp : pre.length < npl := by have := HNP.out; have := HNA.out; omega
        have hStW := hSt0.below hb
        have hp2 : (A.map (·.2))[pre.length]? = some p := by rw [List.getElem?_map, hat]; rfl
        obtain ⟨go, oo, wa, wc, rfl, hgo, hcw, hrw, _, hoc⟩ := rdl_at HOK.out pre.length p hp2
        obtain ⟨gp, cpp, hpe, hpc, _⟩ := own_posB HPK.out (by omega)
        obtain ⟨rfl, rfl⟩ : pa = some ⟨gp, 0, none⟩ ∧ pc = cpp := by simpa using hpe
        have hcp : W.cell? ⟨gp, pre.length, none⟩ = some (nu (at_ : Int)) := by
          have h1 := HPK.out.cells (g := gp) rfl pre.length (nu (at_ : Int)) (by rw [List.getElem?_map, List.getElem?_map, hat]; rfl)
          rw [Addr.add_lit, Nat.zero_add] at h1
          exact (hStW.bel.cell (p := ⟨gp, pre.length, none⟩) (HPK.out.lt gp rfl).2).trans h1
        have hcw' : W.cell? ⟨go, oo + pre.length, none⟩ = some (.slice wa p.length wc) := (hStW.bel.cell (p := ⟨go, oo + pre.length, none⟩) hgo).trans hcw
        have hI' : Boxed W wr.heap.size 3 (nu ((pre.length : Nat) : Int)) := (hb.block _ hI.lt).trans hI
        have hc17 := hI'.cell
        have hc10 := (show Boxed W W4.heap.size 50 _ from (hStW.bel.block _ HB10.out.lt).trans HB10.out).cell
        have hc11 := (show Boxed W (W4.heap.size + 1) 59 _ from (hStW.bel.block _ HB11.out.lt).trans HB11.out).cell
        obtain ⟨ua, uc, rfl, _⟩ := Nm.own_shape (show W.ownsRow _ _ _ _ _ _ from hE)
        have CS := Hid.mk' (sameB_eq (.slice ua p.length uc) (.slice wa p.length wc) p W (own_rd hE) (hrw.below hStW.bel))
        have hd1 : decide ((nv : Int) ≤ ((pre.length : Nat) : Int)) = false := by simp; omega
        have hd2 : ((at_ : Int) != (at_ : Int)) = false := by simp
        have j0 : (0 : Int) ≤ ((pre.length : Nat) : Int) := by omega
        have j1 : ((pre.length : Nat) : Int) < (nv : Int) := by omega
        have j2 : ((pre.length : Nat) : Int) < (npl : Int) := by omega
        have j3 : (nv : Int) ≤ (oc : Int) := by omega
        have j4 : (npl : Int) ≤ (pc : Int) := by omega
        have hlu : us.length ≤ 4 * 1048576 := by
          have h1 := hSt0.pays.len
          rw [List.length_append, List.length_map] at h1
          have h2 := hSt.out.pays.len
          have h3 := hlen.out
          have h4 := Nat.mul_le_mul_right i (show k + 1 ≤ 2 by omega)
          omega
        obtain ⟨j, hj⟩ : ∃ j, pre.length = j := ⟨_, rfl⟩
        have HJ := Hid.mk' hj
        obtain ⟨np, hnp⟩ : ∃ x, p.length = x := ⟨_, rfl⟩
        have HNp := Hid.mk' hnp
        have HE := Hid.mk' (show W.ownsRow W0.heap.size 5 1 (.slice ua p.length uc) p.length (p.map by1) from hE)
        simp only [hj, hnp] at hcp hcw' hc17 CS hd1 j0 j1 j2 hI' HE hlA ⊢
        have HS0 := Hid.mk' hSt0
        have HBW := Hid.mk' hb
        have HI' := Hid.mk' hI'
        have HOV := Hid.mk' hov
        have HOU := Hid.mk' hou
        obtain ⟨va, vc, rfl, _⟩ := Nm.own_shape hSt0.row
        clear hat hpl hStW hp2 hcw hrw hpe hpc hI hE hSt0 hb hI' hov hou hnp hpre hj
        gi_wp2_with fail
        refine ⟨trivial, CallsIn.inRound l' (callsIn_wide.2 CS.out) |>.mono ?_⟩
        rintro e W9 ⟨rfl, hb9⟩
        have HB09 := Hid.mk' (HBW.out.trans (hb9.mono HBW.out.size))
        have h9 := HS0.out.below HB09.out
        have hc13 := h9.box.cell
        have HR9 := Hid.mk' h9.row
        have hI9 : Boxed W9 wr.heap.size 3 (nu (j : Int)) := (hb9.block _ HI'.out.lt).trans HI'.out
        have HI9 := Hid.mk' hI9
        have HE9 := Hid.mk' (own_keptB HE.out hb9)
        have HLV : Hid (Rf.Leaves (fun b => b = Be ∨ b = Bl ∨ cv.ownBlock = some b) W8.heap.size (W8.heap.size + 2) W W9) := Rf.Leaves.grown (Rf.below_grown hb9) (fun r e => by cases e)
        have hmx : Hid (us.length + 1 ≤ maxLen) := by show _ ≤ _; unfold maxLen; omega
        have hby : Hid ((us.length + 1) * 24 ≤ 140737488355328) := by show _ ≤ _; omega
        have hbs : Hid (WK.heap.size ≤ (W9.alloc (.cells #[.slice ua np uc] 23)).heap.size) := by
          have := h9.bel.size
          show _ ≤ _
          simp
          omega
        have HRND := fun g' c' w1 ho hg hp' => St.round (X := (fun b => b = Be ∨ b = Bl ∨ cv.ownBlock = some b)) (lo := W8.heap.size) (hi := W8.heap.size + 2) (w1 := w1) (tmp := .cells #[.slice ua np uc] 23) (v' := .slice (some ⟨g', 0, none⟩) (us.length + 1) c') HS0.out HB09.out (show W9.ownsRow W0.heap.size 5 1 (.slice ua np uc) p.length (p.map by1) by rw [HNp.out]; exact HE9.out) HOV.out HOU.out (by omega) hsz hMK.out (Nat.le_refl _) (by have := hBe.out; omega) (by have := hBl.out; omega) (by omega) HI9.out (by omega) (by omega) (by omega) (by omega) (by omega) (by
            intro b q
            rcases q with rfl | rfl | q
            · omega
            · omega
            · have := hlcv b q
              omega) (by
            intro q
            have e1 := hBe.out
            have e2 := hBl.out
            rcases q with q | q | q
            · omega
            · omega
            · have := hcvb.out _ q
              omega) (by
            intro q
            rcases q with q | q | q
            · omega
            · omega
            · have := hlcv _ q
              omega) HS0.out.xv (nu ((j : Int) + 1)) ho hg hp'
        have HRN := Hid.mk' HRND
        clear h9 hI9 hb9 CS hc10 hc11 hcp hcw' hc17 hd1 hd2 HE HRND
        have hc17' := HI9.out.cell
        gi_wp2_with (gi_at_builtin; refine wpListIn_append_at rfl _ _ rfl WK.heap.size i1 ji1 kz0 kz1 kz2 _ (.slice ua np uc) us.length us rfl (HR9.out.alloc _) W9.heap.size rfl (cell_one_new _ _ _) rfl hmx.out hby.out hbs.out ?_; intro v' w1 ho hg hp'; obtain ⟨g', c', rfl⟩ := ownsRow_succ ho; obtain ⟨r1, r2, r3, r4, r5, r6, r7⟩ := HRN.out g' c' w1 ho hg hp'; have hc1 := r1.cell; have hf1 := r1.frozen; have hc2 := r2.cell; have hf2 := r2.frozen; have R3 := Hid.mk' r3; have R4 := Hid.mk' r4; have R5 := Hid.mk' r5; have R6 := Hid.mk' r6; have R7 := Hid.mk' r7; clear r1 r2 r3 r4 r5 r6 r7 ho hg hp')
        refine ⟨HLV.out.trans R4.out, _, _, ?_, R5.out, R6.out, ?_⟩
        · rw [List.map_append, ← List.append_assoc]
          exact R3.out
        · rw [List.length_append, HJ.out]
          exact R7.out
      case done =>
        rintro W2 ⟨v, us, hS2, hov, hou, hI⟩ hK
        have hc17 := hI.cell
        rw [← HNV.out] at hc17
        have hc10 := (show Boxed W2 W4.heap.size 50 _ from (hS2.bel.block _ HB10.out.lt).trans HB10.out).cell
        have hO2 : Rf.Open WK.heap.size (W8.heap.size :: Ds) W2 := hS2.op.cons (by omega) hK (fun h => by have := hlD _ h; omega)
        have HS3 : Hid (St W2 WK w.heap.size WK.heap.size ep ls Be Bl cv (W8.heap.size :: Ds) v us (qs ++ A.map (·.2))) := ⟨hS2.bel, hS2.box, hS2.row, hS2.pays, hS2.seq, hS2.cvr, hO2⟩
        have hlen3 : Hid (us.length = (k + 1 + 1) * i) := by
          have h1 := hS2.pays.len
          rw [List.length_append, List.length_map] at h1
          have h2 := hSt.out.pays.len
          have h3 := hlen.out
          have h4 := HNA.out
          have h5 : (k + 1 + 1) * i = (k + 1) * i + i := by rw [Nat.add_mul (k + 1) 1 i, Nat.one_mul]
          show _ = _
          omega
        have hq3 : Hid (∀ q ∈ qs ++ A.map (·.2), q.length ≤ 512) := fun q hq => by
          rcases List.mem_append.1 hq with hq | hq
          · exact hqs.out q hq
          · exact hqs0.out q hq
        have hd : ((nv : Int) != (nv : Int)) = false := by simp
        clear hS2 hov hou hI hK hO2 hou0 hS8 b17 q8
        go_wp2
        refine ⟨⟨k + 1, W8.heap.size :: Ds, v, us, _, _, _, _, _, _, _, _, _, _, _, _, _, _, _, _, _, _, _, _, _, _, _, _, _, _, _, _, _, _, _, _, _, _, _, _, _, _, _, _, _, _, _, by omega, by go_num, HS3, hlen3, hq3, rfl⟩, ?_⟩
        simp [intOf]
        omega
    · obtain rfl : k = 2 := by omega
      have hkd : decide (((2 : Nat) : Int) < 2) = false := by decide
      obtain ⟨lf, hlf⟩ : ∃ n : Nat, most % 4 = n := ⟨(most % 4).toNat, by omega⟩
      have hlf4 : lf < 4 := by omega
      have CP : Hid (∀ wx, Calls Tryd.prog 49 #[nu most, nu 4] wx fun e w' => e = .returned (nu (lf : Int)) ∧ w' = wx) := fun wx => by
        have := pick_any most 4 wx (by omega) (by omega) hmost
        rw [show most % ((4 : Nat) : Int) = (lf : Int) from hlf] at this
        exact this
      clear hlf
      go_wp2_with fail
      refine (CP.out _).mono ?_
      rintro e w' ⟨rfl, hw'⟩
      subst w'
      go_wp2_with fail
      clear hkd
      have s10 : ((wr.alloc (.cells #[nu (lf : Int)] 3)).alloc (.cells #[.int .i64 0] 3)).heap.size = wr.heap.size + 2 := by simp
      have b20 : Boxed ((wr.alloc (.cells #[nu (lf : Int)] 3)).alloc (.cells #[.int .i64 0] 3)) wr.heap.size 3 (nu (lf : Int)) := (Boxed.new wr _ _).alloc _
      have b21 : Boxed ((wr.alloc (.cells #[nu (lf : Int)] 3)).alloc (.cells #[.int .i64 0] 3)) (wr.heap.size + 1) 3 (nu ((([] : List (Nat × List UInt8)).length : Nat) : Int)) := by
        have := Boxed.new (wr.alloc (.cells #[nu (lf : Int)] 3)) 3 (.int .i64 0)
        simpa using this
      have q10 : Below wr.heap.size wr ((wr.alloc (.cells #[nu (lf : Int)] 3)).alloc (.cells #[.int .i64 0] 3)) := ((Below.refl _ wr).alloc (Nat.le_refl _) _).alloc (by simp) _
      obtain ⟨W10, hW10⟩ : ∃ x, (wr.alloc (.cells #[nu (lf : Int)] 3)).alloc (.cells #[.int .i64 0] 3) = x := ⟨_, rfl⟩
      rw [hW10] at s10 b20 b21 q10 ⊢
      clear hW10
      have hS10 := hSt.out.below q10
      have hlt8 : Be < wr.heap.size ∧ Bl < wr.heap.size ∧ (∀ b, cv.ownBlock = some b → b < wr.heap.size) ∧ (∀ D ∈ Ds, D < wr.heap.size) := ⟨hSt.out.seq.e.lt, hSt.out.seq.l.lt, fun b hb => (hSt.out.cvr.lt b hb).2, fun D hD => hSt.out.op.lt D hD⟩
      obtain ⟨hlBe, hlBl, hlcv, hlD⟩ := hlt8
      have hou0 := hS10.outs (W10.heap.size + 2)
      have hwK : Hid (w.heap.size < WK.heap.size) := HB6K.out.lt
      refine Rf.wp_rangeV (L := A) (w0 := W10) rfl (enters_of Tryd.func66 (by kernel_rfl) rfl) (HSEQ.out W10 hS10.seq) (Below.refl _ _) (fun _ _ => rfl) (fun b hb => by
          rcases hb with rfl | rfl | hb
          · omega
          · omega
          · have := hlcv b hb
            omega) Pr.enc_put
        (fun pre W' => St W' WK w.heap.size WK.heap.size ep ls Be Bl cv Ds v us qs ∧ Out W10.heap.size (W10.heap.size + 2) v ∧ (∀ y ∈ us, Out W10.heap.size (W10.heap.size + 2) y) ∧ Boxed W' wr.heap.size 3 (nu (lf : Int)) ∧ Boxed W' (wr.heap.size + 1) 3 (nu ((pre.length : Nat) : Int)) ∧ pre.length ≤ lf)
        (fun c pre W' => c = .exit 6 ∧ St W' WK w.heap.size WK.heap.size ep ls Be Bl cv Ds v us qs ∧ Out W10.heap.size (W10.heap.size + 2) v ∧ (∀ y ∈ us, Out W10.heap.size (W10.heap.size + 2) y) ∧ Boxed W' wr.heap.size 3 (nu (lf : Int)) ∧ Boxed W' (wr.heap.size + 1) 3 (nu (lf : Int)) ∧ lf < pre.length) ?rest3 ?restx3
        ⟨hS10, hou0.1, hou0.2, b20, b21, Nat.zero_le _⟩ ?act3 ?assign3 ?body3 ?done3 ?stop3
      case assign3 =>
        intro l' x v W2 K hK
        gi_wp2
        exact hK
      case rest3 =>
        rintro pre A' B row ⟨h1, h2, h3, h4, h5, h6⟩ hg hr
        exact ⟨h1.rest h2 h3 (by omega) (by omega) (by omega) (by omega) (fun b hb => by have := hlcv b hb; omega) (fun D hD => by have := hlD D hD; omega) hg hr, h2, h3, h4.kept hg (fun e => by have := (hr _ e.symm).1; omega), h5.kept hg (fun e => by have := (hr _ e.symm).1; omega), h6⟩
      case restx3 =>
        rintro c pre A' B row ⟨h0, h1, h2, h3, h4, h5, h6⟩ hg hr
        exact ⟨h0, h1.rest h2 h3 (by omega) (by omega) (by omega) (by omega) (fun b hb => by have := hlcv b hb; omega) (fun D hD => by have := hlD D hD; omega) hg hr, h2, h3, h4.kept hg (fun e => by have := (hr _ e.symm).1; omega), h5.kept hg (fun e => by have := (hr _ e.symm).1; omega), h6⟩
      case body3 =>
        rintro l' pre x uv W0 W hpre hsz ⟨hSt0, hov, hou, hI20, hI21, hple⟩ hb hE
        obtain ⟨at_, p⟩ := x
        have hat := pre_at hpre
        have hpl := hpre.length_le
        have hlA : pre.length < i := by have := HNA.out; simp at hpl; omega
        have hltv : pre.length < nv := by have := HNV.out; have := HNA.out; omega
        have hltp : pre.length < npl := by have := HNP.out; have := HNA.out; omega
        have hStW := hSt0.below hb
        have hI20' : Boxed W wr.heap.size 3 (nu (lf : Int)) := (hb.block _ hI20.lt).trans hI20
        have hI21' : Boxed W (wr.heap.size + 1) 3 (nu ((pre.length : Nat) : Int)) := (hb.block _ hI21.lt).trans hI21
        have hc20 := hI20'.cell
        have hc21 := hI21'.cell
        obtain ⟨j, hj⟩ : ∃ j, pre.length = j := ⟨_, rfl⟩
        have HJ := Hid.mk' hj
        by_cases hq : pre.length = lf
        · have hd : ((j : Int) == (lf : Int)) = true := by rw [beq_iff_eq]; omega
          rw [hj] at hc21 hI21' hq
          have HQ := Hid.mk' hq
          have HSW := Hid.mk' hStW
          have HOV := Hid.mk' hov
          have HOU := Hid.mk' hou
          have HI20 := Hid.mk' hI20'
          have HI21 := Hid.mk' hI21'
          clear hStW hov hou hI20 hI20' hI21 hI21' hSt0 hb hE hq hat hpl hlA hltv hltp hpre hj hple
          gi_wp2
          refine ⟨Rf.Leaves.refl _ _ _ _, rfl, HSW.out, HOV.out, HOU.out, HI20.out, ?_, ?_⟩
          · rw [← HQ.out]
            exact HI21.out
          · rw [List.length_append, HJ.out, HQ.out]
            simp
        · have hd : ((j : Int) == (lf : Int)) = false := by rw [beq_eq_false_iff_ne]; omega
          have hlt2 : j < lf := by omega
          have hp2 : (A.map (·.2))[pre.length]? = some p := by rw [List.getElem?_map, hat]; rfl
          obtain ⟨go, oo, wa, wc, rfl, hgo, hcw, hrw, _, hoc⟩ := rdl_at HOK.out pre.length p hp2
          obtain ⟨gp, cpp, hpe, hpc, _⟩ := own_posB HPK.out (by omega)
          obtain ⟨rfl, rfl⟩ : pa = some ⟨gp, 0, none⟩ ∧ pc = cpp := by simpa using hpe
          have hcp : W.cell? ⟨gp, pre.length, none⟩ = some (nu (at_ : Int)) := by
            have h1 := HPK.out.cells (g := gp) rfl pre.length (nu (at_ : Int)) (by rw [List.getElem?_map, List.getElem?_map, hat]; rfl)
            rw [Addr.add_lit, Nat.zero_add] at h1
            exact (hStW.bel.cell (p := ⟨gp, pre.length, none⟩) (HPK.out.lt gp rfl).2).trans h1
          have hcw' : W.cell? ⟨go, oo + pre.length, none⟩ = some (.slice wa p.length wc) := (hStW.bel.cell (p := ⟨go, oo + pre.length, none⟩) hgo).trans hcw
          have hc10 := (show Boxed W W4.heap.size 50 _ from (hStW.bel.block _ HB10.out.lt).trans HB10.out).cell
          have hc11 := (show Boxed W (W4.heap.size + 1) 59 _ from (hStW.bel.block _ HB11.out.lt).trans HB11.out).cell
          obtain ⟨ua, uc, rfl, _⟩ := Nm.own_shape (show W.ownsRow _ _ _ _ _ _ from hE)
          have CS := Hid.mk' (sameB_eq (.slice ua p.length uc) (.slice wa p.length wc) p W (own_rd hE) (hrw.below hStW.bel))
          have hd1 : decide ((nv : Int) ≤ ((pre.length : Nat) : Int)) = false := by simp; omega
          have hd2 : ((at_ : Int) != (at_ : Int)) = false := by simp
          have j0 : (0 : Int) ≤ ((pre.length : Nat) : Int) := by omega
          have j1 : ((pre.length : Nat) : Int) < (nv : Int) := by omega
          have j2 : ((pre.length : Nat) : Int) < (npl : Int) := by omega
          have j3 : (nv : Int) ≤ (oc : Int) := by omega
          have j4 : (npl : Int) ≤ (pc : Int) := by omega
          have j5 : j ≤ 1048576 := by omega
          obtain ⟨np, hnp⟩ : ∃ x, p.length = x := ⟨_, rfl⟩
          simp only [hj, hnp] at hcp hcw' hc21 CS hd1 j0 j1 j2 hI21' ⊢
          have HSW := Hid.mk' hStW
          have HOV := Hid.mk' hov
          have HOU := Hid.mk' hou
          have HI20 := Hid.mk' hI20'
          have HI21 := Hid.mk' hI21'
          clear hat hpl hStW hp2 hcw hrw hpe hpc hI20 hI20' hI21 hI21' hE hSt0 hb hov hou hnp hpre hj hple hq
          gi_wp2_with fail
          refine ⟨trivial, CallsIn.inRound l' (callsIn_wide.2 CS.out) |>.mono ?_⟩
          rintro e W9 ⟨rfl, hb9⟩
          have h9 := HSW.out.below hb9
          have hI9 : Boxed W9 (wr.heap.size + 1) 3 (nu (j : Int)) := (hb9.block _ HI21.out.lt).trans HI21.out
          have hc9 := hI9.cell
          have hf9 := hI9.frozen
          have HS9 := Hid.mk' (h9.set hI9 (nu ((j : Int) + 1)) (by omega) (by omega) (by omega) (by omega) (by decide) (by decide) (by decide))
          have HI9 := Hid.mk' (hI9.set (nu ((j : Int) + 1)))
          have HI209 : Hid (Boxed (W9.setCell ⟨wr.heap.size + 1, 0, none⟩ (nu ((j : Int) + 1))) wr.heap.size 3 (nu (lf : Int))) := Boxed.other (show Boxed W9 wr.heap.size 3 (nu (lf : Int)) from (hb9.block _ HI20.out.lt).trans HI20.out) (by omega) _
          have HLV : Hid (Rf.Leaves (fun b => b = Be ∨ b = Bl ∨ cv.ownBlock = some b) W10.heap.size (W10.heap.size + 2) W (W9.setCell ⟨wr.heap.size + 1, 0, none⟩ (nu ((j : Int) + 1)))) := (Rf.Leaves.grown (Rf.below_grown hb9) (fun r e => by cases e)).trans (Rf.Leaves.grown (grownBy_setCell' _ _ _) (fun r e => by
            cases e
            refine ⟨fun q => ?_, .inl (by omega)⟩
            rcases q with q | q | q
            · omega
            · omega
            · have := hlcv _ q
              omega))
          clear h9 hI9 hb9 CS hc10 hc11 hcp hcw' hc20 hc21 hd hd1 hd2
          gi_wp2
          refine ⟨HLV.out, HS9.out, HOV.out, HOU.out, HI209.out, ?_, ?_⟩
          · rw [List.length_append, HJ.out]
            exact HI9.out
          · rw [List.length_append, HJ.out]
            simp
            omega
      case done3 =>
        rintro W11 ⟨hS2, hov, hou, hI20, hI21, hle⟩ hK
        have hmin : ∀ wx, (Builtin.min_ #[3, 3] 3 #[.int .i64 (lf : Int), .int .i64 (nv : Int)]).run Tryd.prog wx = .ok (.int .i64 (nv : Int)) wx := fun wx => by
          rw [min_two]
          congr 2
          have := HNV.out
          split <;> omega
        have hc20 := hI20.cell
        have hc21 := hI21.cell
        rw [← HNV.out] at hc21
        have hc10 := (show Boxed W11 W4.heap.size 50 _ from (hS2.bel.block _ HB10.out.lt).trans HB10.out).cell
        have hO2 : Rf.Open WK.heap.size (W10.heap.size :: Ds) W11 := hS2.op.cons (by omega) hK (fun h => by have := hlD _ h; omega)
        have HS3 : Hid (St W11 WK w.heap.size WK.heap.size ep ls Be Bl cv (W10.heap.size :: Ds) v us qs) := ⟨hS2.bel, hS2.box, hS2.row, hS2.pays, hS2.seq, hS2.cvr, hO2⟩
        have hd : ((nv : Int) == (nv : Int)) = true := by simp
        clear hS2 hI20 hI21 hO2 hS10 hou0 b20 b21 q10
        have hcB := HS3.out.box.cell
        have CAp := Hid.mk' (HS3.out.apart hMK.out (by have := hlen.out; omega) hqs.out)
        obtain ⟨va, vc, rfl, _⟩ := Nm.own_shape HS3.out.row
        clear hov hou hK
        go_wp2_with fail
        refine CAp.out.mono ?_
        rintro e W12 ⟨rfl, hkp⟩
        have hbM := HS3.out.kbel hkp hMK.out
        have hbK : Below w.heap.size w W11 := QK.out.trans (HS3.out.bel.mono hMK.out)
        have hbw : Below w.heap.size w W12 := hbK.trans hbM
        have hs12 : WK.heap.size ≤ W12.heap.size := Nat.le_trans HS3.out.bel.size hkp.size
        have hx12 := HS3.out.kown hkp (own_keptB HXK.out HS3.out.bel) (by decide)
        have CK : Hid (Calls Tryd.prog 55 #[.slice (some ⟨gx, 0, none⟩) n cx, .slice la n lc] W12 fun e w' => e = .returned (.bool true) ∧ Below W12.heap.size W12 w') := by
          have := Lb.kept_any (.slice la n lc) ls gx cx _ W12 (HR.out.below hbw) (by rw [HN.out]; omega) hxc.out.1 hxc.out.2 hx12 (hx12.lt gx rfl).2
          rw [HN.out] at this
          exact this
        have b612 : Boxed W12 w.heap.size 4 (.bool false) := HS3.out.kbox hkp ((HS3.out.bel.block _ HB6K.out.lt).trans HB6K.out) (by decide)
        have HB612 := Hid.mk' b612
        have HO12 := Hid.mk' (HS3.out.kopen hkp)
        have HBW12 := Hid.mk' hbw
        have HS12 := Hid.mk' hs12
        clear CAp hkp hbM hbK hbw hs12 hx12 b612 hcB hc10 hc20 hc21
        go_wp2_with fail
        refine CK.out.mono ?_
        rintro e W13 ⟨rfl, hb13⟩
        have b13 : Boxed W13 w.heap.size 4 (.bool false) := (hb13.block _ HB612.out.lt).trans HB612.out
        have hc6 := b13.cell
        have hf6 := b13.frozen
        have HB13 := Hid.mk' (b13.set (.bool true))
        have HO13 : Hid (Rf.Open WK.heap.size (W10.heap.size :: Ds) (W13.setCell ⟨w.heap.size, 0, none⟩ (.bool true))) := by
          have h1 := HO12.out.below hb13 (Nat.le_refl _)
          refine h1.kept (fun D hD => Below.heap_setCell _ _ _ D (fun e => ?_))
          have h2 := (h1.2 D hD).1
          have h3 := hwK.out
          have e' : D = w.heap.size := e
          omega
        have HBW13 : Hid (Below w.heap.size w (W13.setCell ⟨w.heap.size, 0, none⟩ (.bool true))) := (HBW12.out.trans (hb13.mono HBW12.out.size)).setCell (p := ⟨w.heap.size, 0, none⟩) (Nat.le_refl _) _
        have HS13 : Hid (WK.heap.size ≤ (W13.setCell ⟨w.heap.size, 0, none⟩ (.bool true)).heap.size) := by
          have := HS12.out
          have := hb13.size
          show _ ≤ _
          simp [World.setCell]
          omega
        clear hb13 b13 CK
        go_wp2
        rw [s10] at HO13
        refine Rf.leaves_marks (B := WK.heap.size) (Ds := (wr.heap.size + 2) :: Ds) HO13.out HS13.out (fun W' hW' => ?_)
        have hb14 : Boxed W' w.heap.size 4 (.bool true) := (hW'.block _ hwK.out).trans HB13.out
        have hc14 := hb14.cell
        have hres : Tryd.f27.results = #[.cell 6 4] := rfl
        refine ⟨.bool true, ?_, rfl, HBW13.out.trans (hW'.mono hMK.out)⟩
        simp [results, hres, go_sem, hc14]
      case stop3 =>
        rintro c pre W11 hpre ⟨rfl, hS2, hov, hou, hI20, hI21, hle⟩ hK
        have hmin : ∀ wx, (Builtin.min_ #[3, 3] 3 #[.int .i64 (lf : Int), .int .i64 (nv : Int)]).run Tryd.prog wx = .ok (.int .i64 (lf : Int)) wx := fun wx => by
          rw [min_two]
          congr 2
          have := HNV.out
          have := hpre.length_le
          split <;> omega
        have hc20 := hI20.cell
        have hc21 := hI21.cell
        have hc10 := (show Boxed W11 W4.heap.size 50 _ from (hS2.bel.block _ HB10.out.lt).trans HB10.out).cell
        have hO2 : Rf.Open WK.heap.size (W10.heap.size :: Ds) W11 := hS2.op.cons (by omega) hK (fun h => by have := hlD _ h; omega)
        have HS3 : Hid (St W11 WK w.heap.size WK.heap.size ep ls Be Bl cv (W10.heap.size :: Ds) v us qs) := ⟨hS2.bel, hS2.box, hS2.row, hS2.pays, hS2.seq, hS2.cvr, hO2⟩
        have hd : ((lf : Int) == (lf : Int)) = true := by simp
        clear hS2 hI20 hI21 hO2 hS10 hou0 b20 b21 q10 hpre
        have hcB := HS3.out.box.cell
        have CAp := Hid.mk' (HS3.out.apart hMK.out (by have := hlen.out; omega) hqs.out)
        obtain ⟨va, vc, rfl, _⟩ := Nm.own_shape HS3.out.row
        clear hov hou hK
        go_wp2_with fail
        refine CAp.out.mono ?_
        rintro e W12 ⟨rfl, hkp⟩
        have hbM := HS3.out.kbel hkp hMK.out
        have hbK : Below w.heap.size w W11 := QK.out.trans (HS3.out.bel.mono hMK.out)
        have hbw : Below w.heap.size w W12 := hbK.trans hbM
        have hs12 : WK.heap.size ≤ W12.heap.size := Nat.le_trans HS3.out.bel.size hkp.size
        have hx12 := HS3.out.kown hkp (own_keptB HXK.out HS3.out.bel) (by decide)
        have CK : Hid (Calls Tryd.prog 55 #[.slice (some ⟨gx, 0, none⟩) n cx, .slice la n lc] W12 fun e w' => e = .returned (.bool true) ∧ Below W12.heap.size W12 w') := by
          have := Lb.kept_any (.slice la n lc) ls gx cx _ W12 (HR.out.below hbw) (by rw [HN.out]; omega) hxc.out.1 hxc.out.2 hx12 (hx12.lt gx rfl).2
          rw [HN.out] at this
          exact this
        have b612 : Boxed W12 w.heap.size 4 (.bool false) := HS3.out.kbox hkp ((HS3.out.bel.block _ HB6K.out.lt).trans HB6K.out) (by decide)
        have HB612 := Hid.mk' b612
        have HO12 := Hid.mk' (HS3.out.kopen hkp)
        have HBW12 := Hid.mk' hbw
        have HS12 := Hid.mk' hs12
        clear CAp hkp hbM hbK hbw hs12 hx12 b612 hcB hc10 hc20 hc21
        go_wp2_with fail
        refine CK.out.mono ?_
        rintro e W13 ⟨rfl, hb13⟩
        have b13 : Boxed W13 w.heap.size 4 (.bool false) := (hb13.block _ HB612.out.lt).trans HB612.out
        have hc6 := b13.cell
        have hf6 := b13.frozen
        have HB13 := Hid.mk' (b13.set (.bool true))
        have HO13 : Hid (Rf.Open WK.heap.size (W10.heap.size :: Ds) (W13.setCell ⟨w.heap.size, 0, none⟩ (.bool true))) := by
          have h1 := HO12.out.below hb13 (Nat.le_refl _)
          refine h1.kept (fun D hD => Below.heap_setCell _ _ _ D (fun e => ?_))
          have h2 := (h1.2 D hD).1
          have h3 := hwK.out
          have e' : D = w.heap.size := e
          omega
        have HBW13 : Hid (Below w.heap.size w (W13.setCell ⟨w.heap.size, 0, none⟩ (.bool true))) := (HBW12.out.trans (hb13.mono HBW12.out.size)).setCell (p := ⟨w.heap.size, 0, none⟩) (Nat.le_refl _) _
        have HS13 : Hid (WK.heap.size ≤ (W13.setCell ⟨w.heap.size, 0, none⟩ (.bool true)).heap.size) := by
          have := HS12.out
          have := hb13.size
          show _ ≤ _
          simp [World.setCell]
          omega
        clear hb13 b13 CK
        go_wp2
        rw [s10] at HO13
        refine Rf.leaves_marks (B := WK.heap.size) (Ds := (wr.heap.size + 2) :: Ds) HO13.out HS13.out (fun W' hW' => ?_)
        have hb14 : Boxed W' w.heap.size 4 (.bool true) := (hW'.block _ hwK.out).trans HB13.out
        have hc14 := hb14.cell
        have hres : Tryd.f27.results = #[.cell 6 4] := rfl
        refine ⟨.bool true, ?_, rfl, HBW13.out.trans (hW'.mono hMK.out)⟩
        simp [results, hres, go_sem, hc14]
end Rc
end Go.Proofs.YtjnodkjeiogloaaDoor
