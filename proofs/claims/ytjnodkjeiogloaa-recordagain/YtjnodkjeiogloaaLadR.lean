/- The blocks of records, one behind the other, and their payloads. -/
import Derived.Test.YtjnodkjeiogloaaWrkR
namespace Go.Proofs.Ytjnodkjeiogloaa
set_option linter.ambiguousOpen false
open Go.RowKit
namespace Rc
open Sm Pk
set_option linter.unusedSimpArgs false
set_option linter.unusedVariables false

/-- The rows that lie in a list under way read as payloads. -/
def Reads (w : World) (vs : List Value) (ps : List (List UInt8)) : Prop := vs.length = ps.length ∧ ∀ (j : Nat) (v : Value) (p : List UInt8), vs[j]? = some v → ps[j]? = some p → RdB w v p ∧ Nz v

theorem Reads.below {w w' : World} {vs : List Value} {ps : List (List UInt8)} (h : Reads w vs ps) (hb : Below w.heap.size w w') : Reads w' vs ps :=
  ⟨h.1, fun j v p hj hp => ⟨(h.2 j v p hj hp).1.below hb, (h.2 j v p hj hp).2⟩⟩

theorem Reads.snoc {w : World} {vs : List Value} {ps : List (List UInt8)} (h : Reads w vs ps) {v : Value} {p : List UInt8} (hr : RdB w v p) (hz : Nz v) : Reads w (vs ++ [v]) (ps ++ [p]) := by
  refine ⟨by rw [List.length_append, List.length_append, h.1]; rfl, fun j u q hj hq => ?_⟩
  rcases Nat.lt_or_ge j vs.length with hl | hl
  · rw [List.getElem?_append_left hl] at hj
    rw [List.getElem?_append_left (by rw [← h.1]; exact hl)] at hq
    exact h.2 j u q hj hq
  · rw [List.getElem?_append_right hl] at hj
    rw [List.getElem?_append_right (by rw [← h.1]; exact hl), ← h.1] at hq
    obtain ⟨k, hk⟩ : ∃ k, j - vs.length = k := ⟨_, rfl⟩
    rw [hk] at hj hq
    cases k with
    | zero =>
      simp at hj hq
      subst hj hq
      exact ⟨hr, hz⟩
    | succ k => simp at hj

theorem reads_rdl {w : World} {base : Nat} {r : Value} {vs : List Value} {ps : List (List UInt8)} (h : w.ownsRow base 32 1 r vs.length vs) (hr : Reads w vs ps) : RdL w r ps := by
  have hl := hr.1
  rcases h.2 with ⟨rfl, h0⟩ | ⟨g, cap, cur, rfl, h1, h2, h3, h4, h5, h6⟩
  · have : ps = [] := List.eq_nil_of_length_eq_zero (by omega)
    subst this
    exact ⟨none, 0, rfl, Nat.le_refl _, by decide, fun h => by simp at h⟩
  · refine ⟨some ⟨g, 0, none⟩, cap, by rw [hl], by omega, h4, fun _ => ⟨g, 0, rfl, (Array.getElem?_eq_some_iff.1 h2).1, fun j p hj => ?_⟩⟩
    have hj' : j < vs.length := by
      have := (List.getElem?_eq_some_iff.1 hj).1
      omega
    have ho := hr.2 j vs[j] p (List.getElem?_eq_getElem hj') hj
    refine ⟨vs[j], ?_, ho.1, ho.2⟩
    rw [Nat.zero_add]
    have := h.cells (g := g) rfl j vs[j] (List.getElem?_eq_getElem hj')
    rw [Addr.add_lit, Nat.zero_add] at this
    exact this

theorem flat_take_len (ep : Nat) (ps : List (List UInt8)) (h : ∀ p ∈ ps, p.length ≤ 512) : (flat ep ps).length ≤ 3 * ps.length := by
  induction ps with
  | nil => simp [flat]
  | cons p ps ih =>
    have h1 := blocks_len ep p
    have h2 := h p (by simp)
    have h3 := ih (fun q hq => h q (by simp [hq]))
    simp only [flat, List.flatMap_cons, List.length_append, List.length_cons] at h3 ⊢
    omega

/-- The two rows that grow: the blocks, and the payloads (which lie in what was there). -/
structure Ld (w0 w : World) (ep : Nat) (ps : List (List UInt8)) (bv ov : Value) (vs : List Value) (m : Nat) : Prop where
  bl : w.ownsRow w0.heap.size 9 1 bv m ((flat ep ps).map Nm.txt)
  ml : (flat ep ps).length = m
  out : w.ownsRow w0.heap.size 32 1 ov vs.length vs
  rd : Reads w0 vs ps
  sep : Nm.Sep bv ov
  bel : Below w0.heap.size w0 w

theorem Ld.below {w0 w w' : World} {ep : Nat} {ps : List (List UInt8)} {bv ov : Value} {vs : List Value} {m : Nat} (h : Ld w0 w ep ps bv ov vs m) (hb : Below w.heap.size w w') : Ld w0 w' ep ps bv ov vs m :=
  ⟨own_keptB h.bl hb, h.ml, own_keptB h.out hb, h.rd, h.sep, h.bel.trans (hb.mono h.bel.size)⟩

/-- The blocks of one more. -/
structure Lh (w0 w : World) (ep : Nat) (ps : List (List UInt8)) (p : List UInt8) (bv ov : Value) (vs : List Value) (m : Nat) : Prop where
  bl : w.ownsRow w0.heap.size 9 1 bv m ((flat ep (ps ++ [p])).map Nm.txt)
  ml : (flat ep (ps ++ [p])).length = m
  out : w.ownsRow w0.heap.size 32 1 ov vs.length vs
  rd : Reads w0 vs ps
  sep : Nm.Sep bv ov
  bel : Below w0.heap.size w0 w

theorem flat_snoc (ep : Nat) (ps : List (List UInt8)) (p : List UInt8) : flat ep (ps ++ [p]) = flat ep ps ++ blocks ep p := by simp [flat]

theorem Ld.more {w0 w w' : World} {ep : Nat} {ps : List (List UInt8)} {p : List UInt8} {bv ov : Value} {vs : List Value} {m k g cap : Nat} (h : Ld w0 w ep ps bv ov vs m) (hk : (blocks ep p).length = k) (ho : w'.ownsRow w0.heap.size 9 1 (.slice (some ⟨g, 0, none⟩) (m + k) cap) (m + k) ((flat ep ps).map Nm.txt ++ (blocks ep p).map Nm.txt)) (hg : w.grownBy w' bv.ownBlock) (hl : bv.ownBlock = some g ∨ g = w.heap.size) : Lh w0 w' ep ps p (.slice (some ⟨g, 0, none⟩) (m + k) cap) ov vs (m + k) := by
  refine ⟨by rw [flat_snoc, List.map_append]; exact ho, by rw [flat_snoc, List.length_append, h.ml, hk], h.out.kept hg ?_, h.rd, ?_, Below.grown h.bel hg h.bel.size (fun j hj => (h.bl.lt j hj).1)⟩
  · cases hv : ov.ownBlock with
    | none => exact .inl rfl
    | some b => exact .inr (fun e => h.sep b e.symm hv)
  · intro b hb1 hb2
    have e : g = b := by simpa [Value.ownBlock] using hb1
    subst e
    rcases hl with hl | hl
    · exact h.sep g hl hb2
    · have := (h.out.lt g hb2).2
      omega

theorem Lh.alloc {w0 w : World} {ep : Nat} {ps : List (List UInt8)} {p : List UInt8} {bv ov : Value} {vs : List Value} {m : Nat} (h : Lh w0 w ep ps p bv ov vs m) (o : Obj) : Lh w0 (w.alloc o) ep ps p bv ov vs m :=
  ⟨h.bl.alloc o, h.ml, h.out.alloc o, h.rd, h.sep, h.bel.alloc h.bel.size o⟩

theorem Lh.more {w0 w w' : World} {ep : Nat} {ps : List (List UInt8)} {p : List UInt8} {bv ov u : Value} {vs : List Value} {m g cap : Nat} (h : Lh w0 w ep ps p bv ov vs m) (hr : RdB w0 u p) (hz : Nz u) (ho : w'.ownsRow w0.heap.size 32 1 (.slice (some ⟨g, 0, none⟩) (vs.length + 1) cap) (vs.length + 1) (vs ++ [u])) (hg : w.grownBy w' ov.ownBlock) (hl : ov.ownBlock = some g ∨ g = w.heap.size) : Ld w0 w' ep (ps ++ [p]) bv (.slice (some ⟨g, 0, none⟩) (vs.length + 1) cap) (vs ++ [u]) m := by
  refine ⟨h.bl.kept hg ?_, h.ml, by rw [List.length_append]; exact ho, h.rd.snoc hr hz, ?_, Below.grown h.bel hg h.bel.size (fun j hj => (h.out.lt j hj).1)⟩
  · cases hv : bv.ownBlock with
    | none => exact .inl rfl
    | some b => exact .inr (fun e => h.sep b hv e.symm)
  · intro b hb1 hb2
    have e : g = b := by simpa [Value.ownBlock] using hb2
    subst e
    rcases hl with hl | hl
    · exact h.sep g hb1 hl
    · have := (h.bl.lt g hb1).2
      omega

theorem cut_rd {w : World} {a : Option Addr} {cap n m : Nat} {p : List UInt8} (hn : p.length = n) (hR : RdB w (.slice a n cap) p) (hm : (p.take 512).length = m) : RdB w (.slice a m cap) (p.take 512) := by
  rw [← hn] at hR
  have hml : m ≤ p.length := by
    rw [← hm, List.length_take]
    omega
  have h2 := hR.take m hml
  have h3 : p.take m = p.take 512 := by
    rw [List.length_take] at hm
    rcases Nat.le_total 512 p.length with h | h
    · rw [← hm, Nat.min_eq_left h]
    · rw [← hm, Nat.min_eq_right h, List.take_of_length_le (Nat.le_refl _), List.take_of_length_le h]
  rw [h3] at h2
  exact h2

set_option maxRecDepth 100000 in
set_option maxHeartbeats 8000000 in
theorem laid_any (SF : FrameC) (ep : Nat) (lv : Value) (L : List (List UInt8)) (w : World) (hep : ep < 4294967296) (hR : RdL w lv L) (hN : L.length ≤ 1000000000000) :
    Calls Try.prog 16 #[.int .u32 (ep : Int), lv] w fun e w' => ∃ bv ov vs m, e = .returned (.tuple #[bv, ov, .bool true]) ∧ Ld w w' ep (L.map (·.take 512)) bv ov vs m := by
  obtain ⟨i0, ji, hz0, hz1, hz2⟩ := info_parts (show (Try.prog.info? 9).map (fun i => (i.zero, i.size, i.bytes)) = some (some (.string ⟨#[]⟩), 1, 16) by kernel_rfl)
  obtain ⟨i1, ji1, kz0, kz1, kz2⟩ := info_parts (show (Try.prog.info? 32).map (fun i => (i.zero, i.size, i.bytes)) = some (some (.slice none 0 0), 1, 24) by kernel_rfl)
  have HR := Hid.mk' hR
  obtain ⟨n, hn⟩ : ∃ n, L.length = n := ⟨_, rfl⟩
  have HN := Hid.mk' hn
  obtain ⟨al, cl, rfl, hc1, hc2, hx⟩ := hR
  have HX := Hid.mk' hx
  rw [hn] at HR hc1 hN HX ⊢
  unfold maxLen at hc2
  obtain ⟨PS, hPS⟩ : ∃ x, L.map (·.take 512) = x := ⟨_, rfl⟩
  rw [hPS]
  have HPS := Hid.mk' hPS
  clear hx hn hPS
  go_enter Try.func16, Try.ntmps16
  go_wp2
  go_loopw [7, 8, 9, 10, 11, 12] (fun bv ov iv _ _ _ wr => ∃ (i : Nat) (vs : List Value) (m : Nat), i ≤ n ∧ vs.length = i ∧ m ≤ 3 * i ∧ iv = nu (i : Int) ∧ Hid (Ld w wr ep (PS.take i) bv ov vs m)) (fun _ _ iv _ _ _ _ => n - (intOf iv).toNat)
  case atStart => exact ⟨0, [], 0, Nat.zero_le _, rfl, Nat.zero_le _, rfl, ⟨World.ownsRow_nil _ _ _ _, rfl, World.ownsRow_nil _ _ _ _, ⟨rfl, fun j v p hj => by simp at hj⟩, Nm.Sep.nil _, Below.refl _ _⟩⟩
  case round =>
  obtain ⟨i, vs, m, hi, hvl, hm3, rfl, hL⟩ := hrel
  by_cases hin : i < n
  · obtain ⟨p, hp⟩ : ∃ p, L[i]? = some p := ⟨L[i]'(by have := HN.out; omega), List.getElem?_eq_getElem _⟩
    obtain ⟨g, o, rfl, hg, hy⟩ := HX.out (by omega)
    obtain ⟨u, hc, hu, hzu⟩ := hy i p hp
    have hcw : wr.cell? ⟨g, o + i, none⟩ = some u := (hL.out.bel.cell (p := ⟨g, o + i, none⟩) hg).trans hc
    have HU := Hid.mk' hu
    have HZU := Hid.mk' hzu
    obtain ⟨np, hnp⟩ : ∃ x, p.length = x := ⟨_, rfl⟩
    obtain ⟨a, cp, hue, _⟩ := hu
    rw [hnp] at hue
    subst hue
    have HNP := Hid.mk' hnp
    have C1 := Hid.mk' (cut_any a cp np p wr hnp (HU.out.below hL.out.bel) HZU.out)
    have HPT : Hid (PS.take (i + 1) = PS.take i ++ [p.take 512]) := by
      show _ = _
      rw [List.take_add_one, ← HPS.out, List.getElem?_map, hp]
      rfl
    obtain ⟨k, hk⟩ : ∃ k, (blocks ep (p.take 512)).length = k := ⟨_, rfl⟩
    have hpl : (p.take 512).length ≤ 512 := by rw [List.length_take]; omega
    have hk3 : 1 ≤ k ∧ k ≤ 3 := by
      rw [← hk, blocks_len]
      omega
    have C2 : Hid (∀ wx v, RdB wx v (p.take 512) → Nz v → Calls Try.prog 19 #[.int .u32 (ep : Int), v] wx fun e w' => ∃ gr cr, e = .returned (.tuple #[.slice (some ⟨gr, 0, none⟩) k cr, .nilIface]) ∧ w'.ownsRow wx.heap.size 9 1 (.slice (some ⟨gr, 0, none⟩) k cr) k ((blocks ep (p.take 512)).map Nm.txt) ∧ Below wx.heap.size wx w') := fun wx v hv hz => by
      refine (SF wx ep v (p.take 512) hep hv hz (by omega)).mono ?_
      rintro e w' ⟨r, rfl, ho, hb⟩
      rw [framed, if_neg (by omega)] at ho
      rw [if_neg (by omega)]
      rw [hk] at ho
      rcases ho.2 with ⟨rfl, h0⟩ | ⟨gr, cr, cur, rfl, _⟩
      · omega
      · exact ⟨gr, cr, rfl, ho, hb⟩
    obtain ⟨BB, hBB⟩ : ∃ x, (blocks ep (p.take 512)).map Nm.txt = x := ⟨_, rfl⟩
    have HBB := Hid.mk' hBB
    have hBl : BB.length = k := by rw [← hBB, List.length_map, hk]
    have HK := Hid.mk' hk
    have HBL := Hid.mk' hBl
    have hone : Hid (∀ x ∈ BB, x.oneCell' = true) := by
      intro x hx
      rw [← hBB] at hx
      obtain ⟨b, _, rfl⟩ := List.mem_map.1 hx
      rfl
    have hiI : (i : Int) < (n : Int) := by omega
    have hi0 : (0 : Int) ≤ (i : Int) := by omega
    have hmx : Hid (m + k ≤ maxLen) := by show _ ≤ _; unfold maxLen; omega
    have hby : Hid ((m + k) * 16 ≤ 140737488355328) := by show _ ≤ _; omega
    have hmx1 : Hid (vs.length + 1 ≤ maxLen) := by show _ ≤ _; unfold maxLen; omega
    have hby1 : Hid ((vs.length + 1) * 24 ≤ 140737488355328) := by show _ ≤ _; omega
    have HVL := Hid.mk' hvl
    have hk0 : Hid (0 < k) := hk3.1
    have hkt : Hid (k ≤ 3) := hk3.2
    clear hp hy hc hzu hnp hk hBB hBl hvl hk3 hpl
    go_wp2_with fail
    refine C1.out.mono ?_
    rintro e x1 ⟨⟨m', rfl, hml, hrd, hz'⟩, rfl⟩
    have HRD0 := Hid.mk' (cut_rd HNP.out HU.out hml)
    have HZ' := Hid.mk' hz'
    have D2 := Hid.mk' (C2.out _ _ hrd hz')
    clear hml hrd hz' C1 hcw
    go_wp2_with fail
    refine D2.out.mono ?_
    rintro e x2 ⟨gr, cr, rfl, ho, hb⟩
    have HL2 := Hid.mk' (hL.out.below hb)
    have HC2 : Hid (∀ j v, BB[j]? = some v → x2.cell? ((⟨gr, 0, none⟩ : Addr).add j) = some v) := fun j v hj => ho.cells (g := gr) rfl j v (by rw [HBB.out]; exact hj)
    clear ho hb D2 C2
    go_wp2_with (first | (at_builtin; refine wpList_append_lies _ rfl _ _ 23 rfl w.heap.size 9 i0 (.string ⟨#[]⟩) 1 16 Try.underlying23 ji hz0 hz1 hz2 rfl (by decide) _ m _ rfl HL2.out.bl ⟨gr, 0, none⟩ k cr BB rfl (by have := HBL.out; omega) HC2.out hone.out hk0.out hmx.out hby.out HL2.out.bel.size _ rfl ?_; intro g3 c3 w3 ho hg hl hlt; rw [← HBB.out] at ho; have HL3 := Hid.mk' ((HL2.out.more HK.out ho hg hl).alloc (.cells #[.slice a m' cp] 32)); clear ho hg hl hlt) | (at_builtin; refine wpList_append_lies _ rfl _ _ 25 rfl w.heap.size 32 i1 (.slice none 0 0) 1 24 Try.underlying25 ji1 kz0 kz1 kz2 rfl (by decide) _ vs.length _ rfl HL3.out.out ⟨w3.heap.size, 0, none⟩ 1 1 [.slice a m' cp] rfl rfl (cell_one_new _ _ _) (by intro x hx; simp at hx; subst hx; rfl) (by decide) hmx1.out hby1.out HL3.out.bel.size _ rfl ?_; intro g4 c4 w4 ho hg hl hlt; have HL4 := Hid.mk' (HL3.out.more HRD0.out HZ'.out ho hg hl); clear ho hg hl hlt) | fail)
    refine ⟨⟨i + 1, vs ++ [.slice a m' cp], m + k, by omega, by rw [List.length_append, HVL.out]; rfl, by have := hkt.out; omega, by go_num, ?_⟩, ?_⟩
    · show Ld _ _ _ _ _ _ _ _
      rw [HPT.out]
      exact HL4.out
    · simp [intOf]
      omega
  · obtain rfl : i = n := by omega
    have hfin : Hid (PS.take i = PS) := by
      show _ = _
      rw [List.take_of_length_le (by rw [← HPS.out, List.length_map, HN.out]; exact Nat.le_refl _)]
    rw [hfin.out] at hL
    have HVL := Hid.mk' hvl
    clear hvl
    go_wp2
    go_ret3
    exact ⟨_, _, vs, m, rfl, hL.out⟩
end Rc
end Go.Proofs.Ytjnodkjeiogloaa
