/- SmeR, WrkR, LadR, WholeK, TornK, KnoR, KnoS, in one text. -/
import Derived.Test.YtjnodkjeiogloaaDoorCvR
import Derived.Deep.RegionHeld3
import Derived.Test.YtjnodkjeiogloaaDoorSayR
import Derived.Test.YtjnodkjeiogloaaDoorBegR
import Derived.Test.YtjnodkjeiogloaaDoorFramesK
import Derived.Test.YtjnodkjeiogloaaDoorPrgW
/- Lists of payloads, and whether two are the same. -/
namespace Go.Proofs.YtjnodkjeiogloaaDoor
set_option linter.ambiguousOpen false
open Go.RowKit
namespace Rc
open Sm Pk
set_option linter.unusedSimpArgs false
set_option linter.unusedVariables false

/-- The value v reads, in w, as the list of rows L. -/
def RdL (w : World) (v : Value) (L : List (List UInt8)) : Prop :=
  ∃ a cap, v = .slice a L.length cap ∧ L.length ≤ cap ∧ cap ≤ maxLen ∧ (0 < L.length → ∃ g o, a = some ⟨g, o, none⟩ ∧ g < w.heap.size ∧ ∀ (j : Nat) (p : List UInt8), L[j]? = some p → ∃ u, w.cell? ⟨g, o + j, none⟩ = some u ∧ RdB w u p ∧ Nz u)

theorem RdL.below {w w' : World} {v : Value} {L : List (List UInt8)} (h : RdL w v L) (hb : Below w.heap.size w w') : RdL w' v L := by
  obtain ⟨a, cap, h1, h2, h3, h4⟩ := h
  refine ⟨a, cap, h1, h2, h3, fun h0 => ?_⟩
  obtain ⟨g, o, e1, e2, e3⟩ := h4 h0
  refine ⟨g, o, e1, Nat.lt_of_lt_of_le e2 hb.size, fun j p hj => ?_⟩
  obtain ⟨u, f1, f2, f3⟩ := e3 j p hj
  exact ⟨u, (hb.cell (p := ⟨g, o + j, none⟩) e2).trans f1, f2.below hb, f3⟩

set_option maxRecDepth 100000 in
set_option maxHeartbeats 4000000 in
theorem same_rows (v1 v2 : Value) (L : List (List UInt8)) (w : World) (h1 : RdL w v1 L) (h2 : RdL w v2 L) :
    Calls Tryd.prog 47 #[v1, v2] w fun e w' => e = .returned (.bool true) ∧ Below w.heap.size w w' := by
  have H1 := Hid.mk' h1
  have H2 := Hid.mk' h2
  obtain ⟨n, hn⟩ : ∃ n, L.length = n := ⟨_, rfl⟩
  have HN := Hid.mk' hn
  obtain ⟨a1, c1, rfl, hc1, hm1, hx1⟩ := h1
  obtain ⟨a2, c2, rfl, hc2, hm2, hx2⟩ := h2
  rw [hn] at hc1 hc2 H1 H2 ⊢
  unfold maxLen at hm1 hm2
  have cS : Hid (∀ wx u1 u2 p, RdB wx u1 p → RdB wx u2 p → Calls Tryd.prog 53 #[u1, u2] wx fun e w' => e = .returned (.bool true) ∧ Below wx.heap.size wx w') := fun wx u1 u2 p q1 q2 => sameB_eq u1 u2 p wx q1 q2
  clear hx1 hx2 hn
  go_enter Tryd.func47, Tryd.ntmps47
  go_wp2
  go_loopw [5] (fun iv wr => ∃ k : Nat, k ≤ n ∧ iv = nu (k : Int) ∧ Hid (Below w.heap.size w wr)) (fun iv _ => n - (intOf iv).toNat)
  case atStart => exact ⟨0, Nat.zero_le _, rfl, Below.refl _ _⟩
  case round =>
  obtain ⟨k, hk, rfl, hB⟩ := hrel
  by_cases hkn : k < n
  · obtain ⟨p, hp⟩ : ∃ p, L[k]? = some p := ⟨L[k]'(by have := HN.out; omega), List.getElem?_eq_getElem _⟩
    obtain ⟨b1, d1, e1, _, _, q1⟩ := H1.out.below hB.out
    obtain ⟨b2, d2, e2, _, _, q2⟩ := H2.out.below hB.out
    obtain ⟨rfl, rfl⟩ : a1 = b1 ∧ c1 = d1 := by simp at e1; exact ⟨e1.1, e1.2.2⟩
    obtain ⟨rfl, rfl⟩ : a2 = b2 ∧ c2 = d2 := by simp at e2; exact ⟨e2.1, e2.2.2⟩
    obtain ⟨g1, o1, rfl, l1, y1⟩ := q1 (by have := HN.out; omega)
    obtain ⟨g2, o2, rfl, l2, y2⟩ := q2 (by have := HN.out; omega)
    obtain ⟨u1, f1, r1, _⟩ := y1 k p hp
    obtain ⟨u2, f2, r2, _⟩ := y2 k p hp
    have hkI : (k : Int) < (n : Int) := by omega
    have hk0 : (0 : Int) ≤ (k : Int) := by omega
    have C := Hid.mk' (show ∀ wx, Below wr.heap.size wr wx → Calls Tryd.prog 53 #[u1, u2] wx fun e w' => e = .returned (.bool true) ∧ (w'.cell? ⟨g1, o1 + k, none⟩ = some u1 ∧ w'.cell? ⟨g2, o2 + k, none⟩ = some u2) ∧ Below wr.heap.size wr w' from fun wx hx => by
      refine (cS.out wx u1 u2 p (r1.below hx) (r2.below hx)).mono ?_
      rintro e w' ⟨rfl, hb⟩
      have hbw : Below wr.heap.size wr w' := hx.trans (hb.mono hx.size)
      exact ⟨rfl, ⟨(hbw.cell (p := ⟨g1, o1 + k, none⟩) l1).trans f1, (hbw.cell (p := ⟨g2, o2 + k, none⟩) l2).trans f2⟩, hbw⟩)
    obtain ⟨s1, m1, rfl, _⟩ := r1
    obtain ⟨s2, m2, rfl, _⟩ := r2
    clear e1 e2 q1 q2 y1 y2 hp H1 H2
    go_upto_region 6 with fail
    go_cut [26] from 17 to 27 (fun r wx => r = .bool false ∧ Hid (Below w.heap.size w wx))
    case first =>
      go_wp2_with fail
      go_region_held3 (fun w' => w'.cell? ⟨g1, o1 + k, none⟩ = some (.slice s1 p.length m1) ∧ w'.cell? ⟨g2, o2 + k, none⟩ = some (.slice s2 p.length m2)) (first | assumption | exact ⟨f1, f2⟩ | go_keep) (first | (go_at_call 53; with_reducible refine (C.out _ ?hb).mono ?_; (case hb => (first | exact Below.refl _ _ | exact (Below.refl _ _).drew | fail)); rintro e w5 ⟨rfl, ⟨y1, y2⟩, hb5⟩) | fail)
      all_goals (go_wp2_with fail; go_meet; exact ⟨rfl, hB.out.trans (hb5.mono hB.out.size)⟩)
    case rest =>
      obtain ⟨rfl, hB2⟩ := hcut
      clear f1 f2 C
      go_wp2
      go_roundw
      case rel => exact ⟨k + 1, by omega, by go_num, hB2⟩
      case measure => simp [intOf]; omega
  · obtain rfl : k = n := by omega
    go_wp2
    go_ret
    exact ⟨rfl, hB.out⟩
end Rc
end Go.Proofs.YtjnodkjeiogloaaDoor
/- What each law on records asks first: a small record has one block, and is found. -/
namespace Go.Proofs.YtjnodkjeiogloaaDoor
set_option linter.ambiguousOpen false
open Go.RowKit
namespace Rc
open Sm Pk
set_option linter.unusedSimpArgs false
set_option linter.unusedVariables false

theorem rd_newR (w : World) (l : List UInt8) (h : l.length ≤ 1000000) : RdB (w.alloc (.cells (l.map by1).toArray 5)) (.slice (some ⟨w.heap.size, 0, none⟩) l.length l.length) l := by
  refine ⟨_, l.length, rfl, Nat.le_refl _, by unfold maxLen; omega, fun _ => ⟨w.heap.size, 0, rfl, by simp, fun j hj => ?_⟩⟩
  rw [Nat.zero_add, cell_of_row _ w.heap.size j _ _ _ (heap_alloc_new w _)]
  simp [hj]

/-- A list of rows that a call has made reads as those rows. -/
theorem rows_rdl {w : World} {base : Nat} {r : Value} {vs : List Value} {ps : List (List UInt8)} (h : w.ownsRow base 23 1 r vs.length vs) (hr : Rows w base vs ps) : RdL w r ps := by
  have hl := hr.len
  rcases h.2 with ⟨rfl, h0⟩ | ⟨g, cap, cur, rfl, h1, h2, h3, h4, h5, h6⟩
  · have : ps = [] := List.eq_nil_of_length_eq_zero (by omega)
    subst this
    exact ⟨none, 0, rfl, Nat.le_refl _, by decide, fun h => by simp at h⟩
  · refine ⟨some ⟨g, 0, none⟩, cap, by rw [hl], by omega, h4, fun _ => ⟨g, 0, rfl, (Array.getElem?_eq_some_iff.1 h2).1, fun j p hj => ?_⟩⟩
    have hj' : j < vs.length := by
      have := (List.getElem?_eq_some_iff.1 hj).1
      omega
    have ho := hr.own j vs[j] p (List.getElem?_eq_getElem hj') hj
    refine ⟨vs[j], ?_, own_rd ho, nz_own ho⟩
    rw [Nat.zero_add]
    have := h.cells (g := g) rfl j vs[j] (List.getElem?_eq_getElem hj')
    rw [Addr.add_lit, Nat.zero_add] at this
    exact this

theorem scan_seven : (scan 1 (blocks 1 [7])).1 = [[7]] ∧ (scan 1 (blocks 1 [7])).2.2 = 1 := by
  have h := scan_whole 1 [[7]] [] (fun p hp => by simp at hp; rw [hp]; decide) (fun b r hb => by simp at hb)
  have e : flat 1 [[7]] ++ [] = blocks 1 [7] := by simp [flat]
  rw [e] at h
  refine ⟨h.1, h.2.trans ?_⟩
  simp [flat, blocks_len]

set_option maxRecDepth 100000 in
set_option maxHeartbeats 4000000 in
theorem works_yes (SF : FrameC) (SS : ScanC) (w : World) : Calls Tryd.prog 30 #[] w fun e w' => e = .returned (.bool true) ∧ Below w.heap.size w w' := by
  have hB0 : Hid (Below w.heap.size w (w.alloc (.cells #[.int .u8 7] 5))) := (Below.refl _ _).alloc (Nat.le_refl _) _
  have hrd0 : RdB (w.alloc (.cells #[.int .u8 7] 5)) (.slice (some ⟨w.heap.size, 0, none⟩) 1 1) [7] := rd_newR w [7] (by decide)
  obtain ⟨F, hF⟩ : ∃ x, blocks 1 [7] = x := ⟨_, rfl⟩
  have hFl : F.length = 1 := by
    rw [← hF, blocks_len]
    decide
  have c1 : Hid (Calls Tryd.prog 6 #[.int .u32 1, .slice (some ⟨w.heap.size, 0, none⟩) 1 1] (w.alloc (.cells #[.int .u8 7] 5)) fun e w' => ∃ r, e = .returned (.tuple #[r, .nilIface]) ∧ w'.ownsRow (w.alloc (.cells #[.int .u8 7] 5)).heap.size 9 1 r 1 (F.map Nm.txt) ∧ Below (w.alloc (.cells #[.int .u8 7] 5)).heap.size (w.alloc (.cells #[.int .u8 7] 5)) w') := by
    have := SF _ 1 _ [7] (by decide) hrd0 (.inr ⟨_, _, _, rfl⟩) (by decide)
    rw [framed, if_neg (by decide), if_neg (by decide), hF, hFl] at this
    exact this
  have c2 : Hid (∀ wx v, Nm.Rd wx v F → Calls Tryd.prog 29 #[.int .u32 1, v] wx fun e w' => ∃ g cap u, e = .returned (.tuple #[.slice (some ⟨g, 0, none⟩) 1 cap, nu 1]) ∧ w'.cell? ⟨g, 0, none⟩ = some u ∧ RdB w' u [7] ∧ Below wx.heap.size wx w') := fun wx v hv => by
    have hs := scan_seven
    rw [hF] at hs
    refine (SS wx 1 v F (by decide) hv (by rw [hFl]; decide) (fun t ht => ?_)).mono ?_
    · rw [← hF] at ht
      have := blocks_short 1 [7] t ht
      omega
    · rintro e w' ⟨r, vs, rfl, ho, hr, _, hb⟩
      rw [hs.1] at hr
      rw [hs.2]
      obtain ⟨a, cap, rfl, _, _, hx⟩ := rows_rdl ho hr
      obtain ⟨g, o, rfl, hg, hy⟩ := hx (by decide)
      have ho0 : o = 0 := by
        rcases ho.2 with ⟨h0, _⟩ | ⟨g', cap', cur, h0, _⟩
        · simp at h0
        · simp at h0
          exact h0.1.2
      subst ho0
      obtain ⟨u, hc, hu, _⟩ := hy 0 [7] rfl
      exact ⟨g, cap, u, rfl, hc, hu, hb⟩
  have cS : Hid (∀ wx u1 u2, RdB wx u1 [7] → RdB wx u2 [7] → Calls Tryd.prog 53 #[u1, u2] wx fun e w' => e = .returned (.bool true) ∧ Below wx.heap.size wx w') := fun wx u1 u2 q1 q2 => sameB_eq u1 u2 [7] wx q1 q2
  have HFL := Hid.mk' hFl
  clear hrd0 hF hFl
  go_enter Tryd.func30, Tryd.ntmps30
  go_wp2_with fail
  refine c1.out.mono ?_
  rintro e x1 ⟨r, rfl, ho, hb⟩
  have HB1 := Hid.mk' (hB0.out.trans (hb.mono hB0.out.size))
  have HR1 : Hid (Nm.Rd x1 r F) := Nm.rd_own (by rw [HFL.out]; exact ho)
  obtain ⟨a1, k1, rfl, _⟩ := Nm.own_shape ho
  clear ho hb c1 hB0
  go_wp2_with fail
  refine (c2.out _ _ HR1.out).mono ?_
  rintro e x2 ⟨g, cap, u, rfl, hc, hu, hb⟩
  have HB2 := Hid.mk' (HB1.out.trans (hb.mono HB1.out.size))
  have hb3 : Below x2.heap.size x2 (x2.alloc (.cells #[.int .u8 7] 5)) := (Below.refl _ _).alloc (Nat.le_refl _) _
  have C3 := Hid.mk' (cS.out _ u _ (hu.below hb3) (rd_newR x2 [7] (by decide)))
  have HB3 := Hid.mk' (HB2.out.alloc HB2.out.size (.cells #[.int .u8 7] 5))
  obtain ⟨au, cu, rfl, _⟩ := hu
  clear hb hb3 HB1 HR1 c2 cS
  go_wp2_with fail
  refine C3.out.mono ?_
  rintro e x3 ⟨rfl, hb⟩
  have HB4 := Hid.mk' (HB3.out.trans (hb.mono HB3.out.size))
  clear hb C3
  go_wp2
  go_ret
  exact ⟨rfl, HB4.out⟩
end Rc
end Go.Proofs.YtjnodkjeiogloaaDoor
/- The blocks of records, one behind the other, and their payloads. -/
namespace Go.Proofs.YtjnodkjeiogloaaDoor
set_option linter.ambiguousOpen false
open Go.RowKit
namespace Rc
open Sm Pk
set_option linter.unusedSimpArgs false
set_option linter.unusedVariables false

/-- The rows that lie in a list under way read as payloads. -/
def Reads (w : World) (vs : List Value) (ps : List (List UInt8)) : Prop := vs.length = ps.length ∧ ∀ (j : Nat) (v : Value) (p : List UInt8), vs[j]? = some v → ps[j]? = some p → RdB w v p ∧ Nz v

theorem Reads.below {w w' : World} {vs : List Value} {ps : List (List UInt8)} (h : Reads w vs ps) (hb : Below w.heap.size w w') : Reads w' vs ps :=
  ⟨h.1, fun j v p hj hp => ⟨(h.2 j v p hj hp).1.below hb, (h.2 j v p hj hp).2⟩⟩

theorem Reads.snoc {w : World} {vs : List Value} {ps : List (List UInt8)} (h : Reads w vs ps) {v : Value} {p : List UInt8} (hr : RdB w v p) (hz : Nz v) : Reads w (vs ++ [v]) (ps ++ [p]) := by
  refine ⟨by rw [List.length_append, List.length_append, h.1]; rfl, fun j u q hj hq => ?_⟩
  rcases Nat.lt_or_ge j vs.length with hl | hl
  · rw [List.getElem?_append_left hl] at hj
    rw [List.getElem?_append_left (by rw [← h.1]; exact hl)] at hq
    exact h.2 j u q hj hq
  · rw [List.getElem?_append_right hl] at hj
    rw [List.getElem?_append_right (by rw [← h.1]; exact hl), ← h.1] at hq
    obtain ⟨k, hk⟩ : ∃ k, j - vs.length = k := ⟨_, rfl⟩
    rw [hk] at hj hq
    cases k with
    | zero =>
      simp at hj hq
      subst hj hq
      exact ⟨hr, hz⟩
    | succ k => simp at hj

theorem reads_rdl {w : World} {base : Nat} {r : Value} {vs : List Value} {ps : List (List UInt8)} (h : w.ownsRow base 23 1 r vs.length vs) (hr : Reads w vs ps) : RdL w r ps := by
  have hl := hr.1
  rcases h.2 with ⟨rfl, h0⟩ | ⟨g, cap, cur, rfl, h1, h2, h3, h4, h5, h6⟩
  · have : ps = [] := List.eq_nil_of_length_eq_zero (by omega)
    subst this
    exact ⟨none, 0, rfl, Nat.le_refl _, by decide, fun h => by simp at h⟩
  · refine ⟨some ⟨g, 0, none⟩, cap, by rw [hl], by omega, h4, fun _ => ⟨g, 0, rfl, (Array.getElem?_eq_some_iff.1 h2).1, fun j p hj => ?_⟩⟩
    have hj' : j < vs.length := by
      have := (List.getElem?_eq_some_iff.1 hj).1
      omega
    have ho := hr.2 j vs[j] p (List.getElem?_eq_getElem hj') hj
    refine ⟨vs[j], ?_, ho.1, ho.2⟩
    rw [Nat.zero_add]
    have := h.cells (g := g) rfl j vs[j] (List.getElem?_eq_getElem hj')
    rw [Addr.add_lit, Nat.zero_add] at this
    exact this

theorem flat_take_len (ep : Nat) (ps : List (List UInt8)) (h : ∀ p ∈ ps, p.length ≤ 512) : (flat ep ps).length ≤ 3 * ps.length := by
  induction ps with
  | nil => simp [flat]
  | cons p ps ih =>
    have h1 := blocks_len ep p
    have h2 := h p (by simp)
    have h3 := ih (fun q hq => h q (by simp [hq]))
    simp only [flat, List.flatMap_cons, List.length_append, List.length_cons] at h3 ⊢
    omega

/-- The two rows that grow: the blocks, and the payloads (which lie in what was there). -/
structure Ld (w0 w : World) (ep : Nat) (ps : List (List UInt8)) (bv ov : Value) (vs : List Value) (m : Nat) : Prop where
  bl : w.ownsRow w0.heap.size 9 1 bv m ((flat ep ps).map Nm.txt)
  ml : (flat ep ps).length = m
  out : w.ownsRow w0.heap.size 23 1 ov vs.length vs
  rd : Reads w0 vs ps
  sep : Nm.Sep bv ov
  bel : Below w0.heap.size w0 w

theorem Ld.below {w0 w w' : World} {ep : Nat} {ps : List (List UInt8)} {bv ov : Value} {vs : List Value} {m : Nat} (h : Ld w0 w ep ps bv ov vs m) (hb : Below w.heap.size w w') : Ld w0 w' ep ps bv ov vs m :=
  ⟨own_keptB h.bl hb, h.ml, own_keptB h.out hb, h.rd, h.sep, h.bel.trans (hb.mono h.bel.size)⟩

/-- The blocks of one more. -/
structure Lh (w0 w : World) (ep : Nat) (ps : List (List UInt8)) (p : List UInt8) (bv ov : Value) (vs : List Value) (m : Nat) : Prop where
  bl : w.ownsRow w0.heap.size 9 1 bv m ((flat ep (ps ++ [p])).map Nm.txt)
  ml : (flat ep (ps ++ [p])).length = m
  out : w.ownsRow w0.heap.size 23 1 ov vs.length vs
  rd : Reads w0 vs ps
  sep : Nm.Sep bv ov
  bel : Below w0.heap.size w0 w

theorem flat_snoc (ep : Nat) (ps : List (List UInt8)) (p : List UInt8) : flat ep (ps ++ [p]) = flat ep ps ++ blocks ep p := by simp [flat]

theorem Ld.more {w0 w w' : World} {ep : Nat} {ps : List (List UInt8)} {p : List UInt8} {bv ov : Value} {vs : List Value} {m k g cap : Nat} (h : Ld w0 w ep ps bv ov vs m) (hk : (blocks ep p).length = k) (ho : w'.ownsRow w0.heap.size 9 1 (.slice (some ⟨g, 0, none⟩) (m + k) cap) (m + k) ((flat ep ps).map Nm.txt ++ (blocks ep p).map Nm.txt)) (hg : w.grownBy w' bv.ownBlock) (hl : bv.ownBlock = some g ∨ g = w.heap.size) : Lh w0 w' ep ps p (.slice (some ⟨g, 0, none⟩) (m + k) cap) ov vs (m + k) := by
  refine ⟨by rw [flat_snoc, List.map_append]; exact ho, by rw [flat_snoc, List.length_append, h.ml, hk], h.out.kept hg ?_, h.rd, ?_, Below.grown h.bel hg h.bel.size (fun j hj => (h.bl.lt j hj).1)⟩
  · cases hv : ov.ownBlock with
    | none => exact .inl rfl
    | some b => exact .inr (fun e => h.sep b e.symm hv)
  · intro b hb1 hb2
    have e : g = b := by simpa [Value.ownBlock] using hb1
    subst e
    rcases hl with hl | hl
    · exact h.sep g hl hb2
    · have := (h.out.lt g hb2).2
      omega

theorem Lh.alloc {w0 w : World} {ep : Nat} {ps : List (List UInt8)} {p : List UInt8} {bv ov : Value} {vs : List Value} {m : Nat} (h : Lh w0 w ep ps p bv ov vs m) (o : Obj) : Lh w0 (w.alloc o) ep ps p bv ov vs m :=
  ⟨h.bl.alloc o, h.ml, h.out.alloc o, h.rd, h.sep, h.bel.alloc h.bel.size o⟩

theorem Lh.more {w0 w w' : World} {ep : Nat} {ps : List (List UInt8)} {p : List UInt8} {bv ov u : Value} {vs : List Value} {m g cap : Nat} (h : Lh w0 w ep ps p bv ov vs m) (hr : RdB w0 u p) (hz : Nz u) (ho : w'.ownsRow w0.heap.size 23 1 (.slice (some ⟨g, 0, none⟩) (vs.length + 1) cap) (vs.length + 1) (vs ++ [u])) (hg : w.grownBy w' ov.ownBlock) (hl : ov.ownBlock = some g ∨ g = w.heap.size) : Ld w0 w' ep (ps ++ [p]) bv (.slice (some ⟨g, 0, none⟩) (vs.length + 1) cap) (vs ++ [u]) m := by
  refine ⟨h.bl.kept hg ?_, h.ml, by rw [List.length_append]; exact ho, h.rd.snoc hr hz, ?_, Below.grown h.bel hg h.bel.size (fun j hj => (h.out.lt j hj).1)⟩
  · cases hv : bv.ownBlock with
    | none => exact .inl rfl
    | some b => exact .inr (fun e => h.sep b hv e.symm)
  · intro b hb1 hb2
    have e : g = b := by simpa [Value.ownBlock] using hb2
    subst e
    rcases hl with hl | hl
    · exact h.sep g hb1 hl
    · have := (h.bl.lt g hb1).2
      omega

theorem cut_rd {w : World} {a : Option Addr} {cap n m : Nat} {p : List UInt8} (hn : p.length = n) (hR : RdB w (.slice a n cap) p) (hm : (p.take 512).length = m) : RdB w (.slice a m cap) (p.take 512) := by
  rw [← hn] at hR
  have hml : m ≤ p.length := by
    rw [← hm, List.length_take]
    omega
  have h2 := hR.take m hml
  have h3 : p.take m = p.take 512 := by
    rw [List.length_take] at hm
    rcases Nat.le_total 512 p.length with h | h
    · rw [← hm, Nat.min_eq_left h]
    · rw [← hm, Nat.min_eq_right h, List.take_of_length_le (Nat.le_refl _), List.take_of_length_le h]
  rw [h3] at h2
  exact h2

set_option maxRecDepth 100000 in
set_option maxHeartbeats 8000000 in
theorem laid_any (SF : FrameC) (ep : Nat) (lv : Value) (L : List (List UInt8)) (w : World) (hep : ep < 4294967296) (hR : RdL w lv L) (hN : L.length ≤ 1000000000000) :
    Calls Tryd.prog 25 #[.int .u32 (ep : Int), lv] w fun e w' => ∃ bv ov vs m, e = .returned (.tuple #[bv, ov, .bool true]) ∧ Ld w w' ep (L.map (·.take 512)) bv ov vs m := by
  obtain ⟨i0, ji, hz0, hz1, hz2⟩ := info_parts (show (Tryd.prog.info? 9).map (fun i => (i.zero, i.size, i.bytes)) = some (some (.string ⟨#[]⟩), 1, 16) by kernel_rfl)
  obtain ⟨i1, ji1, kz0, kz1, kz2⟩ := info_parts (show (Tryd.prog.info? 23).map (fun i => (i.zero, i.size, i.bytes)) = some (some (.slice none 0 0), 1, 24) by kernel_rfl)
  have HR := Hid.mk' hR
  obtain ⟨n, hn⟩ : ∃ n, L.length = n := ⟨_, rfl⟩
  have HN := Hid.mk' hn
  obtain ⟨al, cl, rfl, hc1, hc2, hx⟩ := hR
  have HX := Hid.mk' hx
  rw [hn] at HR hc1 hN HX ⊢
  unfold maxLen at hc2
  obtain ⟨PS, hPS⟩ : ∃ x, L.map (·.take 512) = x := ⟨_, rfl⟩
  rw [hPS]
  have HPS := Hid.mk' hPS
  clear hx hn hPS
  go_enter Tryd.func25, Tryd.ntmps25
  go_wp2
  go_loopw [7, 8, 9, 10, 11, 12] (fun bv ov iv _ _ _ wr => ∃ (i : Nat) (vs : List Value) (m : Nat), i ≤ n ∧ vs.length = i ∧ m ≤ 3 * i ∧ iv = nu (i : Int) ∧ Hid (Ld w wr ep (PS.take i) bv ov vs m)) (fun _ _ iv _ _ _ _ => n - (intOf iv).toNat)
  case atStart => exact ⟨0, [], 0, Nat.zero_le _, rfl, Nat.zero_le _, rfl, ⟨World.ownsRow_nil _ _ _ _, rfl, World.ownsRow_nil _ _ _ _, ⟨rfl, fun j v p hj => by simp at hj⟩, Nm.Sep.nil _, Below.refl _ _⟩⟩
  case round =>
  obtain ⟨i, vs, m, hi, hvl, hm3, rfl, hL⟩ := hrel
  by_cases hin : i < n
  · obtain ⟨p, hp⟩ : ∃ p, L[i]? = some p := ⟨L[i]'(by have := HN.out; omega), List.getElem?_eq_getElem _⟩
    obtain ⟨g, o, rfl, hg, hy⟩ := HX.out (by omega)
    obtain ⟨u, hc, hu, hzu⟩ := hy i p hp
    have hcw : wr.cell? ⟨g, o + i, none⟩ = some u := (hL.out.bel.cell (p := ⟨g, o + i, none⟩) hg).trans hc
    have HU := Hid.mk' hu
    have HZU := Hid.mk' hzu
    obtain ⟨np, hnp⟩ : ∃ x, p.length = x := ⟨_, rfl⟩
    obtain ⟨a, cp, hue, _⟩ := hu
    rw [hnp] at hue
    subst hue
    have HNP := Hid.mk' hnp
    have C1 := Hid.mk' (cut_any a cp np p wr hnp (HU.out.below hL.out.bel) HZU.out)
    have HPT : Hid (PS.take (i + 1) = PS.take i ++ [p.take 512]) := by
      show _ = _
      rw [List.take_add_one, ← HPS.out, List.getElem?_map, hp]
      rfl
    obtain ⟨k, hk⟩ : ∃ k, (blocks ep (p.take 512)).length = k := ⟨_, rfl⟩
    have hpl : (p.take 512).length ≤ 512 := by rw [List.length_take]; omega
    have hk3 : 1 ≤ k ∧ k ≤ 3 := by
      rw [← hk, blocks_len]
      omega
    have C2 : Hid (∀ wx v, RdB wx v (p.take 512) → Nz v → Calls Tryd.prog 6 #[.int .u32 (ep : Int), v] wx fun e w' => ∃ gr cr, e = .returned (.tuple #[.slice (some ⟨gr, 0, none⟩) k cr, .nilIface]) ∧ w'.ownsRow wx.heap.size 9 1 (.slice (some ⟨gr, 0, none⟩) k cr) k ((blocks ep (p.take 512)).map Nm.txt) ∧ Below wx.heap.size wx w') := fun wx v hv hz => by
      refine (SF wx ep v (p.take 512) hep hv hz (by omega)).mono ?_
      rintro e w' ⟨r, rfl, ho, hb⟩
      rw [framed, if_neg (by omega)] at ho
      rw [if_neg (by omega)]
      rw [hk] at ho
      rcases ho.2 with ⟨rfl, h0⟩ | ⟨gr, cr, cur, rfl, _⟩
      · omega
      · exact ⟨gr, cr, rfl, ho, hb⟩
    obtain ⟨BB, hBB⟩ : ∃ x, (blocks ep (p.take 512)).map Nm.txt = x := ⟨_, rfl⟩
    have HBB := Hid.mk' hBB
    have hBl : BB.length = k := by rw [← hBB, List.length_map, hk]
    have HK := Hid.mk' hk
    have HBL := Hid.mk' hBl
    have hone : Hid (∀ x ∈ BB, x.oneCell' = true) := by
      intro x hx
      rw [← hBB] at hx
      obtain ⟨b, _, rfl⟩ := List.mem_map.1 hx
      rfl
    have hiI : (i : Int) < (n : Int) := by omega
    have hi0 : (0 : Int) ≤ (i : Int) := by omega
    have hmx : Hid (m + k ≤ maxLen) := by show _ ≤ _; unfold maxLen; omega
    have hby : Hid ((m + k) * 16 ≤ 140737488355328) := by show _ ≤ _; omega
    have hmx1 : Hid (vs.length + 1 ≤ maxLen) := by show _ ≤ _; unfold maxLen; omega
    have hby1 : Hid ((vs.length + 1) * 24 ≤ 140737488355328) := by show _ ≤ _; omega
    have HVL := Hid.mk' hvl
    have hk0 : Hid (0 < k) := hk3.1
    have hkt : Hid (k ≤ 3) := hk3.2
    clear hp hy hc hzu hnp hk hBB hBl hvl hk3 hpl
    go_wp2_with fail
    refine C1.out.mono ?_
    rintro e x1 ⟨⟨m', rfl, hml, hrd, hz'⟩, rfl⟩
    have HRD0 := Hid.mk' (cut_rd HNP.out HU.out hml)
    have HZ' := Hid.mk' hz'
    have D2 := Hid.mk' (C2.out _ _ hrd hz')
    clear hml hrd hz' C1 hcw
    go_wp2_with fail
    refine D2.out.mono ?_
    rintro e x2 ⟨gr, cr, rfl, ho, hb⟩
    have HL2 := Hid.mk' (hL.out.below hb)
    have HC2 : Hid (∀ j v, BB[j]? = some v → x2.cell? ((⟨gr, 0, none⟩ : Addr).add j) = some v) := fun j v hj => ho.cells (g := gr) rfl j v (by rw [HBB.out]; exact hj)
    clear ho hb D2 C2
    go_wp2_with (first | (at_builtin; refine wpList_append_lies _ rfl _ _ 25 rfl w.heap.size 9 i0 (.string ⟨#[]⟩) 1 16 Tryd.underlying25 ji hz0 hz1 hz2 rfl (by decide) _ m _ rfl HL2.out.bl ⟨gr, 0, none⟩ k cr BB rfl (by have := HBL.out; omega) HC2.out hone.out hk0.out hmx.out hby.out HL2.out.bel.size _ rfl ?_; intro g3 c3 w3 ho hg hl hlt; rw [← HBB.out] at ho; have HL3 := Hid.mk' ((HL2.out.more HK.out ho hg hl).alloc (.cells #[.slice a m' cp] 23)); clear ho hg hl hlt) | (at_builtin; refine wpList_append_lies _ rfl _ _ 50 rfl w.heap.size 23 i1 (.slice none 0 0) 1 24 Tryd.underlying50 ji1 kz0 kz1 kz2 rfl (by decide) _ vs.length _ rfl HL3.out.out ⟨w3.heap.size, 0, none⟩ 1 1 [.slice a m' cp] rfl rfl (cell_one_new _ _ _) (by intro x hx; simp at hx; subst hx; rfl) (by decide) hmx1.out hby1.out HL3.out.bel.size _ rfl ?_; intro g4 c4 w4 ho hg hl hlt; have HL4 := Hid.mk' (HL3.out.more HRD0.out HZ'.out ho hg hl); clear ho hg hl hlt) | fail)
    refine ⟨⟨i + 1, vs ++ [.slice a m' cp], m + k, by omega, by rw [List.length_append, HVL.out]; rfl, by have := hkt.out; omega, by go_num, ?_⟩, ?_⟩
    · show Ld _ _ _ _ _ _ _ _
      rw [HPT.out]
      exact HL4.out
    · simp [intOf]
      omega
  · obtain rfl : i = n := by omega
    have hfin : Hid (PS.take i = PS) := by
      show _ = _
      rw [List.take_of_length_le (by rw [← HPS.out, List.length_map, HN.out]; exact Nat.le_refl _)]
    rw [hfin.out] at hL
    have HVL := Hid.mk' hvl
    clear hvl
    go_wp2
    go_ret3
    exact ⟨_, _, vs, m, rfl, hL.out⟩
end Rc
end Go.Proofs.YtjnodkjeiogloaaDoor
/- RecordWhole. -/
namespace Go.Proofs.YtjnodkjeiogloaaDoor
set_option linter.ambiguousOpen false
open Go.RowKit
namespace Rc
open Sm Pk
set_option linter.unusedSimpArgs false
set_option linter.unusedVariables false

/-- Appending texts (which may be none) to a list of texts of one's own. -/
theorem append_texts {w : World} {base n : Nat} {v : Value} {xs : List Value} (hown : w.ownsRow base 9 1 v n xs) {u : Value} {l : List (List UInt8)} (hR : Nm.Rd w u l) (hz : Nz u) (hb : (n + l.length) * 16 ≤ 140737488355328) (hbase : base ≤ w.heap.size) (ty : TypeId) :
    ∃ v' w', (Builtin.append_ #[25, 25] ty #[v, u]).run Tryd.prog w = .ok v' w' ∧ w'.ownsRow base 9 1 v' (n + l.length) (xs ++ l.map Nm.txt) ∧ w.grownBy w' v.ownBlock := by
  obtain ⟨i0, hi, hz0, hz1, hz2⟩ := info_parts (show (Tryd.prog.info? 9).map (fun i => (i.zero, i.size, i.bytes)) = some (some (.string ⟨#[]⟩), 1, 16) by kernel_rfl)
  obtain ⟨a, cap, rfl, h1, h2, h3⟩ := hR
  rcases hz with hz | ⟨ad, m, c, hz⟩
  · obtain ⟨rfl, h0, rfl⟩ : a = none ∧ l.length = 0 ∧ cap = 0 := by simpa using hz
    obtain rfl := List.eq_nil_of_length_eq_zero h0
    refine ⟨v, w, ?_, by simpa using hown, ⟨rfl, rfl, rfl, Nat.le_refl _, fun _ _ _ => rfl⟩⟩
    exact run_append_owned_none w base 25 ty 9 i0 1 Tryd.underlying25 hi v n xs hown
  · obtain ⟨rfl, h0, rfl⟩ : a = some ad ∧ l.length = m ∧ cap = c := by simpa using hz
    have hn : ∀ j u, (l.map Nm.txt)[j]? = some u → w.cell? (ad.add j) = some u := fun j u hj => by
      have hj' : j < l.length := by
        have := (List.getElem?_eq_some_iff.1 hj).1
        simpa using this
      obtain ⟨g, o, e1, _, e3⟩ := h3 (by omega)
      cases e1
      rw [List.getElem?_map, List.getElem?_eq_getElem hj'] at hj
      rw [Addr.add_mid, e3 j hj']
      exact hj
    obtain ⟨v', w', hr, g1, g2, _, g4⟩ := run_append_own_at (P := Tryd.prog) w base 25 ty 9 i0 (.string ⟨#[]⟩) 1 16 Tryd.underlying25 hi hz0 hz1 hz2 rfl (by decide) v n xs hown ad l.length cap (l.map Nm.txt) (by simp) hn (fun u hu => by
      obtain ⟨b, _, rfl⟩ := List.mem_map.1 hu
      rfl) (by unfold maxLen; omega) (by omega) hbase
    exact ⟨v', w', hr, g1, g2⟩

theorem wpList_append_texts {w : World} {ops : Array Oper} {rest : List Oper} {o : Oper} {a : Act} {Q : Exit → Act → World → Prop} (hgd : o.guard = none) (s x : Operand)
    (ho : o.op = .call { callee := .builtin .append, args := #[s, x], argTypes := #[25, 25] })
    (base n : Nat) (v u : Value) (xs : List Value) (l : List (List UInt8)) (hs : a.eval s = v) (hx : a.eval x = u) (hown : w.ownsRow base 9 1 v n xs) (hR : Nm.Rd w u l) (hz : Nz u) (hb : (n + l.length) * 16 ≤ 140737488355328) (hbase : base ≤ w.heap.size)
    (h : ∀ v' w', w'.ownsRow base 9 1 v' (n + l.length) (xs ++ l.map Nm.txt) → w.grownBy w' v.ownBlock → wpList Tryd.prog ops Q rest (a.put o.dst v') w') : wpList Tryd.prog ops Q (o :: rest) a w := by
  refine wpList_plain hgd fun K hK => ?_
  obtain ⟨v', w', hr, h1, h2⟩ := append_texts hown hR hz hb hbase o.type
  unfold Oper.wp execOp
  simp only [ho, resolve, invoke, builtin, Sem.run_bind, Sem.run_pure, Result.andThen_ok, List.map_toArray, List.map_cons, List.map_nil, hs, hx, hr]
  exact hK _ _ (h v' w' h1 h2)

theorem sep_kept {u v : Value} (h : Nm.Sep u v) : v.ownBlock = none ∨ v.ownBlock ≠ u.ownBlock := by
  cases hv : v.ownBlock with
  | none => exact .inl rfl
  | some b => exact .inr (fun e => h b e.symm hv)

set_option maxRecDepth 100000 in
set_option maxHeartbeats 8000000 in
theorem whole_yes (SF : FrameC) (SS : ScanC) (ep : Nat) (lv bh : Value) (L B : List (List UInt8)) (w : World) (hep : ep < 4294967296) (hR : RdL w lv L) (hN : L.length ≤ 1000000000000) (hB : Nm.Rd w bh B) (hzB : Nz bh) (hBn : B.length ≤ 1000000000000) (hBt : ∀ t ∈ B, t.length ≤ 140737488350000) :
    Calls Tryd.prog 23 #[.int .u32 (ep : Int), lv, bh] w fun e w' => e = .returned (.bool true) ∧ Below w.heap.size w w' := by
  have c1 := Hid.mk' (laid_any SF ep lv L w hep hR hN)
  have cW := Hid.mk' (fun wx => works_yes SF SS wx)
  obtain ⟨PS, hPS⟩ : ∃ x, L.map (·.take 512) = x := ⟨_, rfl⟩
  have hPl : ∀ p ∈ PS, p.length ≤ 512 := fun p hp => by
    rw [← hPS] at hp
    obtain ⟨q, _, rfl⟩ := List.mem_map.1 hp
    rw [List.length_take]
    omega
  have hPn : PS.length ≤ 1000000000000 := by
    rw [← hPS, List.length_map]
    exact hN
  rw [hPS] at c1
  have HPl := Hid.mk' hPl
  have HBR := Hid.mk' hB
  have HZB := Hid.mk' hzB
  have HBT := Hid.mk' hBt
  obtain ⟨al, cl, rfl, _⟩ := hR
  obtain ⟨nb, hnb⟩ : ∃ x, B.length = x := ⟨_, rfl⟩
  have HNB := Hid.mk' hnb
  obtain ⟨ab, cb, rfl, hcb1, hcb2, hcbx⟩ := hB
  rw [hnb] at HBR HZB hBn ⊢
  have HCB : Hid (0 < nb → ∃ g o t, ab = some ⟨g, o, none⟩ ∧ g < w.heap.size ∧ w.cell? ⟨g, o, none⟩ = some (.string (tx t)) ∧ t ∈ B ∧ B.head? = some t) := fun h0 => by
    obtain ⟨g, o, e1, e2, e3⟩ := hcbx (by omega)
    cases B with
    | nil => simp at hnb; omega
    | cons t B' =>
      have := e3 0 (by simp)
      exact ⟨g, o, t, e1, e2, this, by simp, rfl⟩
  clear hPS hPl hcbx hnb hcb1 hcb2 hBt hzB
  obtain ⟨nl, hnl⟩ : ∃ x, L.length = x := ⟨_, rfl⟩
  rw [hnl] at c1 ⊢
  clear hnl hN
  go_enter Tryd.func23, Tryd.ntmps23
  go_wp2_with fail
  refine c1.out.mono ?_
  rintro e x1 ⟨bv, ov, vs, m, rfl, hL⟩
  have HL := Hid.mk' hL
  have hm3 : m ≤ 3000000000000 := by
    have := flat_take_len ep PS HPl.out
    rw [hL.ml] at this
    omega
  obtain ⟨a1, k1, rfl, _⟩ := Nm.own_shape hL.bl
  obtain ⟨a2, k2, rfl, _⟩ := Nm.own_shape hL.out
  obtain ⟨nv, hnv⟩ : ∃ x, vs.length = x := ⟨_, rfl⟩
  rw [hnv] at HL ⊢
  have HNV := Hid.mk' hnv
  clear hL hnv c1
  go_wp2_with fail
  refine (cW.out _).mono ?_
  rintro e x2 ⟨rfl, hb⟩
  have HL2 := Hid.mk' (HL.out.below hb)
  clear hb HL
  by_cases hcase : ∃ t, B.head? = some t ∧ begins ep t
  · obtain ⟨t, ht1, ht2⟩ := hcase
    have hnb0 : 0 < nb := by
      have := HNB.out
      cases B with
      | nil => simp at ht1
      | cons t B' => simp at this; omega
    obtain ⟨g, o, t', rfl, hg, hc, hmem, hh⟩ := HCB.out hnb0
    obtain rfl : t = t' := by rw [ht1] at hh; exact Option.some.inj hh
    have hcx : x2.cell? ⟨g, o, none⟩ = some (.string (tx t)) := (HL2.out.bel.cell (p := ⟨g, o, none⟩) hg).trans hc
    have cB : Hid (∀ wx, Calls Tryd.prog 46 #[.string (tx t), .int .u32 (ep : Int)] wx fun e w' => e = .returned (.bool true) ∧ Below wx.heap.size wx w') := fun wx => by
      have := begins_any ep t wx hep (by have := HBT.out t hmem; omega)
      rw [decide_eq_true ht2] at this
      exact this
    have hnI : (0 : Int) < (nb : Int) := by omega
    clear hc hh ht1 ht2 hmem
    go_wp2_with fail
    refine (cB.out _).mono ?_
    rintro e x3 ⟨rfl, hb⟩
    have HB3 := Hid.mk' (HL2.out.bel.trans (hb.mono HL2.out.bel.size))
    clear hb hcx
    go_wp2_with fail
    refine (cW.out _).mono ?_
    rintro e x4 ⟨rfl, hb⟩
    have HB4 := Hid.mk' (HB3.out.trans (hb.mono HB3.out.size))
    clear hb
    go_wp2
    go_ret
    exact ⟨rfl, HB4.out⟩
  · by_cases hnb0 : 0 < nb
    · obtain ⟨g, o, t, rfl, hg, hc, hmem, hh⟩ := HCB.out hnb0
      have hcx : x2.cell? ⟨g, o, none⟩ = some (.string (tx t)) := (HL2.out.bel.cell (p := ⟨g, o, none⟩) hg).trans hc
      have cB : Hid (∀ wx, Calls Tryd.prog 46 #[.string (tx t), .int .u32 (ep : Int)] wx fun e w' => e = .returned (.bool false) ∧ Below wx.heap.size wx w') := fun wx => by
        have := begins_any ep t wx hep (by have := HBT.out t hmem; omega)
        rw [decide_eq_false (fun h => hcase ⟨t, hh, h⟩)] at this
        exact this
      have hnI : (0 : Int) < (nb : Int) := by omega
      clear hc hh hmem
      go_wp2_with fail
      refine (cB.out _).mono ?_
      rintro e x3 ⟨rfl, hb⟩
      have HL3 := Hid.mk' (HL2.out.below hb)
      clear hb hcx HL2 cB
      have hby : Hid ((m + B.length) * 16 ≤ 140737488355328) := by show _ ≤ _; have := HNB.out; omega
      go_wp2_with (at_builtin; refine wpList_append_texts rfl _ _ rfl w.heap.size m _ _ _ B rfl rfl HL3.out.bl (HBR.out.below HL3.out.bel) HZB.out hby.out HL3.out.bel.size ?_; intro v' w4 ho hg; have HO4 := Hid.mk' ho; have HW4 := Hid.mk' (HL3.out.out.kept hg (sep_kept HL3.out.sep)); have HB4 : Hid (Below w.heap.size w w4) := Below.grown HL3.out.bel hg HL3.out.bel.size (fun j hj => (HL3.out.bl.lt j hj).1); clear ho hg)
      have HRd : Hid (Nm.Rd w4 v' (flat ep PS ++ B)) := Nm.rd_own (by rw [List.length_append, List.map_append, HL3.out.ml]; exact HO4.out)
      have hsc := scan_whole ep PS B HPl.out (fun b r hb hbe => hcase ⟨b, by rw [hb]; rfl, hbe⟩)
      have CS : Hid (Calls Tryd.prog 29 #[.int .u32 (ep : Int), v'] w4 fun e w' => ∃ r vs', e = .returned (.tuple #[r, nu (m : Int)]) ∧ w'.ownsRow w4.heap.size 23 1 r vs'.length vs' ∧ Rows w' w4.heap.size vs' PS ∧ Below w4.heap.size w4 w') := by
        refine (SS w4 ep v' (flat ep PS ++ B) hep HRd.out (by rw [List.length_append, HL3.out.ml, HNB.out]; omega) (fun t ht => ?_)).mono ?_
        · rcases List.mem_append.1 ht with h | h
          · obtain ⟨q, _, hq⟩ := List.mem_flatMap.1 h
            have := blocks_short ep q t hq
            omega
          · exact HBT.out t h
        · rintro e w' ⟨r, vs', rfl, ho, hr, _, hb⟩
          rw [hsc.1] at hr
          rw [hsc.2, HL3.out.ml]
          exact ⟨r, vs', rfl, ho, hr, hb⟩
      clear hsc HO4 HRd
      refine CS.out.mono ?_
      rintro e x5 ⟨r, vs', rfl, ho5, hr5, hb5⟩
      have HB5 := Hid.mk' (HB4.out.trans (hb5.mono HB4.out.size))
      have HG5 := Hid.mk' (rows_rdl ho5 hr5)
      have HW5 : Hid (RdL x5 (.slice a2 nv k2) PS) := by
        have h1 := own_keptB HW4.out hb5
        rw [← HNV.out] at h1 ⊢
        exact reads_rdl h1 (HL3.out.rd.below HB5.out)
      have C6 := Hid.mk' (same_rows r (.slice a2 nv k2) PS x5 HG5.out HW5.out)
      obtain ⟨a5, k5, rfl, _⟩ := Nm.own_shape ho5
      clear ho5 hr5 hb5 CS HG5 HW5 HW4
      go_wp2_with fail
      refine C6.out.mono ?_
      rintro e x6 ⟨rfl, hb⟩
      have HB6 := Hid.mk' (HB5.out.trans (hb.mono HB5.out.size))
      clear hb C6
      go_wp2
      go_ret
      exact ⟨rfl, HB6.out⟩
    · have hnI : ¬ (0 : Int) < (nb : Int) := by omega
      have hby : Hid ((m + B.length) * 16 ≤ 140737488355328) := by show _ ≤ _; have := HNB.out; omega
      go_wp2_with (at_builtin; refine wpList_append_texts rfl _ _ rfl w.heap.size m _ _ _ B rfl rfl HL2.out.bl (HBR.out.below HL2.out.bel) HZB.out hby.out HL2.out.bel.size ?_; intro v' w4 ho hg; have HO4 := Hid.mk' ho; have HW4 := Hid.mk' (HL2.out.out.kept hg (sep_kept HL2.out.sep)); have HB4 : Hid (Below w.heap.size w w4) := Below.grown HL2.out.bel hg HL2.out.bel.size (fun j hj => (HL2.out.bl.lt j hj).1); clear ho hg)
      have HRd : Hid (Nm.Rd w4 v' (flat ep PS ++ B)) := Nm.rd_own (by rw [List.length_append, List.map_append, HL2.out.ml]; exact HO4.out)
      have hsc := scan_whole ep PS B HPl.out (fun b r hb hbe => hcase ⟨b, by rw [hb]; rfl, hbe⟩)
      have CS : Hid (Calls Tryd.prog 29 #[.int .u32 (ep : Int), v'] w4 fun e w' => ∃ r vs', e = .returned (.tuple #[r, nu (m : Int)]) ∧ w'.ownsRow w4.heap.size 23 1 r vs'.length vs' ∧ Rows w' w4.heap.size vs' PS ∧ Below w4.heap.size w4 w') := by
        refine (SS w4 ep v' (flat ep PS ++ B) hep HRd.out (by rw [List.length_append, HL2.out.ml, HNB.out]; omega) (fun t ht => ?_)).mono ?_
        · rcases List.mem_append.1 ht with h | h
          · obtain ⟨q, _, hq⟩ := List.mem_flatMap.1 h
            have := blocks_short ep q t hq
            omega
          · exact HBT.out t h
        · rintro e w' ⟨r, vs', rfl, ho, hr, _, hb⟩
          rw [hsc.1] at hr
          rw [hsc.2, HL2.out.ml]
          exact ⟨r, vs', rfl, ho, hr, hb⟩
      clear hsc HO4 HRd
      refine CS.out.mono ?_
      rintro e x5 ⟨r, vs', rfl, ho5, hr5, hb5⟩
      have HB5 := Hid.mk' (HB4.out.trans (hb5.mono HB4.out.size))
      have HG5 := Hid.mk' (rows_rdl ho5 hr5)
      have HW5 : Hid (RdL x5 (.slice a2 nv k2) PS) := by
        have h1 := own_keptB HW4.out hb5
        rw [← HNV.out] at h1 ⊢
        exact reads_rdl h1 (HL2.out.rd.below HB5.out)
      have C6 := Hid.mk' (same_rows r (.slice a2 nv k2) PS x5 HG5.out HW5.out)
      obtain ⟨a5, k5, rfl, _⟩ := Nm.own_shape ho5
      clear ho5 hr5 hb5 CS HG5 HW5 HW4
      go_wp2_with fail
      refine C6.out.mono ?_
      rintro e x6 ⟨rfl, hb⟩
      have HB6 := Hid.mk' (HB5.out.trans (hb.mono HB5.out.size))
      clear hb C6
      go_wp2
      go_ret
      exact ⟨rfl, HB6.out⟩
end Rc
end Go.Proofs.YtjnodkjeiogloaaDoor
/- RecordTorn. -/
namespace Go.Proofs.YtjnodkjeiogloaaDoor
set_option linter.ambiguousOpen false
open Go.RowKit
namespace Rc
open Sm Pk
set_option linter.unusedSimpArgs false
set_option linter.unusedVariables false

theorem cell_atR {w : World} {sb j : Nat} {xs : Array Value} {t : TypeId} {v : Value} (h : w.heap[sb]? = some (.cells xs t)) (hj : xs[j]? = some v) : w.cell? ⟨sb, j, none⟩ = some v := by
  simp [World.cell?, h, hj]

/-- Under way: the blocks, the payloads, the torn one's blocks. -/
structure Tn (w0 w : World) (ep : Nat) (PS T : List (List UInt8)) (q : List UInt8) (bv ov mv : Value) (vs : List Value) (m i k : Nat) : Prop where
  bl : w.ownsRow w0.heap.size 9 1 bv (m + i) ((flat ep PS ++ T).map Nm.txt)
  ml : (flat ep PS).length = m
  tl : T.length = i
  nb : ∀ b r, T = b :: r → ¬ begins ep b
  tt : ∀ t ∈ T, t.length ≤ 140737488350000
  out : w.ownsRow w0.heap.size 23 1 ov vs.length vs
  mo : w.ownsRow w0.heap.size 9 1 mv k ((blocks ep q).map Nm.txt)
  sep : Nm.Sep bv ov
  sem : Nm.Sep bv mv
  bel : Below w0.heap.size w0 w

theorem Tn.below {w0 w w' : World} {ep : Nat} {PS T : List (List UInt8)} {q : List UInt8} {bv ov mv : Value} {vs : List Value} {m i k : Nat} (h : Tn w0 w ep PS T q bv ov mv vs m i k) (hb : Below w.heap.size w w') : Tn w0 w' ep PS T q bv ov mv vs m i k :=
  ⟨own_keptB h.bl hb, h.ml, h.tl, h.nb, h.tt, own_keptB h.out hb, own_keptB h.mo hb, h.sep, h.sem, h.bel.trans (hb.mono h.bel.size)⟩

/-- One block more. -/
theorem Tn.more {w0 w w' : World} {ep : Nat} {PS T : List (List UInt8)} {q t : List UInt8} {bv ov mv : Value} {vs : List Value} {m i k g cap : Nat} (h : Tn w0 w ep PS T q bv ov mv vs m i k) (ht : t.length ≤ 140737488350000) (hn : i = 0 → ¬ begins ep t) (ho : w'.ownsRow w0.heap.size 9 1 (.slice (some ⟨g, 0, none⟩) (m + i + 1) cap) (m + i + 1) ((flat ep PS ++ T).map Nm.txt ++ [.string (tx t)])) (hg : w.grownBy w' bv.ownBlock) (hl : bv.ownBlock = some g ∨ g = w.heap.size) : Tn w0 w' ep PS (T ++ [t]) q (.slice (some ⟨g, 0, none⟩) (m + i + 1) cap) ov mv vs m (i + 1) k := by
  have hsp : ∀ {u : Value} {e : TypeId} {n : Nat} {xs : List Value}, w.ownsRow w0.heap.size e 1 u n xs → Nm.Sep bv u → Nm.Sep (.slice (some ⟨g, 0, none⟩) (m + i + 1) cap) u := fun hu hs b hb1 hb2 => by
    have e : g = b := by simpa [Value.ownBlock] using hb1
    subst e
    rcases hl with hl | hl
    · exact hs g hl hb2
    · have := (hu.lt g hb2).2
      omega
  refine ⟨?_, h.ml, by rw [List.length_append, h.tl]; rfl, ?_, ?_, h.out.kept hg (sep_kept h.sep), h.mo.kept hg (sep_kept h.sem), hsp h.out h.sep, hsp h.mo h.sem, Below.grown h.bel hg h.bel.size (fun j hj => (h.bl.lt j hj).1)⟩
  · rw [← List.append_assoc, List.map_append]
    exact ho
  · intro b r hb
    cases T with
    | nil =>
      have h0 := h.tl
      simp at hb
      rw [← hb.1]
      exact hn (by simpa using h0.symm)
    | cons c T' =>
      simp at hb
      rw [← hb.1]
      exact h.nb c T' rfl
  · intro x hx
    rcases List.mem_append.1 hx with hx | hx
    · exact h.tt x hx
    · simp at hx
      subst hx
      exact ht

set_option maxRecDepth 100000 in
set_option maxHeartbeats 16000000 in
theorem torn_yes (SF : FrameC) (SS : ScanC) (ep : Nat) (lv pv bf : Value) (th : Int) (L B : List (List UInt8)) (p : List UInt8) (w : World) (hep : ep < 4294967296) (hR : RdL w lv L) (hN : L.length ≤ 1000000000000) (hp : RdB w pv p) (hzp : Nz pv) (hth : -9223372036854775808 ≤ th ∧ th ≤ 9223372036854775807) (hB : Nm.Rd w bf B) (hBt : ∀ t ∈ B, t.length ≤ 140737488350000) :
    Calls Tryd.prog 24 #[.int .u32 (ep : Int), lv, .agg #[pv, nu th, bf]] w fun e w' => e = .returned (.bool true) ∧ Below w.heap.size w w' := by
  obtain ⟨i0, ji, hz0, hz1, hz2⟩ := info_parts (show (Tryd.prog.info? 9).map (fun i => (i.zero, i.size, i.bytes)) = some (some (.string ⟨#[]⟩), 1, 16) by kernel_rfl)
  obtain ⟨np, hnp⟩ : ∃ x, p.length = x := ⟨_, rfl⟩
  obtain ⟨nb, hnb⟩ : ∃ x, B.length = x := ⟨_, rfl⟩
  obtain ⟨nl, hnl⟩ : ∃ x, L.length = x := ⟨_, rfl⟩
  have HP := Hid.mk' hp
  have HB := Hid.mk' hB
  have HRL := Hid.mk' hR
  obtain ⟨ap, cp, rfl, _⟩ := hp
  obtain ⟨ab, cb, rfl, hcb1, hcb2, hcbx⟩ := hB
  obtain ⟨al, cl, rfl, _⟩ := hR
  rw [hnp] at HP hzp ⊢
  rw [hnb] at HB hcb1 ⊢
  rw [hnl] at HRL ⊢
  have HCB : Hid (∀ i, i < nb → ∃ g o t, ab = some ⟨g, o, none⟩ ∧ g < w.heap.size ∧ w.cell? ⟨g, o + i, none⟩ = some (.string (tx t)) ∧ t ∈ B) := fun i hi => by
    obtain ⟨g, o, e1, e2, e3⟩ := hcbx (by omega)
    exact ⟨g, o, B[i]'(by omega), e1, e2, e3 i (by omega), List.getElem_mem _⟩
  have hB0 : Hid (Below w.heap.size w (w.alloc (.cells #[.slice ap np cp, nu th, .slice ab nb cb] 53))) := (Below.refl _ _).alloc (Nat.le_refl _) _
  have HBX : Hid ((w.alloc (.cells #[.slice ap np cp, nu th, .slice ab nb cb] 53)).heap[w.heap.size]? = some (.cells #[.slice ap np cp, nu th, .slice ab nb cb] 53)) := heap_alloc_new _ _
  obtain ⟨w0, hw0⟩ : ∃ x, w.alloc (.cells #[.slice ap np cp, nu th, .slice ab nb cb] 53) = x := ⟨_, rfl⟩
  have hsz0 : w.heap.size < w0.heap.size := by rw [← hw0]; simp
  have HSZ := Hid.mk' hsz0
  have c1 := Hid.mk' (laid_any SF ep (.slice al nl cl) L w0 hep (by rw [← hw0]; exact HRL.out.below hB0.out) hN)
  rw [hw0] at hB0 HBX
  have cW := Hid.mk' (fun wx => works_yes SF SS wx)
  obtain ⟨PS, hPS⟩ : ∃ x, L.map (·.take 512) = x := ⟨_, rfl⟩
  have HPl : Hid (∀ p ∈ PS, p.length ≤ 512) := fun p hp => by
    rw [← hPS] at hp
    obtain ⟨q, _, rfl⟩ := List.mem_map.1 hp
    rw [List.length_take]
    omega
  have hPn : PS.length ≤ 1000000000000 := by
    rw [← hPS, List.length_map]
    exact hN
  rw [hPS] at c1
  have HNP := Hid.mk' hnp
  have HZP := Hid.mk' hzp
  have HBT := Hid.mk' hBt
  have HTH := Hid.mk' hth
  have HW0 := Hid.mk' hw0
  clear hPS hcbx hnb hnl hnp hcb1 hcb2 hBt hzp hth hN hsz0
  go_enter Tryd.func24, Tryd.ntmps24
  go_wp2_with fail
  refine c1.out.mono ?_
  rintro e x1 ⟨bv, ov, vs, m, rfl, hL⟩
  have HL1 := Hid.mk' hL
  have hm3 : m ≤ 3000000000000 := by
    have := flat_take_len ep PS HPl.out
    rw [hL.ml] at this
    omega
  obtain ⟨a1, k1, rfl, _⟩ := Nm.own_shape hL.bl
  obtain ⟨a2, k2, rfl, _⟩ := Nm.own_shape hL.out
  obtain ⟨nv, hnv⟩ : ∃ x, vs.length = x := ⟨_, rfl⟩
  rw [hnv] at HL1 ⊢
  have HNV := Hid.mk' hnv
  have hx1 : ∀ wx : World, Below w0.heap.size w0 wx → wx.heap[w.heap.size]? = some (.cells #[.slice ap np cp, nu th, .slice ab nb cb] 53) := fun wx hb => (hb.block _ HSZ.out).trans HBX.out
  have HX := Hid.mk' hx1
  have p0 := cell_atR (j := 0) (hx1 _ hL.bel) rfl
  have C2 := Hid.mk' (cut_any ap cp np p x1 HNP.out (HP.out.below (hB0.out.trans (hL.bel.mono hB0.out.size))) HZP.out)
  obtain ⟨k, hk⟩ : ∃ x, (blocks ep (p.take 512)).length = x := ⟨_, rfl⟩
  have hpl : (p.take 512).length ≤ 512 := by rw [List.length_take]; omega
  have hk3 : 1 ≤ k ∧ k ≤ 3 := by
    rw [← hk, blocks_len]
    omega
  have C3 : Hid (∀ wx v, RdB wx v (p.take 512) → Nz v → Calls Tryd.prog 6 #[.int .u32 (ep : Int), v] wx fun e w' => ∃ gr cr, e = .returned (.tuple #[.slice (some ⟨gr, 0, none⟩) k cr, .nilIface]) ∧ w'.ownsRow wx.heap.size 9 1 (.slice (some ⟨gr, 0, none⟩) k cr) k ((blocks ep (p.take 512)).map Nm.txt) ∧ Below wx.heap.size wx w') := fun wx v hv hz => by
    refine (SF wx ep v (p.take 512) hep hv hz (by omega)).mono ?_
    rintro e w' ⟨r, rfl, ho, hb⟩
    rw [framed, if_neg (by omega)] at ho
    rw [if_neg (by omega)]
    rw [hk] at ho
    rcases ho.2 with ⟨rfl, h0⟩ | ⟨gr, cr, cur, rfl, _⟩
    · omega
    · exact ⟨gr, cr, rfl, ho, hb⟩
  have HKK := Hid.mk' hk
  clear hL hnv c1 hx1 hk hpl
  go_wp2_with fail
  refine C2.out.mono ?_
  rintro e x2 ⟨⟨m', rfl, hml, hrd, hz'⟩, rfl⟩
  have D3 := Hid.mk' (C3.out _ _ hrd hz')
  clear hml hrd hz' C2 C3 p0
  go_wp2_with fail
  refine D3.out.mono ?_
  rintro e x3 ⟨gr, cr, rfl, ho, hb⟩
  have HT3 : Hid (Tn w0 x3 ep PS [] (p.take 512) (.slice a1 m k1) (.slice a2 nv k2) (.slice (some ⟨gr, 0, none⟩) k cr) vs m 0 k) := by
    have hL3 := HL1.out.below hb
    refine ⟨by rw [List.append_nil]; exact hL3.bl, hL3.ml, rfl, fun b r h => by simp at h, fun t h => by simp at h, hL3.out, own_mono ho HL1.out.bel.size, hL3.sep, ?_, hL3.bel⟩
    exact sep_later HL1.out.bl ho (Nat.le_refl _)
  have HRD := Hid.mk' HL1.out.rd
  clear ho hb D3 HL1
  go_wp2_with fail
  refine (cW.out _).mono ?_
  rintro e x4 ⟨rfl, hb⟩
  have HT4 := Hid.mk' (HT3.out.below hb)
  clear hb HT3 cW
  have q1 := cell_atR (j := 1) (HX.out _ HT4.out.bel) rfl
  obtain ⟨y, hy⟩ : ∃ y : Nat, th % (k : Int) = (y : Int) := ⟨(th % (k : Int)).toNat, by rw [Int.toNat_of_nonneg (Int.emod_nonneg _ (by omega))]⟩
  have hyk : y < k := by
    have := Int.emod_lt_of_pos th (by omega : (0 : Int) < (k : Int))
    omega
  have C5 : Hid (Calls Tryd.prog 49 #[nu th, nu (k : Int)] x4 fun e w' => e = .returned (nu (y : Int)) ∧ w' = x4) := by
    have := pick_any th k x4 (by omega) (by omega) HTH.out
    rw [hy] at this
    exact this
  have hkI : ((k : Int) == 0) = false := beq_eq_false_iff_ne.2 (by omega)
  clear hy
  go_wp2_with fail
  refine C5.out.mono ?_
  rintro e x5 ⟨rfl, rfl⟩
  clear C5 q1
  go_wp2
  go_loopw [7, 14, 15] (fun bv iv _ wr => ∃ (i : Nat) (T : List (List UInt8)), i ≤ k ∧ iv = nu (i : Int) ∧ Hid (Tn w0 wr ep PS T (p.take 512) bv (.slice a2 nv k2) (.slice (some ⟨gr, 0, none⟩) k cr) vs m i k)) (fun _ iv _ _ => k - (intOf iv).toNat)
  case atStart => exact ⟨0, [], Nat.zero_le _, rfl, HT4⟩
  case round =>
  clear HT4
  obtain ⟨i, T, hi, rfl, hT⟩ := hrel
  by_cases hik : i < k
  · have q2 := cell_atR (j := 2) (HX.out _ hT.out.bel) rfl
    have hiI : (i : Int) < (k : Int) := by omega
    have hi0 : (0 : Int) ≤ (i : Int) := by omega
    obtain ⟨mt, hmt, hmtl⟩ : ∃ mt, wr.cell? ⟨gr, i, none⟩ = some (.string (tx mt)) ∧ mt.length ≤ 140737488350000 := by
      have hjb : i < (blocks ep (p.take 512)).length := by rw [HKK.out]; exact hik
      refine ⟨(blocks ep (p.take 512))[i], ?_, by have := blocks_short ep (p.take 512) _ (List.getElem_mem hjb); omega⟩
      have := hT.out.mo.cells (g := gr) rfl i (Nm.txt (blocks ep (p.take 512))[i]) (by rw [List.getElem?_map, List.getElem?_eq_getElem hjb]; rfl)
      rw [Addr.add_lit, Nat.zero_add] at this
      exact this
    have hmx : Hid (m + i + 1 ≤ maxLen) := by show _ ≤ _; unfold maxLen; omega
    have hby : Hid ((m + i + 1) * 16 ≤ 140737488355328) := by show _ ≤ _; omega
    have cB : Hid (∀ wx t, t.length ≤ 140737488350000 → Calls Tryd.prog 46 #[.string (tx t), .int .u32 (ep : Int)] wx fun e w' => e = .returned (.bool (decide (begins ep t))) ∧ Below wx.heap.size wx w') := fun wx t ht => begins_any ep t wx hep (by omega)
    by_cases hib : i < nb
    · obtain ⟨g, o, t, rfl, hg, hc, hmem⟩ := HCB.out i hib
      have hct : wr.cell? ⟨g, o + i, none⟩ = some (.string (tx t)) := ((hB0.out.trans (hT.out.bel.mono hB0.out.size)).cell (p := ⟨g, o + i, none⟩) hg).trans hc
      have htl := HBT.out t hmem
      have hibI : (i : Int) < (nb : Int) := by omega
      clear hc hmem
      by_cases hi00 : i = 0
      · subst hi00
        rw [Nat.add_zero] at hct
        have C := Hid.mk' (cB.out wr t htl)
        by_cases hbg : begins ep t
        · rw [decide_eq_true hbg] at C
          go_wp2_with fail
          refine C.out.mono ?_
          rintro e x6 ⟨rfl, hb⟩
          have HB6 := Hid.mk' (hB0.out.trans ((hT.out.bel.trans (hb.mono hT.out.bel.size)).mono hB0.out.size))
          clear hb
          go_wp2
          go_ret
          exact ⟨rfl, HB6.out⟩
        · rw [decide_eq_false hbg] at C
          have HBG := Hid.mk' hbg
          have hky : ¬ (k : Int) - (y : Int) ≤ 0 := by omega
          clear hbg
          go_wp2_with fail
          refine C.out.mono ?_
          rintro e x6 ⟨rfl, hb⟩
          have HT6 := Hid.mk' (hT.out.below hb)
          clear hb C
          clear hmt q2 hct
          have hone : Hid (∀ x ∈ [Value.string (tx t)], x.oneCell' = true) := by intro x hx; simp at hx; subst hx; rfl
          go_wp2_with (at_builtin; refine wpList_append_lies _ rfl _ _ 25 rfl w0.heap.size 9 i0 (.string ⟨#[]⟩) 1 16 Tryd.underlying25 ji hz0 hz1 hz2 rfl (by decide) _ (m + 0) _ rfl (HT6.out.bl.alloc _) ⟨x6.heap.size, 0, none⟩ 1 1 [.string (tx t)] rfl rfl (cell_one_new _ _ _) hone.out (by decide) hmx.out hby.out (by have := HT6.out.bel.size; simp; omega) _ rfl ?_; intro g3 c3 w3 ho hg hl hlt; have HT9 := Hid.mk' (Tn.more (HT6.out.below ((Below.refl _ _).alloc (Nat.le_refl _) _)) htl (fun _ => HBG.out) ho hg hl); clear ho hg hl hlt)
          first
            | (refine ⟨⟨0 + 1, T ++ [t], by omega, by go_num, HT9⟩, ?_⟩; simp [intOf]; omega)
            | (go_roundw; (case rel => exact ⟨0 + 1, T ++ [t], by omega, by go_num, HT9⟩); (case measure => simp [intOf]; omega))
      · have hi1 : ((i : Int) == 0) = false := beq_eq_false_iff_ne.2 (by omega)
        by_cases hky : k - y ≤ i
        · have hkI2 : (k : Int) - (y : Int) ≤ (i : Int) := by omega
          have hone : Hid (∀ x ∈ [Value.string (tx mt)], x.oneCell' = true) := by intro x hx; simp at hx; subst hx; rfl
          go_wp2_with (at_builtin; refine wpList_append_lies _ rfl _ _ 25 rfl w0.heap.size 9 i0 (.string ⟨#[]⟩) 1 16 Tryd.underlying25 ji hz0 hz1 hz2 rfl (by decide) _ (m + i) _ rfl (hT.out.bl.alloc _) ⟨wr.heap.size, 0, none⟩ 1 1 [.string (tx mt)] rfl rfl (cell_one_new _ _ _) hone.out (by decide) hmx.out hby.out (by have := hT.out.bel.size; simp; omega) _ rfl ?_; intro g3 c3 w3 ho hg hl hlt; have HT9 := Hid.mk' (Tn.more (hT.out.below ((Below.refl _ _).alloc (Nat.le_refl _) _)) hmtl (fun h => absurd h hi00) ho hg hl); clear ho hg hl hlt)
          first
            | (refine ⟨⟨i + 1, T ++ [mt], by omega, by go_num, HT9⟩, ?_⟩; simp [intOf]; omega)
            | (go_roundw; (case rel => exact ⟨i + 1, T ++ [mt], by omega, by go_num, HT9⟩); (case measure => simp [intOf]; omega))
        · have hkI2 : ¬ (k : Int) - (y : Int) ≤ (i : Int) := by omega
          have hone : Hid (∀ x ∈ [Value.string (tx t)], x.oneCell' = true) := by intro x hx; simp at hx; subst hx; rfl
          go_wp2_with (at_builtin; refine wpList_append_lies _ rfl _ _ 25 rfl w0.heap.size 9 i0 (.string ⟨#[]⟩) 1 16 Tryd.underlying25 ji hz0 hz1 hz2 rfl (by decide) _ (m + i) _ rfl (hT.out.bl.alloc _) ⟨wr.heap.size, 0, none⟩ 1 1 [.string (tx t)] rfl rfl (cell_one_new _ _ _) hone.out (by decide) hmx.out hby.out (by have := hT.out.bel.size; simp; omega) _ rfl ?_; intro g3 c3 w3 ho hg hl hlt; have HT9 := Hid.mk' (Tn.more (hT.out.below ((Below.refl _ _).alloc (Nat.le_refl _) _)) htl (fun h => absurd h hi00) ho hg hl); clear ho hg hl hlt)
          first
            | (refine ⟨⟨i + 1, T ++ [t], by omega, by go_num, HT9⟩, ?_⟩; simp [intOf]; omega)
            | (go_roundw; (case rel => exact ⟨i + 1, T ++ [t], by omega, by go_num, HT9⟩); (case measure => simp [intOf]; omega))
    · have hibI : ¬ (i : Int) < (nb : Int) := by omega
      have htl : ([] : List UInt8).length ≤ 140737488350000 := by decide
      by_cases hi00 : i = 0
      · subst hi00
        have C := Hid.mk' (cB.out wr ([] : List UInt8) htl)
        by_cases hbg : begins ep ([] : List UInt8)
        · rw [decide_eq_true hbg] at C
          go_wp2_with fail
          refine C.out.mono ?_
          rintro e x6 ⟨rfl, hb⟩
          have HB6 := Hid.mk' (hB0.out.trans ((hT.out.bel.trans (hb.mono hT.out.bel.size)).mono hB0.out.size))
          clear hb
          go_wp2
          go_ret
          exact ⟨rfl, HB6.out⟩
        · rw [decide_eq_false hbg] at C
          have HBG := Hid.mk' hbg
          have hky : ¬ (k : Int) - (y : Int) ≤ 0 := by omega
          clear hbg
          go_wp2_with fail
          refine C.out.mono ?_
          rintro e x6 ⟨rfl, hb⟩
          have HT6 := Hid.mk' (hT.out.below hb)
          clear hb C
          clear hmt q2
          have hone : Hid (∀ x ∈ [Value.string ⟨#[]⟩], x.oneCell' = true) := by intro x hx; simp at hx; subst hx; rfl
          go_wp2_with (at_builtin; refine wpList_append_lies _ rfl _ _ 25 rfl w0.heap.size 9 i0 (.string ⟨#[]⟩) 1 16 Tryd.underlying25 ji hz0 hz1 hz2 rfl (by decide) _ (m + 0) _ rfl (HT6.out.bl.alloc _) ⟨x6.heap.size, 0, none⟩ 1 1 [.string ⟨#[]⟩] rfl rfl (cell_one_new _ _ _) hone.out (by decide) hmx.out hby.out (by have := HT6.out.bel.size; simp; omega) _ rfl ?_; intro g3 c3 w3 ho hg hl hlt; have HT9 := Hid.mk' (Tn.more (HT6.out.below ((Below.refl _ _).alloc (Nat.le_refl _) _)) htl (fun _ => HBG.out) ho hg hl); clear ho hg hl hlt)
          first
            | (refine ⟨⟨0 + 1, T ++ [([] : List UInt8)], by omega, by go_num, HT9⟩, ?_⟩; simp [intOf]; omega)
            | (go_roundw; (case rel => exact ⟨0 + 1, T ++ [([] : List UInt8)], by omega, by go_num, HT9⟩); (case measure => simp [intOf]; omega))
      · have hi1 : ((i : Int) == 0) = false := beq_eq_false_iff_ne.2 (by omega)
        by_cases hky : k - y ≤ i
        · have hkI2 : (k : Int) - (y : Int) ≤ (i : Int) := by omega
          have hone : Hid (∀ x ∈ [Value.string (tx mt)], x.oneCell' = true) := by intro x hx; simp at hx; subst hx; rfl
          go_wp2_with (at_builtin; refine wpList_append_lies _ rfl _ _ 25 rfl w0.heap.size 9 i0 (.string ⟨#[]⟩) 1 16 Tryd.underlying25 ji hz0 hz1 hz2 rfl (by decide) _ (m + i) _ rfl (hT.out.bl.alloc _) ⟨wr.heap.size, 0, none⟩ 1 1 [.string (tx mt)] rfl rfl (cell_one_new _ _ _) hone.out (by decide) hmx.out hby.out (by have := hT.out.bel.size; simp; omega) _ rfl ?_; intro g3 c3 w3 ho hg hl hlt; have HT9 := Hid.mk' (Tn.more (hT.out.below ((Below.refl _ _).alloc (Nat.le_refl _) _)) hmtl (fun h => absurd h hi00) ho hg hl); clear ho hg hl hlt)
          first
            | (refine ⟨⟨i + 1, T ++ [mt], by omega, by go_num, HT9⟩, ?_⟩; simp [intOf]; omega)
            | (go_roundw; (case rel => exact ⟨i + 1, T ++ [mt], by omega, by go_num, HT9⟩); (case measure => simp [intOf]; omega))
        · have hkI2 : ¬ (k : Int) - (y : Int) ≤ (i : Int) := by omega
          have hone : Hid (∀ x ∈ [Value.string ⟨#[]⟩], x.oneCell' = true) := by intro x hx; simp at hx; subst hx; rfl
          go_wp2_with (at_builtin; refine wpList_append_lies _ rfl _ _ 25 rfl w0.heap.size 9 i0 (.string ⟨#[]⟩) 1 16 Tryd.underlying25 ji hz0 hz1 hz2 rfl (by decide) _ (m + i) _ rfl (hT.out.bl.alloc _) ⟨wr.heap.size, 0, none⟩ 1 1 [.string ⟨#[]⟩] rfl rfl (cell_one_new _ _ _) hone.out (by decide) hmx.out hby.out (by have := hT.out.bel.size; simp; omega) _ rfl ?_; intro g3 c3 w3 ho hg hl hlt; have HT9 := Hid.mk' (Tn.more (hT.out.below ((Below.refl _ _).alloc (Nat.le_refl _) _)) htl (fun h => absurd h hi00) ho hg hl); clear ho hg hl hlt)
          first
            | (refine ⟨⟨i + 1, T ++ [([] : List UInt8)], by omega, by go_num, HT9⟩, ?_⟩; simp [intOf]; omega)
            | (go_roundw; (case rel => exact ⟨i + 1, T ++ [([] : List UInt8)], by omega, by go_num, HT9⟩); (case measure => simp [intOf]; omega))
  · obtain rfl : i = k := by omega
    have HRd : Hid (Nm.Rd wr u7 (flat ep PS ++ T)) := Nm.rd_own (by rw [List.length_append, hT.out.ml, hT.out.tl]; exact hT.out.bl)
    have hsc := scan_whole ep PS T HPl.out hT.out.nb
    have CS : Hid (Calls Tryd.prog 29 #[.int .u32 (ep : Int), u7] wr fun e w' => ∃ r vs', e = .returned (.tuple #[r, nu (m : Int)]) ∧ w'.ownsRow wr.heap.size 23 1 r vs'.length vs' ∧ Rows w' wr.heap.size vs' PS ∧ Below wr.heap.size wr w') := by
      refine (SS wr ep u7 (flat ep PS ++ T) hep HRd.out (by rw [List.length_append, hT.out.ml, hT.out.tl]; omega) (fun t ht => ?_)).mono ?_
      · rcases List.mem_append.1 ht with h | h
        · obtain ⟨q, _, hq⟩ := List.mem_flatMap.1 h
          have := blocks_short ep q t hq
          omega
        · exact hT.out.tt t h
      · rintro e w' ⟨r, vs', rfl, ho, hr, _, hb⟩
        rw [hsc.1] at hr
        rw [hsc.2, hT.out.ml]
        exact ⟨r, vs', rfl, ho, hr, hb⟩
    clear hsc HRd
    go_wp2_with fail
    refine CS.out.mono ?_
    rintro e x7 ⟨r, vs', rfl, ho5, hr5, hb5⟩
    have HB7 := Hid.mk' (hT.out.bel.trans (hb5.mono hT.out.bel.size))
    have HG7 := Hid.mk' (rows_rdl ho5 hr5)
    have HW7 : Hid (RdL x7 (.slice a2 nv k2) PS) := by
      have h1 := own_keptB hT.out.out hb5
      rw [← HNV.out] at h1 ⊢
      exact reads_rdl h1 (HRD.out.below HB7.out)
    have C8 := Hid.mk' (same_rows r (.slice a2 nv k2) PS x7 HG7.out HW7.out)
    obtain ⟨a5, k5, rfl, _⟩ := Nm.own_shape ho5
    clear ho5 hr5 hb5 CS HG7 HW7
    go_wp2_with fail
    refine C8.out.mono ?_
    rintro e x8 ⟨rfl, hb⟩
    have HB8 := Hid.mk' (hB0.out.trans ((HB7.out.trans (hb.mono HB7.out.size)).mono hB0.out.size))
    clear hb C8
    go_wp2
    go_ret
    exact ⟨rfl, HB8.out⟩
end Rc
end Go.Proofs.YtjnodkjeiogloaaDoor
/- The closed law's payloads, and payloads of all lengths. -/
namespace Go.Proofs.YtjnodkjeiogloaaDoor
set_option linter.ambiguousOpen false
open Go.RowKit
namespace Rc
open Sm Pk
set_option linter.unusedSimpArgs false
set_option linter.unusedVariables false

/-- A payload of so many bytes. -/
def payR (n : Nat) : List UInt8 := (List.range n).map (fun i : Nat => UInt8.ofNat (7 * i % 256))

theorem payR_len (n : Nat) : (payR n).length = n := by simp [payR]

theorem payR_succ (n : Nat) : payR (n + 1) = payR n ++ [UInt8.ofNat (7 * n % 256)] := by simp [payR, List.range_succ]

set_option maxRecDepth 100000 in
set_option maxHeartbeats 1000000 in
theorem row_any (n : Nat) (w : World) (hn : n ≤ 1000000) :
    Calls Tryd.prog 22 #[nu (n : Int)] w fun e w' => ∃ x, e = .returned x ∧ w'.ownsRow w.heap.size 5 1 x n ((payR n).map by1) ∧ Below w.heap.size w w' := by
  obtain ⟨i0, ji, hz0, hz1, hz2⟩ := info_parts info_byte
  go_enter Tryd.func22, Tryd.ntmps22
  go_wp2
  go_loopw [3, 4] (fun lv iv wr => ∃ (k : Nat), k ≤ n ∧ iv = nu (k : Int) ∧ Hid (wr.ownsRow w.heap.size 5 1 lv k ((payR k).map by1)) ∧ Hid (Below w.heap.size w wr)) (fun _ iv _ => n - (intOf iv).toNat)
  case atStart => exact ⟨0, by omega, rfl, World.ownsRow_nil _ _ _ _, Below.refl _ _⟩
  case round =>
    obtain ⟨k, hk, rfl, hO, hB⟩ := hrel
    by_cases hc : k < n
    · have hc' : (k : Int) < (n : Int) := by omega
      have hmx : Hid (k + 1 ≤ maxLen) := by show _ ≤ _; unfold maxLen; omega
      have hby : Hid ((k + 1) * 1 ≤ 140737488355328) := by show _ ≤ _; omega
      have hws : Hid (w.heap.size ≤ wr.heap.size) := hB.out.size
      obtain ⟨y, hy⟩ : ∃ y : Nat, 7 * k % 256 = y := ⟨_, rfl⟩
      have hyI : (k : Int) * 7 % 256 = (y : Int) := by omega
      have hb1 : Hid (by1 (UInt8.ofNat y) = .int .u8 (y : Int)) := by
        show Value.int .u8 _ = _
        rw [UInt8.toNat_ofNat_of_lt' (by omega : y < 2 ^ 8)]
      have hS : Hid ((payR (k + 1)).map by1 = (payR k).map by1 ++ [.int .u8 (y : Int)]) := by
        show _ = _
        rw [payR_succ, hy, List.map_append, ← hb1.out]
        rfl
      have hone : Hid (∀ x ∈ [Value.int .u8 (y : Int)], x.oneCell' = true) := by intro x hx; simp at hx; subst hx; rfl
      clear hy hb1
      go_wp2_with (at_builtin; refine wpList_append_own _ rfl _ _ 23 rfl w.heap.size 5 i0 (.int .u8 0) 1 1 Tryd.underlying23 ji hz0 hz1 hz2 rfl (by decide) _ _ _ rfl (hO.out.alloc _) ⟨wr.heap.size, 0, none⟩ 1 1 [.int .u8 (y : Int)] rfl rfl (cell_one_new _ _ _) hone.out hmx.out hby.out (by have := hws.out; simp; omega) ?_; intro v' w4 hown4 hgrow _; rw [← hS.out] at hown4; have hO4 := Hid.mk' hown4; have hB4 : Hid (Below w.heap.size w w4) := Below.grown (hB.out.alloc hws.out _) hgrow (by have := hws.out; simp; omega) (fun k hk => (hO.out.lt k hk).1); clear hown4 hgrow)
      go_wp2
      go_roundw
      case rel => exact ⟨k + 1, by omega, by go_num, hO4, hB4⟩
      case measure => simp [intOf]; omega
    · obtain rfl : k = n := by omega
      go_wp2
      go_ret
      exact ⟨_, rfl, hO.out, hB.out⟩

/-- A list of rows that was written out, in a block of its own. -/
theorem rdl_lit {W : World} {B n : Nat} {cs : Array Value} {ps : List (List UInt8)} (hb : W.heap[B]? = some (.cells cs 23 (0, 0))) (hn : ps.length = n) (h : ∀ (j : Nat) (p : List UInt8), ps[j]? = some p → ∃ u, cs[j]? = some u ∧ RdB W u p ∧ Nz u) (hm : n ≤ 1000) : RdL W (.slice (some ⟨B, 0, none⟩) n n) ps := by
  subst hn
  refine ⟨_, _, rfl, Nat.le_refl _, by unfold maxLen; omega, fun _ => ⟨B, 0, rfl, (Array.getElem?_eq_some_iff.1 hb).1, fun j p hj => ?_⟩⟩
  obtain ⟨u, h1, h2, h3⟩ := h j p hj
  refine ⟨u, ?_, h2, h3⟩
  rw [Nat.zero_add, World.cell?]
  simp only [hb]
  exact h1

/-- A list of texts that was written out. -/
theorem rd_lit {W : World} {B n : Nat} {cs : Array Value} {ls : List (List UInt8)} (hb : W.heap[B]? = some (.cells cs 9 (0, 0))) (hn : ls.length = n) (h : cs.toList = ls.map Nm.txt) (hm : n ≤ 1000) : Nm.Rd W (.slice (some ⟨B, 0, none⟩) n n) ls := by
  subst hn
  refine ⟨_, _, rfl, Nat.le_refl _, by unfold maxLen; omega, fun _ => ⟨B, 0, rfl, (Array.getElem?_eq_some_iff.1 hb).1, fun j hj => ?_⟩⟩
  rw [Nat.zero_add, World.cell?]
  simp only [hb]
  have : cs[j]? = cs.toList[j]? := by simp
  rw [this, h, List.getElem?_map, List.getElem?_eq_getElem hj]
  rfl

theorem alloc2 (W : World) (a b : Obj) : ((W.alloc a).alloc b).heap[W.heap.size]? = some a ∧ ((W.alloc a).alloc b).heap[W.heap.size + 1]? = some b ∧ Below W.heap.size W ((W.alloc a).alloc b) := by
  refine ⟨(Below.heap_alloc _ _ _ (by simp)).trans (heap_alloc_new W a), ?_, ((Below.refl _ W).alloc (Nat.le_refl _) _).alloc (by simp) _⟩
  have := heap_alloc_new (W.alloc a) b
  simpa using this

theorem alloc3 (W : World) (a b c : Obj) : (((W.alloc a).alloc b).alloc c).heap[W.heap.size]? = some a ∧ (((W.alloc a).alloc b).alloc c).heap[W.heap.size + 1]? = some b ∧ (((W.alloc a).alloc b).alloc c).heap[W.heap.size + 2]? = some c ∧ Below W.heap.size W (((W.alloc a).alloc b).alloc c) := by
  obtain ⟨h1, h2, h3⟩ := alloc2 W a b
  refine ⟨(Below.heap_alloc _ _ _ (by simp; omega)).trans h1, (Below.heap_alloc _ _ _ (by simp)).trans h2, ?_, h3.alloc h3.size _⟩
  have := heap_alloc_new ((W.alloc a).alloc b) c
  simpa using this

set_option maxRecDepth 100000 in
set_option maxHeartbeats 4000000 in
theorem knownLengths_yes (w : World) (hg : Er.Handle w) : Calls Tryd.prog 12 #[] w fun e w' => e = .returned (.bool true) ∧ Below w.heap.size w w' := by
  have HH := Hid.mk' hg
  clear hg
  go_enter Tryd.func12, Tryd.ntmps12
  go_wp2
  go_loopw [1, 2, 3] (fun nv _ _ wr => ∃ n : Nat, n ≤ 516 ∧ nv = nu (n : Int) ∧ Hid (Below w.heap.size w wr)) (fun nv _ _ _ => 516 - (intOf nv).toNat)
  case atStart => exact ⟨0, by omega, rfl, Below.refl _ _⟩
  case round =>
  rename World => WR
  obtain ⟨n, hn, rfl, HB⟩ := hrel
  by_cases hc : n ≤ 515
  · have hcI : (n : Int) ≤ 515 := by omega
    have c1 := Hid.mk' (row_any n WR (by omega))
    go_wp2_with fail
    refine c1.out.mono ?_
    rintro e W1 ⟨x, rfl, ho, hb⟩
    have HB1 := Hid.mk' (HB.out.trans (hb.mono HB.out.size))
    have HP := Hid.mk' (own_rd' ho (payR_len n))
    have HZ := Hid.mk' (nz_own ho)
    obtain ⟨xa, xc, rfl, hxc, hxm, _⟩ := Nm.own_shape ho
    unfold maxLen at hxm
    have c2 := Hid.mk' (frames_yes Pr.frame_p n (.slice xa n xc) (payR n) W1 (by omega) HP.out HZ.out (by rw [payR_len]; omega) (HH.out.below HB1.out))
    clear ho hb c1
    have hu : IntKind.u32.wrap (n : Int) = (n : Int) := by rw [IntKind.wrap_u32]; omega
    go_wp2_with fail
    refine c2.out.mono ?_
    rintro e W2 ⟨rfl, hb2⟩
    have HB2 := Hid.mk' (HB1.out.trans (hb2.mono HB1.out.size))
    have HP2 := Hid.mk' (HP.out.below hb2)
    clear hb2 c2 HP
    obtain ⟨h2, hh2⟩ : ∃ x, n / 2 = x := ⟨_, rfl⟩
    have e21 : (n : Int).tdiv 2 = (h2 : Int) := by rw [Int.tdiv_eq_ediv_of_nonneg (by omega)]; omega
    have e22 : (n : Int) / 2 = (h2 : Int) := by omega
    have hl2 : h2 ≤ n := by omega
    have hsl2 := fun wx => slice_to xa n xc h2 (by omega) wx
    have HT2 : Hid (∀ wx, RdB wx (.slice xa n xc) (payR n) → RdB wx (.slice xa h2 xc) ((payR n).take h2)) := fun wx h => by
      have h' : RdB wx (.slice xa (payR n).length xc) (payR n) := by rw [payR_len]; exact h
      exact h'.take h2 (by rw [payR_len]; exact hl2)
    have hz2 : Hid (∀ m : Nat, m ≤ n → Nz (.slice xa m xc)) := fun m hm => by
      rcases HZ.out with h | ⟨ad, m', c', h⟩
      · obtain ⟨rfl, h0, rfl⟩ : xa = none ∧ n = 0 ∧ xc = 0 := by simpa using h
        exact .inl (by rw [show m = 0 by omega])
      · obtain ⟨rfl, h0, rfl⟩ : xa = some ad ∧ n = m' ∧ xc = c' := by simpa using h
        exact .inr ⟨_, _, _, rfl⟩
    obtain ⟨A1, A2, A3, A4⟩ := alloc3 W2 (.cells #[] 5) (.cells #[.slice xa n xc, .slice xa h2 xc, .slice (some ⟨W2.heap.size, 0, none⟩) 0 0] 23) (.cells #[.string ⟨#[]⟩, .string ⟨#[104]⟩] 9)
    have c3 := Hid.mk' (whole_yes Pr.frame_p Pr.scan_p 3 (.slice (some ⟨W2.heap.size + 1, 0, none⟩) 3 3) (.slice (some ⟨W2.heap.size + 2, 0, none⟩) 2 2) [payR n, (payR n).take h2, []] [[], [104]] _ (by decide) (rdl_lit A2 rfl (fun j p hj => by
        match j, hj with
        | 0, hj => simp at hj; subst hj; exact ⟨_, rfl, HP2.out.below A4, hz2.out n (Nat.le_refl _)⟩
        | 1, hj => simp at hj; subst hj; exact ⟨_, rfl, HT2.out _ (HP2.out.below A4), hz2.out h2 hl2⟩
        | 2, hj => simp at hj; subst hj; exact ⟨_, rfl, ⟨_, 0, rfl, Nat.le_refl _, by decide, fun h => by simp at h⟩, .inr ⟨_, _, _, rfl⟩⟩
        | j + 3, hj => simp at hj) (by decide)) (by simp) (rd_lit A3 rfl rfl (by decide)) (.inr ⟨_, _, _, rfl⟩) (by decide) (fun t ht => by simp at ht; rcases ht with rfl | rfl <;> simp))
    have HB3 := Hid.mk' (HB2.out.trans (A4.mono HB2.out.size))
    have HA4 := Hid.mk' A4
    clear A1 A2 A3 A4
    go_wp2_with fail
    refine c3.out.mono ?_
    rintro e W4 ⟨rfl, hb4⟩
    have HB4 := Hid.mk' (HB3.out.trans (hb4.mono HB3.out.size))
    have HP4 := Hid.mk' ((HP2.out.below HA4.out).below hb4)
    clear hb4 c3 HB3 HA4 HP2 e21 e22 hsl2
    obtain ⟨h3, hh3⟩ : ∃ x, n / 3 = x := ⟨_, rfl⟩
    have e31 : (n : Int).tdiv 3 = (h3 : Int) := by rw [Int.tdiv_eq_ediv_of_nonneg (by omega)]; omega
    have e32 : (n : Int) / 3 = (h3 : Int) := by omega
    have hl3 : h3 ≤ n := by omega
    have hsl3 := fun wx => slice_to xa n xc h3 (by omega) wx
    clear hh2 hh3
    go_wp2_with fail
    go_loopw [3] (fun kv wr => ∃ k : Nat, k ≤ 3 ∧ kv = nu (k : Int) ∧ Hid (Below w.heap.size w wr) ∧ Hid (RdB wr (.slice xa n xc) (payR n))) (fun kv _ => 3 - (intOf kv).toNat)
    case atStart => exact ⟨0, by omega, rfl, HB4, HP4⟩
    case round =>
    clear HB4 HP4
    obtain ⟨k, hk, rfl, HBr, HPr⟩ := hrel
    by_cases hk3 : k < 3
    · have hkI : (k : Int) < 3 := by omega
      obtain ⟨A1, A2, A4⟩ := alloc2 wr (.cells #[.slice xa h3 xc] 23) (.cells #[.string ⟨#[99]⟩, .string ⟨#[104, 5, 0, 0, 0]⟩, .string ⟨#[120]⟩] 9)
      have HT3 : RdB ((wr.alloc (.cells #[.slice xa h3 xc] 23)).alloc (.cells #[.string ⟨#[99]⟩, .string ⟨#[104, 5, 0, 0, 0]⟩, .string ⟨#[120]⟩] 9)) (.slice xa h3 xc) ((payR n).take h3) := by
        have h' := HPr.out.below A4
        have h'' : RdB ((wr.alloc (.cells #[.slice xa h3 xc] 23)).alloc (.cells #[.string ⟨#[99]⟩, .string ⟨#[104, 5, 0, 0, 0]⟩, .string ⟨#[120]⟩] 9)) (.slice xa (payR n).length xc) (payR n) := by rw [payR_len]; exact h'
        exact h''.take h3 (by rw [payR_len]; exact hl3)
      have c4 := Hid.mk' (torn_yes Pr.frame_p Pr.scan_p 5 (.slice (some ⟨wr.heap.size, 0, none⟩) 1 1) (.slice xa n xc) (.slice (some ⟨wr.heap.size + 1, 0, none⟩) 3 3) (k : Int) [(payR n).take h3] [[99], [104, 5, 0, 0, 0], [120]] (payR n) ((wr.alloc (.cells #[.slice xa h3 xc] 23)).alloc (.cells #[.string ⟨#[99]⟩, .string ⟨#[104, 5, 0, 0, 0]⟩, .string ⟨#[120]⟩] 9)) (by decide) (rdl_lit A1 rfl (fun j p hj => by
          match j, hj with
          | 0, hj => simp at hj; subst hj; exact ⟨_, rfl, HT3, hz2.out h3 hl3⟩
          | j + 1, hj => simp at hj) (by decide)) (by simp) (HPr.out.below A4) (hz2.out n (Nat.le_refl _)) (by omega) (rd_lit A2 rfl rfl (by decide)) (fun t ht => by simp at ht; rcases ht with rfl | rfl | rfl <;> simp))
      have HB5 := Hid.mk' (HBr.out.trans (A4.mono HBr.out.size))
      have HP5 := Hid.mk' (HPr.out.below A4)
      clear A1 A2 A4 HT3
      go_wp2_with fail
      refine c4.out.mono ?_
      rintro e W6 ⟨rfl, hb6⟩
      have HB6 := Hid.mk' (HB5.out.trans (hb6.mono HB5.out.size))
      have HP6 := Hid.mk' (HP5.out.below hb6)
      clear hb6 c4
      go_wp2
      go_roundw
      case rel => exact ⟨k + 1, by omega, by go_num, HB6, HP6⟩
      case measure => simp [intOf]; omega
    · obtain rfl : k = 3 := by omega
      go_wp2
      go_roundw
      case rel => exact ⟨n + 1, by omega, by go_num, HBr⟩
      case measure => simp [intOf]; omega
  · obtain rfl : n = 516 := by omega
    go_wp2
    go_ret
    exact ⟨rfl, HB.out⟩
end Rc
end Go.Proofs.YtjnodkjeiogloaaDoor
/- The chapter's examples. -/
namespace Go.Proofs.YtjnodkjeiogloaaDoor
set_option linter.ambiguousOpen false
open Go.RowKit
namespace Rc
open Sm Pk
set_option linter.unusedSimpArgs false
set_option linter.unusedVariables false

def szs : List Nat := [245, 246, 500, 501, 512]

def wts : List Nat := [1, 2, 2, 3, 3]

theorem szs_at (i : Nat) (h : i < 5) : ∃ s t : Nat, szs[i]? = some s ∧ wts[i]? = some t ∧ s ≤ 512 ∧ 1 + (s - 245 + 254) / 255 = t := by
  match i, h with
  | 0, _ => exact ⟨_, _, rfl, rfl, by decide, by decide⟩
  | 1, _ => exact ⟨_, _, rfl, rfl, by decide, by decide⟩
  | 2, _ => exact ⟨_, _, rfl, rfl, by decide, by decide⟩
  | 3, _ => exact ⟨_, _, rfl, rfl, by decide, by decide⟩
  | 4, _ => exact ⟨_, _, rfl, rfl, by decide, by decide⟩

theorem scan_other : scan 2 (blocks 1 []) = ([], [], 0) := by
  have hne : ∀ b r, blocks 1 [] = b :: r → ¬ begins 2 b := fun b r hb hbe => by
    have e : b = firstB 1 [] := by
      rw [blocks] at hb
      exact (List.cons.inj hb).1.symm
    rw [e] at hbe
    unfold begins firstB topB headB at hbe
    simp [lo] at hbe
  have h1 := scan_whole 2 [] (blocks 1 []) (fun p hp => by simp at hp) hne
  have h2 := scan_again 2 (blocks 1 [])
  simp only [flat, List.flatMap_nil, List.nil_append, List.length_nil] at h1
  have h3 : (scan 2 (blocks 1 [])).2.1 = [] := List.eq_nil_of_length_eq_zero (by rw [h2.2.2.2, h1.1]; rfl)
  exact Prod.ext h1.1 (Prod.ext h3 h1.2)

theorem int_cell {W : World} {B i s : Nat} {l : List Nat} {t : TypeId} {cs : Array Value} (hb : W.heap[B]? = some (.cells cs t (0, 0))) (hc : cs.toList = l.map (fun n : Nat => nu (n : Int))) (h : l[i]? = some s) : W.cell? ⟨B, i, none⟩ = some (nu (s : Int)) := by
  rw [World.cell?]
  simp only [hb]
  have : cs[i]? = cs.toList[i]? := by simp
  rw [this, hc, List.getElem?_map, h]
  rfl

set_option maxRecDepth 100000 in
set_option maxHeartbeats 4000000 in
theorem knownSaid_yes (w : World) (hg : Er.Handle w) : Calls Tryd.prog 14 #[] w fun e w' => e = .returned (.bool true) ∧ Below w.heap.size w w' := by
  have HH := Hid.mk' hg
  obtain ⟨f0, hf0⟩ : ∃ x, firstB 1 [] = x := ⟨_, rfl⟩
  have hl0 : f0.length = 11 := by rw [← hf0, firstB, List.length_append, topB_len]; rfl
  have hh0 : f0.take 7 = [104, 1, 0, 0, 0, 0, 0] := by
    rw [← hf0, firstB, topB, List.append_assoc, ← headB_len 1 ([] : List UInt8).length, List.take_left]
    decide
  have hB1 : blocks 1 [] = [f0] := by rw [blocks, hf0]; simp [restB_nil]
  have c1 : Hid (Calls Tryd.prog 6 #[.int .u32 1, .slice none 0 0] w fun e w' => ∃ g c, e = .returned (.tuple #[.slice (some ⟨g, 0, none⟩) 1 c, .nilIface]) ∧ w'.ownsRow w.heap.size 9 1 (.slice (some ⟨g, 0, none⟩) 1 c) 1 [.string (tx f0)] ∧ Below w.heap.size w w') := by
    have := Pr.frame_p w 1 (.slice none 0 0) [] (by decide) (rd_nil w) (.inl rfl) (by simp)
    rw [framed, if_neg (by simp), if_neg (by simp), hB1] at this
    refine this.mono ?_
    rintro e w' ⟨r, rfl, ho, hb⟩
    obtain ⟨g, c, rfl, _⟩ := own_posB ho (by simp)
    exact ⟨g, c, rfl, ho, hb⟩
  obtain ⟨F, hF⟩ : ∃ x, tx f0 = x := ⟨_, rfl⟩
  obtain ⟨F7, hF7⟩ : ∃ x, tx [104, 1, 0, 0, 0, 0, 0] = x := ⟨_, rfl⟩
  have hsz : F.size = 11 := by rw [← hF]; exact hl0
  have hex : F.extract 0 7 = F7 := by rw [← hF, ← hF7, ← hh0]; exact tx_take f0 7
  have heq : (F7.toList == [104, 1, 0, 0, 0, 0, 0]) = true := by rw [← hF7, Pr.tx_list]; exact beq_self_eq_true _
  rw [hF] at c1
  have HF := Hid.mk' hF
  have HB1 := Hid.mk' hB1
  have hI11 : ((F.size : Int) != 11) = false := by rw [hsz]; rfl
  have hI7 : (7 : Int) ≤ (F.size : Int) := by omega
  clear hg hf0 hh0 hl0 hF hF7 hB1 hsz
  go_enter Tryd.func14, Tryd.ntmps14
  go_wp2_with fail
  refine c1.out.mono ?_
  rintro e W1 ⟨g, c, rfl, ho, hb⟩
  have hc0 : W1.cell? ⟨g, 0, none⟩ = some (.string F) := by
    have := ho.cells (g := g) rfl 0 _ rfl
    rw [Addr.add_lit] at this
    exact this
  have HB := Hid.mk' hb
  have HO := Hid.mk' ho
  obtain ⟨_, hcap, _⟩ : ∃ q, 1 ≤ c ∧ q = 0 := by
    rcases ho.2 with ⟨h0, _⟩ | ⟨g', c', cur, h0, _, _, h3, _⟩
    · simp at h0
    · obtain ⟨_, rfl⟩ : (⟨g, 0, none⟩ : Addr) = ⟨g', 0, none⟩ ∧ c = c' := by simpa using h0
      exact ⟨0, h3, rfl⟩
  clear ho hb c1
  obtain ⟨A1, A2, A4⟩ := alloc2 W1 (.cells #[.int .i64 245, .int .i64 246, .int .i64 500, .int .i64 501, .int .i64 512] 3) (.cells #[.int .i64 1, .int .i64 2, .int .i64 2, .int .i64 3, .int .i64 3] 3)
  obtain ⟨W2, hW2⟩ : ∃ x, (W1.alloc (.cells #[.int .i64 245, .int .i64 246, .int .i64 500, .int .i64 501, .int .i64 512] 3)).alloc (.cells #[.int .i64 1, .int .i64 2, .int .i64 2, .int .i64 3, .int .i64 3] 3) = x := ⟨_, rfl⟩
  rw [hW2] at A1 A2 A4
  have HA1 := Hid.mk' A1
  have HA2 := Hid.mk' A2
  have HB2 := Hid.mk' (HB.out.trans (A4.mono HB.out.size))
  have HO2 := Hid.mk' (own_keptB HO.out A4)
  have HW2 := Hid.mk' A4
  clear A1 A2 A4 HO
  go_wp2_with fail
  clear hc0 heq hex hI11 hI7 hW2
  go_loopw [5, 6, 7] (fun iv _ _ wr => ∃ i : Nat, i ≤ 5 ∧ iv = nu (i : Int) ∧ Hid (Below W2.heap.size W2 wr)) (fun iv _ _ _ => 5 - (intOf iv).toNat)
  case atStart => exact ⟨0, by omega, rfl, Below.refl _ _⟩
  case round =>
  obtain ⟨i, hi, rfl, HBr⟩ := hrel
  by_cases hi5 : i < 5
  · have hiI : (i : Int) < 5 := by omega
    have hi0 : (0 : Int) ≤ (i : Int) := by omega
    obtain ⟨s, t, h1, h2, h3, h4⟩ := szs_at i hi5
    have k1 := int_cell HA1.out rfl h1
    have k2 := int_cell HA2.out rfl h2
    have lt1 : W1.heap.size < W2.heap.size := (Array.getElem?_eq_some_iff.1 HA1.out).1
    have lt2 : W1.heap.size + 1 < W2.heap.size := (Array.getElem?_eq_some_iff.1 HA2.out).1
    have k1' : wr.cell? ⟨W1.heap.size, i, none⟩ = some (nu (s : Int)) := (HBr.out.cell (p := ⟨W1.heap.size, i, none⟩) lt1).trans k1
    have C1 := Hid.mk' (row_any s wr (by omega))
    have HT : Hid (∀ p : List UInt8, p.length = s → (blocks 4294967295 p).length = t) := fun p hp => by rw [blocks_len, hp]; exact h4
    clear h1 h2 k1 h4
    go_wp2_with fail
    refine C1.out.mono ?_
    rintro e W3 ⟨x, rfl, ho, hb3⟩
    have HB3 := Hid.mk' (HBr.out.trans (hb3.mono HBr.out.size))
    have C2 : Hid (Calls Tryd.prog 6 #[.int .u32 4294967295, x] W3 fun e w' => ∃ a c, e = .returned (.tuple #[.slice a t c, .nilIface]) ∧ Below W3.heap.size W3 w') := by
      have := Pr.frame_p W3 4294967295 x (payR s) (by decide) (own_rd' ho (payR_len s)) (nz_own ho) (by rw [payR_len]; omega)
      rw [framed, if_neg (by rw [payR_len]; omega), if_neg (by rw [payR_len]; omega), HT.out (payR s) (payR_len s)] at this
      refine this.mono ?_
      rintro e w' ⟨r, rfl, ho', hb'⟩
      obtain ⟨a, c, rfl, _⟩ := Nm.own_shape ho'
      exact ⟨a, c, rfl, hb'⟩
    obtain ⟨xa, xc, rfl, _⟩ := Nm.own_shape ho
    clear ho hb3 C1 k1' HT
    go_wp2_with fail
    refine C2.out.mono ?_
    rintro e W4 ⟨a, c', rfl, hb4⟩
    have HB4 := Hid.mk' (HB3.out.trans (hb4.mono HB3.out.size))
    have k2' : W4.cell? ⟨W1.heap.size + 1, i, none⟩ = some (nu (t : Int)) := (HB4.out.cell (p := ⟨W1.heap.size + 1, i, none⟩) lt2).trans k2
    have hd : ((t : Int) != (t : Int)) = false := by simp
    clear hb4 C2 k2
    go_wp2
    go_roundw
    case rel => exact ⟨i + 1, by omega, by go_num, HB4⟩
    case measure => simp [intOf]; omega
  · obtain rfl : i = 5 := by omega
    have C1 := Hid.mk' (row_any 513 wr (by omega))
    go_wp2_with fail
    refine C1.out.mono ?_
    rintro e W3 ⟨x, rfl, ho, hb3⟩
    have HB3 := Hid.mk' (HBr.out.trans (hb3.mono HBr.out.size))
    have C2 : Hid (Calls Tryd.prog 6 #[.int .u32 1, x] W3 fun e w' => ∃ a c n, e = .returned (.tuple #[.slice a n c, noE 3]) ∧ Below W3.heap.size W3 w') := by
      have := Pr.frame_p W3 1 x (payR 513) (by decide) (own_rd' ho (payR_len 513)) (nz_own ho) (by rw [payR_len]; omega)
      rw [framed, if_pos (by rw [payR_len]; omega), if_pos (by rw [payR_len]; omega)] at this
      refine this.mono ?_
      rintro e w' ⟨r, rfl, ho', hb'⟩
      obtain ⟨a, c, rfl, _⟩ := Nm.own_shape ho'
      exact ⟨a, c, _, rfl, hb'⟩
    obtain ⟨xa, xc, rfl, _⟩ := Nm.own_shape ho
    clear ho hb3 C1
    go_wp2_with fail
    refine C2.out.mono ?_
    rintro e W4 ⟨a, c', n', rfl, hb4⟩
    have HB4 := Hid.mk' (HB3.out.trans (hb4.mono HB3.out.size))
    have C3 : Hid (Calls Tryd.prog 29 #[.int .u32 2, .slice (some ⟨g, 0, none⟩) 1 c] W4 fun e w' => ∃ a c, e = .returned (.tuple #[.slice a 0 c, nu 0]) ∧ Below W4.heap.size W4 w') := by
      have hrd : Nm.Rd W4 (.slice (some ⟨g, 0, none⟩) 1 c) (blocks 1 []) := by
        rw [HB1.out]
        refine Nm.rd_own (base := w.heap.size) (own_keptB (own_keptB HO2.out HB4.out) (Below.refl _ _) |> fun h => ?_)
        rw [← HF.out] at h
        exact h
      have := Pr.scan_p W4 2 _ (blocks 1 []) (by decide) hrd (by rw [HB1.out]; simp) (fun t ht => by
        have := blocks_short 1 [] t ht
        omega)
      rw [scan_other] at this
      refine this.mono ?_
      rintro e w' ⟨r, vs, rfl, ho', hr', _, hb'⟩
      have hv0 : vs.length = 0 := hr'.len
      rw [hv0] at ho'
      obtain ⟨a, c, rfl, _⟩ := Nm.own_shape ho'
      exact ⟨a, c, rfl, hb'⟩
    clear hb4 C2
    go_wp2_with fail
    refine C3.out.mono ?_
    rintro e W5 ⟨a5, c5, rfl, hb5⟩
    have HB5 := Hid.mk' (HB4.out.trans (hb5.mono HB4.out.size))
    have C4 := Hid.mk' (works_yes Pr.frame_p Pr.scan_p W5)
    clear hb5 C3
    go_wp2_with fail
    refine C4.out.mono ?_
    rintro e W6 ⟨rfl, hb6⟩
    have HB6 := Hid.mk' (HB5.out.trans (hb6.mono HB5.out.size))
    have HW6 := Hid.mk' (HB2.out.trans (HB6.out.mono HB2.out.size))
    have C5 : Hid (Calls Tryd.prog 9 #[noE 3, .int .i64 3] W6 fun e w' => e = .returned (.bool true) ∧ Below W6.heap.size W6 w') := plainR 3 (by decide) W6 (HH.out.below HW6.out)
    clear hb6 C4
    go_wp2_with fail
    refine C5.out.mono ?_
    rintro e W7 ⟨rfl, hb7⟩
    have HW7 := Hid.mk' (HW6.out.trans (hb7.mono HW6.out.size))
    clear hb7 C5
    go_wp2
    go_ret
    exact ⟨rfl, HW7.out⟩
end Rc
end Go.Proofs.YtjnodkjeiogloaaDoor
