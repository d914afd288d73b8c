/- SmeR, WrkR, LadR, KeepP, LawL, WrkL, KnoP, KnoL, in one text. -/
import Derived.Test.YthdibodmnpcekaaCvR
import Derived.Deep.RegionHeld3
import Derived.Test.YthdibodmnpcekaaSayR
import Derived.Test.YthdibodmnpcekaaBegR
import Derived.Test.YthdibodmnpcekaaLogP
import Derived.Test.YthdibodmnpcekaaOneK
import Derived.Test.YthdibodmnpcekaaLogO
import Derived.Test.YthdibodmnpcekaaNum
/- Lists of payloads, and whether two are the same. -/
namespace Go.Proofs.Ythdibodmnpcekaa
set_option linter.ambiguousOpen false
open Go.RowKit
namespace Rc
open Sm Pk
set_option linter.unusedSimpArgs false
set_option linter.unusedVariables false

/-- The value v reads, in w, as the list of rows L. -/
def RdL (w : World) (v : Value) (L : List (List UInt8)) : Prop :=
  ∃ a cap, v = .slice a L.length cap ∧ L.length ≤ cap ∧ cap ≤ maxLen ∧ (0 < L.length → ∃ g o, a = some ⟨g, o, none⟩ ∧ g < w.heap.size ∧ ∀ (j : Nat) (p : List UInt8), L[j]? = some p → ∃ u, w.cell? ⟨g, o + j, none⟩ = some u ∧ RdB w u p ∧ Nz u)

theorem RdL.below {w w' : World} {v : Value} {L : List (List UInt8)} (h : RdL w v L) (hb : Below w.heap.size w w') : RdL w' v L := by
  obtain ⟨a, cap, h1, h2, h3, h4⟩ := h
  refine ⟨a, cap, h1, h2, h3, fun h0 => ?_⟩
  obtain ⟨g, o, e1, e2, e3⟩ := h4 h0
  refine ⟨g, o, e1, Nat.lt_of_lt_of_le e2 hb.size, fun j p hj => ?_⟩
  obtain ⟨u, f1, f2, f3⟩ := e3 j p hj
  exact ⟨u, (hb.cell (p := ⟨g, o + j, none⟩) e2).trans f1, f2.below hb, f3⟩

end Rc
end Go.Proofs.Ythdibodmnpcekaa
/- What each law on records asks first: a small record has one block, and is found. -/
namespace Go.Proofs.Ythdibodmnpcekaa
set_option linter.ambiguousOpen false
open Go.RowKit
namespace Rc
open Sm Pk
set_option linter.unusedSimpArgs false
set_option linter.unusedVariables false

theorem rd_newR (w : World) (l : List UInt8) (h : l.length ≤ 1000000) : RdB (w.alloc (.cells (l.map by1).toArray 5)) (.slice (some ⟨w.heap.size, 0, none⟩) l.length l.length) l := by
  refine ⟨_, l.length, rfl, Nat.le_refl _, by unfold maxLen; omega, fun _ => ⟨w.heap.size, 0, rfl, by simp, fun j hj => ?_⟩⟩
  rw [Nat.zero_add, cell_of_row _ w.heap.size j _ _ _ (heap_alloc_new w _)]
  simp [hj]

/-- A list of rows that a call has made reads as those rows. -/
theorem rows_rdl {w : World} {base : Nat} {r : Value} {vs : List Value} {ps : List (List UInt8)} (h : w.ownsRow base 34 1 r vs.length vs) (hr : Rows w base vs ps) : RdL w r ps := by
  have hl := hr.len
  rcases h.2 with ⟨rfl, h0⟩ | ⟨g, cap, cur, rfl, h1, h2, h3, h4, h5, h6⟩
  · have : ps = [] := List.eq_nil_of_length_eq_zero (by omega)
    subst this
    exact ⟨none, 0, rfl, Nat.le_refl _, by decide, fun h => by simp at h⟩
  · refine ⟨some ⟨g, 0, none⟩, cap, by rw [hl], by omega, h4, fun _ => ⟨g, 0, rfl, (Array.getElem?_eq_some_iff.1 h2).1, fun j p hj => ?_⟩⟩
    have hj' : j < vs.length := by
      have := (List.getElem?_eq_some_iff.1 hj).1
      omega
    have ho := hr.own j vs[j] p (List.getElem?_eq_getElem hj') hj
    refine ⟨vs[j], ?_, own_rd ho, nz_own ho⟩
    rw [Nat.zero_add]
    have := h.cells (g := g) rfl j vs[j] (List.getElem?_eq_getElem hj')
    rw [Addr.add_lit, Nat.zero_add] at this
    exact this

theorem scan_seven : (scan 1 (blocks 1 [7])).1 = [[7]] ∧ (scan 1 (blocks 1 [7])).2.2 = 1 := by
  have h := scan_whole 1 [[7]] [] (fun p hp => by simp at hp; rw [hp]; decide) (fun b r hb => by simp at hb)
  have e : flat 1 [[7]] ++ [] = blocks 1 [7] := by simp [flat]
  rw [e] at h
  refine ⟨h.1, h.2.trans ?_⟩
  simp [flat, blocks_len]

end Rc
end Go.Proofs.Ythdibodmnpcekaa
/- The blocks of records, one behind the other, and their payloads. -/
namespace Go.Proofs.Ythdibodmnpcekaa
set_option linter.ambiguousOpen false
open Go.RowKit
namespace Rc
open Sm Pk
set_option linter.unusedSimpArgs false
set_option linter.unusedVariables false

/-- The rows that lie in a list under way read as payloads. -/
def Reads (w : World) (vs : List Value) (ps : List (List UInt8)) : Prop := vs.length = ps.length ∧ ∀ (j : Nat) (v : Value) (p : List UInt8), vs[j]? = some v → ps[j]? = some p → RdB w v p ∧ Nz v

theorem Reads.below {w w' : World} {vs : List Value} {ps : List (List UInt8)} (h : Reads w vs ps) (hb : Below w.heap.size w w') : Reads w' vs ps :=
  ⟨h.1, fun j v p hj hp => ⟨(h.2 j v p hj hp).1.below hb, (h.2 j v p hj hp).2⟩⟩

theorem Reads.snoc {w : World} {vs : List Value} {ps : List (List UInt8)} (h : Reads w vs ps) {v : Value} {p : List UInt8} (hr : RdB w v p) (hz : Nz v) : Reads w (vs ++ [v]) (ps ++ [p]) := by
  refine ⟨by rw [List.length_append, List.length_append, h.1]; rfl, fun j u q hj hq => ?_⟩
  rcases Nat.lt_or_ge j vs.length with hl | hl
  · rw [List.getElem?_append_left hl] at hj
    rw [List.getElem?_append_left (by rw [← h.1]; exact hl)] at hq
    exact h.2 j u q hj hq
  · rw [List.getElem?_append_right hl] at hj
    rw [List.getElem?_append_right (by rw [← h.1]; exact hl), ← h.1] at hq
    obtain ⟨k, hk⟩ : ∃ k, j - vs.length = k := ⟨_, rfl⟩
    rw [hk] at hj hq
    cases k with
    | zero =>
      simp at hj hq
      subst hj hq
      exact ⟨hr, hz⟩
    | succ k => simp at hj

theorem reads_rdl {w : World} {base : Nat} {r : Value} {vs : List Value} {ps : List (List UInt8)} (h : w.ownsRow base 34 1 r vs.length vs) (hr : Reads w vs ps) : RdL w r ps := by
  have hl := hr.1
  rcases h.2 with ⟨rfl, h0⟩ | ⟨g, cap, cur, rfl, h1, h2, h3, h4, h5, h6⟩
  · have : ps = [] := List.eq_nil_of_length_eq_zero (by omega)
    subst this
    exact ⟨none, 0, rfl, Nat.le_refl _, by decide, fun h => by simp at h⟩
  · refine ⟨some ⟨g, 0, none⟩, cap, by rw [hl], by omega, h4, fun _ => ⟨g, 0, rfl, (Array.getElem?_eq_some_iff.1 h2).1, fun j p hj => ?_⟩⟩
    have hj' : j < vs.length := by
      have := (List.getElem?_eq_some_iff.1 hj).1
      omega
    have ho := hr.2 j vs[j] p (List.getElem?_eq_getElem hj') hj
    refine ⟨vs[j], ?_, ho.1, ho.2⟩
    rw [Nat.zero_add]
    have := h.cells (g := g) rfl j vs[j] (List.getElem?_eq_getElem hj')
    rw [Addr.add_lit, Nat.zero_add] at this
    exact this

theorem flat_take_len (ep : Nat) (ps : List (List UInt8)) (h : ∀ p ∈ ps, p.length ≤ 512) : (flat ep ps).length ≤ 3 * ps.length := by
  induction ps with
  | nil => simp [flat]
  | cons p ps ih =>
    have h1 := blocks_len ep p
    have h2 := h p (by simp)
    have h3 := ih (fun q hq => h q (by simp [hq]))
    simp only [flat, List.flatMap_cons, List.length_append, List.length_cons] at h3 ⊢
    omega

/-- The two rows that grow: the blocks, and the payloads (which lie in what was there). -/
structure Ld (w0 w : World) (ep : Nat) (ps : List (List UInt8)) (bv ov : Value) (vs : List Value) (m : Nat) : Prop where
  bl : w.ownsRow w0.heap.size 9 1 bv m ((flat ep ps).map Nm.txt)
  ml : (flat ep ps).length = m
  out : w.ownsRow w0.heap.size 34 1 ov vs.length vs
  rd : Reads w0 vs ps
  sep : Nm.Sep bv ov
  bel : Below w0.heap.size w0 w

theorem Ld.below {w0 w w' : World} {ep : Nat} {ps : List (List UInt8)} {bv ov : Value} {vs : List Value} {m : Nat} (h : Ld w0 w ep ps bv ov vs m) (hb : Below w.heap.size w w') : Ld w0 w' ep ps bv ov vs m :=
  ⟨own_keptB h.bl hb, h.ml, own_keptB h.out hb, h.rd, h.sep, h.bel.trans (hb.mono h.bel.size)⟩

/-- The blocks of one more. -/
structure Lh (w0 w : World) (ep : Nat) (ps : List (List UInt8)) (p : List UInt8) (bv ov : Value) (vs : List Value) (m : Nat) : Prop where
  bl : w.ownsRow w0.heap.size 9 1 bv m ((flat ep (ps ++ [p])).map Nm.txt)
  ml : (flat ep (ps ++ [p])).length = m
  out : w.ownsRow w0.heap.size 34 1 ov vs.length vs
  rd : Reads w0 vs ps
  sep : Nm.Sep bv ov
  bel : Below w0.heap.size w0 w

theorem flat_snoc (ep : Nat) (ps : List (List UInt8)) (p : List UInt8) : flat ep (ps ++ [p]) = flat ep ps ++ blocks ep p := by simp [flat]

theorem Ld.more {w0 w w' : World} {ep : Nat} {ps : List (List UInt8)} {p : List UInt8} {bv ov : Value} {vs : List Value} {m k g cap : Nat} (h : Ld w0 w ep ps bv ov vs m) (hk : (blocks ep p).length = k) (ho : w'.ownsRow w0.heap.size 9 1 (.slice (some ⟨g, 0, none⟩) (m + k) cap) (m + k) ((flat ep ps).map Nm.txt ++ (blocks ep p).map Nm.txt)) (hg : w.grownBy w' bv.ownBlock) (hl : bv.ownBlock = some g ∨ g = w.heap.size) : Lh w0 w' ep ps p (.slice (some ⟨g, 0, none⟩) (m + k) cap) ov vs (m + k) := by
  refine ⟨by rw [flat_snoc, List.map_append]; exact ho, by rw [flat_snoc, List.length_append, h.ml, hk], h.out.kept hg ?_, h.rd, ?_, Below.grown h.bel hg h.bel.size (fun j hj => (h.bl.lt j hj).1)⟩
  · cases hv : ov.ownBlock with
    | none => exact .inl rfl
    | some b => exact .inr (fun e => h.sep b e.symm hv)
  · intro b hb1 hb2
    have e : g = b := by simpa [Value.ownBlock] using hb1
    subst e
    rcases hl with hl | hl
    · exact h.sep g hl hb2
    · have := (h.out.lt g hb2).2
      omega

theorem Lh.alloc {w0 w : World} {ep : Nat} {ps : List (List UInt8)} {p : List UInt8} {bv ov : Value} {vs : List Value} {m : Nat} (h : Lh w0 w ep ps p bv ov vs m) (o : Obj) : Lh w0 (w.alloc o) ep ps p bv ov vs m :=
  ⟨h.bl.alloc o, h.ml, h.out.alloc o, h.rd, h.sep, h.bel.alloc h.bel.size o⟩

theorem Lh.more {w0 w w' : World} {ep : Nat} {ps : List (List UInt8)} {p : List UInt8} {bv ov u : Value} {vs : List Value} {m g cap : Nat} (h : Lh w0 w ep ps p bv ov vs m) (hr : RdB w0 u p) (hz : Nz u) (ho : w'.ownsRow w0.heap.size 34 1 (.slice (some ⟨g, 0, none⟩) (vs.length + 1) cap) (vs.length + 1) (vs ++ [u])) (hg : w.grownBy w' ov.ownBlock) (hl : ov.ownBlock = some g ∨ g = w.heap.size) : Ld w0 w' ep (ps ++ [p]) bv (.slice (some ⟨g, 0, none⟩) (vs.length + 1) cap) (vs ++ [u]) m := by
  refine ⟨h.bl.kept hg ?_, h.ml, by rw [List.length_append]; exact ho, h.rd.snoc hr hz, ?_, Below.grown h.bel hg h.bel.size (fun j hj => (h.out.lt j hj).1)⟩
  · cases hv : bv.ownBlock with
    | none => exact .inl rfl
    | some b => exact .inr (fun e => h.sep b hv e.symm)
  · intro b hb1 hb2
    have e : g = b := by simpa [Value.ownBlock] using hb2
    subst e
    rcases hl with hl | hl
    · exact h.sep g hb1 hl
    · have := (h.bl.lt g hb1).2
      omega

theorem cut_rd {w : World} {a : Option Addr} {cap n m : Nat} {p : List UInt8} (hn : p.length = n) (hR : RdB w (.slice a n cap) p) (hm : (p.take 512).length = m) : RdB w (.slice a m cap) (p.take 512) := by
  rw [← hn] at hR
  have hml : m ≤ p.length := by
    rw [← hm, List.length_take]
    omega
  have h2 := hR.take m hml
  have h3 : p.take m = p.take 512 := by
    rw [List.length_take] at hm
    rcases Nat.le_total 512 p.length with h | h
    · rw [← hm, Nat.min_eq_left h]
    · rw [← hm, Nat.min_eq_right h, List.take_of_length_le (Nat.le_refl _), List.take_of_length_le h]
  rw [h3] at h2
  exact h2

end Rc
end Go.Proofs.Ythdibodmnpcekaa
/- What is opened again: plain facts on a log's blocks behind its Appends. No program is named here. -/
namespace Go.Proofs.Ythdibodmnpcekaa
set_option linter.ambiguousOpen false
open Go.RowKit
namespace Lo
open Sm Ft Dk Rc
set_option linter.unusedSimpArgs false
set_option linter.unusedVariables false

theorem getD_mem (bs : List (List UInt8)) (k : Nat) (h : k < bs.length) : bs.getD k [] ∈ bs := by
  rw [List.getD_eq_getElem?_getD, List.getElem?_eq_getElem h]
  exact List.getElem_mem h

theorem getD_app (a b : List (List UInt8)) (i : Nat) : (a ++ b).getD i [] = if i < a.length then a.getD i [] else b.getD (i - a.length) [] := by
  rw [List.getD_eq_getElem?_getD, List.getD_eq_getElem?_getD, List.getD_eq_getElem?_getD]
  by_cases h : i < a.length
  · rw [if_pos h, List.getElem?_append_left h]
  · rw [if_neg h, List.getElem?_append_right (by omega)]

/-- Whatever the power does, a block tells what it told, or one of those that were to be written. -/
theorem dn_some (b : Int) (bs : List (List UInt8)) (k : Nat) : ∀ (d : Dsk), k ≤ bs.length → ∀ i, 0 ≤ i → i < d.n → rdT (dn b bs k d).2 i = rdT d i ∨ ∃ t ∈ bs, rdT (dn b bs k d).2 i = t := by
  induction k with
  | zero => exact fun d _ i _ _ => .inl rfl
  | succ k ih =>
    intro d hk i h0 h1
    rw [dn]
    split
    · rename_i hw
      rcases ih (wrD d (b + (k : Int)) (bs.getD k [])) (by omega) i h0 (by rw [wrD_n]; exact h1) with e | ⟨t, ht, e⟩
      · rw [rdT_wrote d _ _ i hw ⟨h0, h1⟩] at e
        by_cases hb : b + (k : Int) = i
        · rw [if_pos hb] at e
          exact .inr ⟨_, getD_mem bs k (by omega), e⟩
        · rw [if_neg hb] at e
          exact .inl e
      · exact .inr ⟨t, ht, e⟩
    · exact .inl rfl

/-- What lies below b stays. -/
theorem dn_low (b : Int) (bs : List (List UInt8)) (k : Nat) : ∀ (d : Dsk), ∀ i, 0 ≤ i → i < d.n → i < b → rdT (dn b bs k d).2 i = rdT d i := by
  induction k with
  | zero => exact fun d i _ _ _ => rfl
  | succ k ih =>
    intro d i h0 h1 h2
    rw [dn]
    split
    · rename_i hw
      rw [ih (wrD d (b + (k : Int)) (bs.getD k [])) i h0 (by rw [wrD_n]; exact h1) h2, rdT_wrote d _ _ i hw ⟨h0, h1⟩, if_neg (by omega)]
    · rfl

/-- Where all is written. -/
theorem dn_all (b : Int) (bs : List (List UInt8)) (k : Nat) : ∀ (d : Dsk), (dn b bs k d).1 = 0 → ∀ i, 0 ≤ i → i < d.n → rdT (dn b bs k d).2 i = if b ≤ i ∧ i < b + (k : Int) then bs.getD (i - b).toNat [] else rdT d i := by
  induction k with
  | zero =>
    intro d _ i _ _
    rw [if_neg (by omega)]
    rfl
  | succ k ih =>
    intro d h i h0 h1
    rw [dn] at h ⊢
    split at h
    · rename_i hw
      rw [if_pos hw, ih _ h i h0 (by rw [wrD_n]; exact h1), rdT_wrote d _ _ i hw ⟨h0, h1⟩]
      by_cases hb : b + (k : Int) = i
      · rw [if_neg (by omega), if_pos hb, if_pos (by omega), show (i - b).toNat = k by omega]
      · rw [if_neg hb]
        by_cases hc : b ≤ i ∧ i < b + (k : Int)
        · rw [if_pos hc, if_pos (by omega)]
        · rw [if_neg hc, if_neg (by omega)]
    · simp at h

/-- Where one fails, the first block is as it was: it is written last. -/
theorem dn_torn (b : Int) (bs : List (List UInt8)) (k : Nat) : ∀ (d : Dsk), 0 ≤ b → b < d.n → (dn b bs k d).1 ≠ 0 → rdT (dn b bs k d).2 b = rdT d b := by
  induction k with
  | zero => exact fun d _ _ _ => rfl
  | succ k ih =>
    intro d h0 h1 h
    rw [dn] at h ⊢
    split at h
    · rename_i hw
      rw [if_pos hw]
      have hk : k ≠ 0 := fun e => by
        subst e
        exact h rfl
      rw [ih _ h0 (by rw [wrD_n]; exact h1) h, rdT_wrote d _ _ b hw ⟨h0, h1⟩, if_neg (by omega)]
    · rename_i hw
      rw [if_neg hw]

theorem lo4_three : lo 3 4 ≠ lo 4 4 := by decide

/-- A block of a record of one epoch does not begin as one of another. -/
theorem blocks_begin (ep e : Nat) (p : List UInt8) (h : lo ep 4 ≠ lo e 4) : ∀ t ∈ blocks ep p, ¬ begins e t := by
  intro t ht hb
  unfold blocks at ht
  rw [List.mem_cons] at ht
  rcases ht with rfl | ht
  · unfold begins firstB topB headB at hb
    have : ((104 :: (lo ep 4 ++ lo p.length 2) ++ lo (crc (104 :: (lo ep 4 ++ lo p.length 2) ++ p)) 4 ++ p.take 245).take 5) = 104 :: lo ep 4 := by
      rw [List.append_assoc, List.cons_append, List.take_succ_cons, List.append_assoc, List.take_append_of_le_length (by rw [lo_len]; omega), List.take_of_length_le (by rw [lo_len]; omega)]
    rw [this] at hb
    exact h (List.cons.inj hb).2
  · generalize p.drop 245 = q at ht
    have : ∀ f : Nat, ∀ q : List UInt8, q.length ≤ f → t ∈ restB q → ¬ begins e t := by
      intro f
      induction f with
      | zero =>
        intro q hq hm
        have e0 : q = [] := List.eq_nil_of_length_eq_zero (by omega)
        rw [e0, restB_nil] at hm
        simp at hm
      | succ f ih =>
        intro q hq hm
        by_cases hn : q = []
        · rw [hn, restB_nil] at hm
          simp at hm
        · rw [restB_cons q hn, List.mem_cons] at hm
          rcases hm with rfl | hm
          · intro hb
            unfold begins at hb
            rw [List.take_succ_cons] at hb
            exact absurd (List.cons.inj hb).1 (by decide)
          · exact ih (q.drop 255) (by rw [List.length_drop]; have := List.length_pos_iff.2 hn; omega) hm
    exact this _ q (Nat.le_refl _) ht hb

/-- No block begins so. -/
def Clean (e : Nat) (d : Dsk) : Prop := ∀ i, 0 ≤ i → i < d.n → ¬ begins e (rdT d i)

theorem clean_new (e : Nat) (n left : Int) : Clean e ⟨n, left, []⟩ := fun i h0 h1 hb => by
  unfold rdT at hb
  rw [if_pos ⟨h0, h1⟩] at hb
  unfold begins lastK at hb
  simp at hb

theorem Clean.app {e : Nat} {l : Lg} {d : Dsk} (h : Clean e d) (hl : lo l.ep 4 ≠ lo e 4) (p : List UInt8) : Clean e (Lo.app l d p).2.1 := by
  unfold Lo.app
  repeat' split
  · exact h
  · exact h
  · exact h
  all_goals
    intro i h0 h1
    have hn := (dn_n (l.at_ + (l.used : Int)) (blocks l.ep p) (blocks l.ep p).length d).1
    simp only at h1 ⊢
    rw [hn] at h1
    rcases dn_some (l.at_ + (l.used : Int)) (blocks l.ep p) (blocks l.ep p).length d (Nat.le_refl _) i h0 h1 with e | ⟨t, ht, e⟩
    · rw [e]
      exact h i h0 h1
    · rw [e]
      exact blocks_begin _ _ p hl t ht

/-- A log of which ps was appended. -/
structure Kp (l : Lg) (d : Dsk) (ps : List (List UInt8)) : Prop where
  fit : Fit l d
  use : l.used = (flat l.ep ps).length
  nrec : l.recs = ps.length
  short : ∀ p ∈ ps, p.length ≤ 512
  there : ∀ i : Nat, i < l.used → rdT d (l.at_ + (i : Int)) = (flat l.ep ps).getD i []
  next : (l.used : Int) < l.n → ¬ begins l.ep (rdT d (l.at_ + (l.used : Int)))
  rest : l.dead = false → ∀ j : Nat, l.used ≤ j → (j : Int) < l.n → ¬ begins l.ep (rdT d (l.at_ + (j : Int)))

theorem Kp.new {a n : Int} {ep : Nat} {d : Dsk} (h : Fit ⟨a, n, ep, 0, 0, false⟩ d) (hc : Clean ep d) : Kp ⟨a, n, ep, 0, 0, false⟩ d [] := by
  have h0 := h.a0
  have h1 := h.an
  have h2 := h.n1
  simp only at h0 h1 h2
  exact ⟨h, rfl, rfl, fun p hp => by simp at hp, fun i hi => by simp at hi, fun hi => hc _ (by simp only; omega) (by simp only at hi ⊢; omega), fun _ j _ hj => hc _ (by simp only; omega) (by simp only at hj ⊢; omega)⟩

theorem Kp.left {l : Lg} {d : Dsk} {ps : List (List UInt8)} (h : Kp l d ps) (m : Int) (h1 : -1 ≤ m) (h2 : m ≤ 9223372036854775807) : Kp l ⟨d.n, m, d.tr⟩ ps :=
  ⟨⟨h.fit.a0, h.fit.n1, h.fit.an, h.fit.dn, h.fit.us, h.fit.ep, h1, h2⟩, h.use, h.nrec, h.short, h.there, h.next, h.rest⟩

theorem Kp.app {l : Lg} {d : Dsk} {ps : List (List UInt8)} (h : Kp l d ps) (p : List UInt8) : Kp (Lo.app l d p).2.2 (Lo.app l d p).2.1 (if (Lo.app l d p).1 = 0 then ps ++ [p] else ps) := by
  have hF := (app_fit h.fit p).1
  have fa := h.fit.a0
  have fn := h.fit.an
  by_cases h1 : l.dead = true
  · rw [Lo.app, if_pos h1, if_neg (by simp)]
    exact h
  by_cases h2 : 512 < p.length
  · rw [Lo.app, if_neg h1, if_pos h2, if_neg (by simp)]
    exact h
  by_cases h3 : l.n - (l.used : Int) < ((blocks l.ep p).length : Int)
  · rw [Lo.app, if_neg h1, if_neg h2, if_pos h3, if_neg (by simp)]
    exact h
  rw [Lo.app, if_neg h1, if_neg h2, if_neg h3] at hF ⊢
  have hd : l.dead = false := by simpa using h1
  have hb := blocks_len3 l.ep p h2
  have hnn := (dn_n (l.at_ + (l.used : Int)) (blocks l.ep p) (blocks l.ep p).length d).1
  have hu := h.use
  by_cases h4 : (dn (l.at_ + (l.used : Int)) (blocks l.ep p) (blocks l.ep p).length d).1 = 0
  · rw [if_pos h4] at hF ⊢
    rw [if_pos rfl]
    have hall := dn_all _ _ _ d h4
    have hrest : ∀ j : Nat, l.used + (blocks l.ep p).length ≤ j → (j : Int) < l.n → ¬ begins l.ep (rdT (dn (l.at_ + (l.used : Int)) (blocks l.ep p) (blocks l.ep p).length d).2 (l.at_ + (j : Int))) := fun j hj hjn => by
      rw [hall _ (by omega) (by omega), if_neg (by omega)]
      exact h.rest hd j (by omega) hjn
    refine ⟨hF, ?_, ?_, ?_, ?_, ?_, ?_⟩
    · show _ = (flat l.ep (ps ++ [p])).length
      rw [flat_snoc, List.length_append, ← hu]
    · show l.recs + 1 = _
      rw [List.length_append, h.nrec]
      rfl
    · intro q hq
      rw [List.mem_append, List.mem_singleton] at hq
      rcases hq with hq | rfl
      · exact h.short q hq
      · omega
    · intro i hi
      have hi' : i < l.used + (blocks l.ep p).length := hi
      show rdT _ (l.at_ + (i : Int)) = (flat l.ep (ps ++ [p])).getD i []
      rw [hall _ (by omega) (by omega), flat_snoc, getD_app]
      by_cases hc : i < l.used
      · rw [if_neg (by omega), if_pos (by omega)]
        exact h.there i hc
      · rw [if_pos (by omega), if_neg (by omega), show (l.at_ + (i : Int) - (l.at_ + (l.used : Int))).toNat = i - (flat l.ep ps).length by omega]
    · intro hi
      exact hrest (l.used + (blocks l.ep p).length) (Nat.le_refl _) hi
    · intro _ j hj hjn
      exact hrest j hj hjn
  · rw [if_neg h4] at hF ⊢
    rw [if_neg (by simp)]
    refine ⟨hF, h.use, h.nrec, h.short, ?_, ?_, fun e => by simp at e⟩
    · intro i hi
      have hi' : i < l.used := hi
      show rdT _ (l.at_ + (i : Int)) = _
      rw [dn_low _ _ _ d _ (by omega) (by omega) (by omega)]
      exact h.there i hi
    · intro hi
      have hi' : (l.used : Int) < l.n := hi
      show ¬ begins l.ep (rdT _ (l.at_ + (l.used : Int)))
      rw [dn_torn _ _ _ d (by omega) (by omega) h4]
      exact h.next hi

/-- What Open tells of it. -/
theorem Kp.opened {l : Lg} {d : Dsk} {ps : List (List UInt8)} (h : Kp l d ps) : (scan l.ep (texts d l.at_ l.n.toNat)).1 = ps := by
  have f1 := h.fit.n1
  have f2 := h.fit.us
  have hu := h.use
  have e : texts d l.at_ l.n.toNat = flat l.ep ps ++ (texts d l.at_ l.n.toNat).drop l.used := by
    apply List.ext_getElem?
    intro i
    by_cases hi : i < l.used
    · rw [texts_at _ _ _ _ (by omega), List.getElem?_append_left (by omega), h.there i hi, List.getD_eq_getElem?_getD, List.getElem?_eq_getElem (by omega)]
      rfl
    · rw [List.getElem?_append_right (by omega), List.getElem?_drop, show l.used + (i - (flat l.ep ps).length) = i by omega]
  rw [e]
  refine (scan_whole l.ep ps _ h.short (fun b r hb => ?_)).1
  have h0 : ((texts d l.at_ l.n.toNat).drop l.used)[0]? = some b := by rw [hb]; rfl
  rw [List.getElem?_drop, Nat.add_zero] at h0
  have hlt : l.used < l.n.toNat := by
    have := (List.getElem?_eq_some_iff.1 h0).1
    rw [texts_len] at this
    exact this
  rw [texts_at _ _ _ _ hlt] at h0
  rw [← Option.some.inj h0]
  exact h.next (by omega)
end Lo
end Go.Proofs.Ythdibodmnpcekaa
/- One disk of the program and a log on it; lists of payloads held against each other; what each law on logs asks first. -/
namespace Go.Proofs.Ythdibodmnpcekaa
set_option linter.ambiguousOpen false
open Go.RowKit
namespace Lo
open Sm Ft Dk
set_option linter.unusedSimpArgs false
set_option linter.unusedVariables false

/-- A disk and a log on it, all above what was there. -/
structure Ow (Rep : World → Nat → (Nat → Prop) → Dsk → Prop) (w wr : World) (p q : Nat) (F : Nat → Prop) (d : Dsk) (l : Lg) : Prop where
  rep : Rep wr p F d
  pl : Pl wr q p l
  off : ¬ F q
  fl : ∀ k, F k → w.heap.size ≤ k
  ql : w.heap.size ≤ q
  bel : Below w.heap.size w wr

theorem Ow.below {Rep : World → Nat → (Nat → Prop) → Dsk → Prop} (H : Says Rep) {w wr w' : World} {p q : Nat} {F : Nat → Prop} {d : Dsk} {l : Lg} (h : Ow Rep w wr p q F d l) (hb : Below wr.heap.size wr w') : Ow Rep w w' p q F d l :=
  ⟨H.keep h.rep (Keep.of_below (F := fun _ => False) hb) (fun _ _ h => h), (hb.block q h.pl.lt).trans h.pl, h.off, h.fl, h.ql, below_go h.bel hb⟩

theorem Ow.left {Rep : World → Nat → (Nat → Prop) → Dsk → Prop} {w wr w' : World} {p q : Nat} {F : Nat → Prop} {d d' : Dsk} {l l' : Lg} (h : Ow Rep w wr p q F d l) (hL : Left Rep wr w' p q F d' l') : ∃ G, Ow Rep w w' p q G d' l' ∧ Keep (fun k => k = q ∨ F k) wr w' ∧ Goes wr F G := by
  obtain ⟨G, h1, h2, h3, h4⟩ := hL
  refine ⟨G, ⟨h1, h2, fun e => ?_, fun k hk => ?_, h.ql, below_kp h.bel h3 (fun k hk => ?_)⟩, h3, h4⟩
  · rcases h4 q e with h5 | h5
    · exact h.off h5
    · have := h.pl.lt; omega
  · rcases h4 k hk with h5 | h5
    · exact h.fl k h5
    · exact Nat.le_trans h.bel.size h5
  · rcases hk with rfl | hk
    · exact h.ql
    · exact h.fl k hk

theorem Ow.turned {Rep : World → Nat → (Nat → Prop) → Dsk → Prop} {w wr w' : World} {p q : Nat} {F G : Nat → Prop} {d d' : Dsk} {l : Lg} (h : Ow Rep w wr p q F d l) (h1 : Rep w' p G d') (h3 : Keep F wr w') (h4 : Goes wr F G) : Ow Rep w w' p q G d' l := by
  refine ⟨h1, h3.at h.pl h.off, fun e => ?_, fun k hk => ?_, h.ql, below_kp h.bel h3 h.fl⟩
  · rcases h4 q e with h5 | h5
    · exact h.off h5
    · have := h.pl.lt; omega
  · rcases h4 k hk with h5 | h5
    · exact h.fl k h5
    · exact Nat.le_trans h.bel.size h5

/-- A new log on a disk. -/
theorem Ow.new {Rep : World → Nat → (Nat → Prop) → Dsk → Prop} (H : Says Rep) {w wr w' : World} {p q : Nat} {F : Nat → Prop} {d : Dsk} {l : Lg} (h : On Rep w wr p F d) (hP : Pl w' q p l) (hq : wr.heap.size ≤ q) (hb : Below wr.heap.size wr w') : Ow Rep w w' p q F d l :=
  ⟨H.keep h.rep (Keep.of_below (F := fun _ => False) hb) (fun _ _ h => h), hP, fun e => by have := H.lt h.rep q e; omega, h.fl, Nat.le_trans h.bel.size hq, below_go h.bel hb⟩

theorem Ow.on {Rep : World → Nat → (Nat → Prop) → Dsk → Prop} {w wr : World} {p q : Nat} {F : Nat → Prop} {d : Dsk} {l : Lg} (h : Ow Rep w wr p q F d l) : On Rep w wr p F d := ⟨h.rep, h.fl, h.bel⟩

theorem room_is (w : World) (q p : Nat) (l : Lg) (r : Int) (h : Pl w q p l) (h1 : 1 ≤ l.n ∧ l.n ≤ 4096) (h2 : (l.used : Int) ≤ l.n) (hr : l.n - (l.used : Int) = r) :
    Calls Try.prog 11 #[ptr q] w fun e w' => e = .returned (nu r) ∧ Below w.heap.size w w' :=
  (room_any w q p l h h1 h2).mono (by
    rintro e w' ⟨rfl, k, rfl⟩
    exact ⟨by rw [hr], dnB (Below.refl _ _) k⟩)

theorem records_is (w : World) (q p : Nat) (l : Lg) (r : Int) (h : Pl w q p l) (hr : (l.recs : Int) = r) :
    Calls Try.prog 13 #[ptr q] w fun e w' => e = .returned (nu r) ∧ Below w.heap.size w w' :=
  (records_any w q p l h).mono (by
    rintro e w' ⟨rfl, rfl⟩
    exact ⟨by rw [hr], Below.refl _ _⟩)

set_option maxRecDepth 100000 in
set_option maxHeartbeats 4000000 in
theorem same_rows (v1 v2 : Value) (L : List (List UInt8)) (w : World) (h1 : Rc.RdL w v1 L) (h2 : Rc.RdL w v2 L) :
    Calls Try.prog 16 #[v1, v2] w fun e w' => e = .returned (.bool true) ∧ Below w.heap.size w w' := by
  have H1 := Hid.mk' h1
  have H2 := Hid.mk' h2
  obtain ⟨n, hn⟩ : ∃ n, L.length = n := ⟨_, rfl⟩
  have HN := Hid.mk' hn
  obtain ⟨a1, c1, rfl, hc1, hm1, hx1⟩ := h1
  obtain ⟨a2, c2, rfl, hc2, hm2, hx2⟩ := h2
  rw [hn] at hc1 hc2 H1 H2 ⊢
  unfold maxLen at hm1 hm2
  have cS : Hid (∀ wx u1 u2 p, RdB wx u1 p → RdB wx u2 p → Calls Try.prog 20 #[u1, u2] wx fun e w' => e = .returned (.bool true) ∧ Below wx.heap.size wx w') := fun wx u1 u2 p q1 q2 => Pk.sameB_eq u1 u2 p wx q1 q2
  clear hx1 hx2 hn
  go_enter Try.func16, Try.ntmps16
  go_wp2
  go_loopw [5] (fun iv wr => ∃ k : Nat, k ≤ n ∧ iv = nu (k : Int) ∧ Hid (Below w.heap.size w wr)) (fun iv _ => n - (intOf iv).toNat)
  case atStart => exact ⟨0, Nat.zero_le _, rfl, Below.refl _ _⟩
  case round =>
  obtain ⟨k, hk, rfl, hB⟩ := hrel
  by_cases hkn : k < n
  · obtain ⟨p, hp⟩ : ∃ p, L[k]? = some p := ⟨L[k]'(by have := HN.out; omega), List.getElem?_eq_getElem _⟩
    obtain ⟨b1, d1, e1, _, _, q1⟩ := H1.out.below hB.out
    obtain ⟨b2, d2, e2, _, _, q2⟩ := H2.out.below hB.out
    obtain ⟨rfl, rfl⟩ : a1 = b1 ∧ c1 = d1 := by simp at e1; exact ⟨e1.1, e1.2.2⟩
    obtain ⟨rfl, rfl⟩ : a2 = b2 ∧ c2 = d2 := by simp at e2; exact ⟨e2.1, e2.2.2⟩
    obtain ⟨g1, o1, rfl, l1, y1⟩ := q1 (by have := HN.out; omega)
    obtain ⟨g2, o2, rfl, l2, y2⟩ := q2 (by have := HN.out; omega)
    obtain ⟨u1, f1, r1, _⟩ := y1 k p hp
    obtain ⟨u2, f2, r2, _⟩ := y2 k p hp
    have hkI : (k : Int) < (n : Int) := by omega
    have hk0 : (0 : Int) ≤ (k : Int) := by omega
    have C := Hid.mk' (show ∀ wx, Below wr.heap.size wr wx → Calls Try.prog 20 #[u1, u2] wx fun e w' => e = .returned (.bool true) ∧ (w'.cell? ⟨g1, o1 + k, none⟩ = some u1 ∧ w'.cell? ⟨g2, o2 + k, none⟩ = some u2) ∧ Below wr.heap.size wr w' from fun wx hx => by
      refine (cS.out wx u1 u2 p (r1.below hx) (r2.below hx)).mono ?_
      rintro e w' ⟨rfl, hb⟩
      have hbw : Below wr.heap.size wr w' := hx.trans (hb.mono hx.size)
      exact ⟨rfl, ⟨(hbw.cell (p := ⟨g1, o1 + k, none⟩) l1).trans f1, (hbw.cell (p := ⟨g2, o2 + k, none⟩) l2).trans f2⟩, hbw⟩)
    obtain ⟨s1, m1, rfl, _⟩ := r1
    obtain ⟨s2, m2, rfl, _⟩ := r2
    clear e1 e2 q1 q2 y1 y2 hp H1 H2
    go_upto_region 6 with fail
    go_cut [26] from 17 to 27 (fun r wx => r = .bool false ∧ Hid (Below w.heap.size w wx))
    case first =>
      go_wp2_with fail
      go_region_held3 (fun w' => w'.cell? ⟨g1, o1 + k, none⟩ = some (.slice s1 p.length m1) ∧ w'.cell? ⟨g2, o2 + k, none⟩ = some (.slice s2 p.length m2)) (first | assumption | exact ⟨f1, f2⟩ | go_keep) (first | (go_at_call 20; with_reducible refine (C.out _ ?hb).mono ?_; (case hb => (first | exact Below.refl _ _ | exact (Below.refl _ _).drew | fail)); rintro e w5 ⟨rfl, ⟨y1, y2⟩, hb5⟩) | fail)
      all_goals (go_wp2_with fail; go_meet; exact ⟨rfl, hB.out.trans (hb5.mono hB.out.size)⟩)
    case rest =>
      obtain ⟨rfl, hB2⟩ := hcut
      clear f1 f2 C
      go_wp2
      go_roundw
      case rel => exact ⟨k + 1, by omega, by go_num, hB2⟩
      case measure => simp [intOf]; omega
  · obtain rfl : k = n := by omega
    go_wp2
    go_ret
    exact ⟨rfl, hB.out⟩

/-- Where the power lasts, all is written. -/
theorem dn_on (b : Int) (bs : List (List UInt8)) (k : Nat) : ∀ (d : Dsk), d.left < 0 → 0 ≤ b → b + (k : Int) ≤ d.n → (∀ t ∈ bs, t.length ≤ 256) → (dn b bs k d).1 = 0 ∧ (dn b bs k d).2.left = d.left := by
  induction k with
  | zero => exact fun d _ _ _ _ => ⟨rfl, rfl⟩
  | succ k ih =>
    intro d h1 h2 h3 h4
    have hw : wrN d (b + (k : Int)) (bs.getD k []) = 0 := by
      have hs : (bs.getD k []).length ≤ 256 := by
        by_cases hk : k < bs.length
        · exact h4 _ (getD_mem bs k hk)
        · rw [List.getD_eq_getElem?_getD, List.getElem?_eq_none (by omega)]
          exact Nat.zero_le _
      unfold wrN
      rw [if_pos (by omega), if_neg (by omega), if_neg (by omega)]
    have hl : (wrD d (b + (k : Int)) (bs.getD k [])).left = d.left := by
      unfold wrD
      rw [if_pos hw]
      show (if 0 < d.left then d.left - 1 else d.left) = d.left
      rw [if_neg (by omega)]
    rw [dn, if_pos hw]
    have := ih (wrD d (b + (k : Int)) (bs.getD k [])) (by rw [hl]; exact h1) h2 (by rw [wrD_n]; omega) h4
    rw [hl] at this
    exact this

theorem app_on {l : Lg} {d : Dsk} (hf : Fit l d) (hd : l.dead = false) (hl : d.left < 0) (p : List UInt8) (h2 : ¬ 512 < p.length) (h3 : ¬ l.n - (l.used : Int) < ((Rc.blocks l.ep p).length : Int)) : (app l d p).1 = 0 ∧ (app l d p).2.1.left = d.left ∧ (app l d p).2.2 = { l with used := l.used + (Rc.blocks l.ep p).length, recs := l.recs + 1 } := by
  have f1 := hf.a0
  have f2 := hf.an
  have h := dn_on (l.at_ + (l.used : Int)) (Rc.blocks l.ep p) (Rc.blocks l.ep p).length d hl (by omega) (by omega) (fun t ht => Rc.blocks_short _ _ _ ht)
  rw [app, if_neg (by rw [hd]; decide), if_neg h2, if_neg h3, if_pos h.1]
  exact ⟨rfl, h.2, rfl⟩

theorem fit_new {d : Dsk} (a n : Int) (ep : Nat) (h1 : 0 ≤ a) (h2 : 1 ≤ n) (h3 : a + n ≤ d.n) (h4 : d.n ≤ 4096) (h5 : ep < 4294967296) (h6 : -1 ≤ d.left) (h7 : d.left ≤ 9223372036854775807) : Fit ⟨a, n, ep, 0, 0, false⟩ d := ⟨h1, h2, h3, h4, by simp only; omega, h5, h6, h7⟩

theorem small_new (n left : Int) : Small ⟨n, left, []⟩ := fun r hr => by simp at hr

/-- What a small record leaves. -/
theorem small_rec : ∃ d', app ⟨1, 3, 7, 0, 0, false⟩ ⟨4, -1, []⟩ [1, 2] = (0, d', ⟨1, 3, 7, 1, 1, false⟩) ∧ Small d' ∧ d'.n = 4 ∧ d'.tr.length ≤ 3 ∧ (Rc.scan 7 (texts d' 1 3)).1 = [[1, 2]] := by
  have hf : Fit ⟨1, 3, 7, 0, 0, false⟩ ⟨4, -1, []⟩ := fit_new 1 3 7 (by decide) (by decide) (by decide) (by decide) (by decide) (by decide) (by decide)
  have hb : (Rc.blocks 7 [1, 2]).length = 1 := by rw [Rc.blocks_len]; rfl
  obtain ⟨e1, e2, e3⟩ := app_on hf rfl (by decide) [1, 2] (by decide) (by simp only [hb]; decide)
  have hK := (Kp.new hf (clean_new 7 4 (-1))).app [1, 2]
  have hF := app_fit hf [1, 2]
  rw [e1, if_pos rfl] at hK
  rw [hb] at e3
  refine ⟨(app ⟨1, 3, 7, 0, 0, false⟩ ⟨4, -1, []⟩ [1, 2]).2.1, Prod.ext e1 (Prod.ext rfl e3), (small_new 4 (-1)).app _ _, hF.2.2.2.2.2.2, hF.2.1, ?_⟩
  have := hK.opened
  rw [e3] at this
  exact this

end Lo
end Go.Proofs.Ythdibodmnpcekaa
/- What each law on logs asks first: a small record is appended, and found. -/
namespace Go.Proofs.Ythdibodmnpcekaa
set_option linter.ambiguousOpen false
open Go.RowKit
namespace Lo
open Sm Ft Dk
set_option linter.unusedSimpArgs false
set_option linter.unusedVariables false

/-- One payload that was told. -/
theorem Told.one {w w' : World} {B q p : Nat} {l : Lg} {r : Value} {vs : List Value} {x : List UInt8} (h : Told w w' B q p l r vs [x]) : ∃ g cap u, r = .slice (some ⟨g, 0, none⟩) 1 cap ∧ w'.cell? ⟨g, 0, none⟩ = some u ∧ RdB w' u x ∧ g < w'.heap.size := by
  have ho := h.out
  have hr := h.rows
  obtain ⟨a, cap, rfl, _, _, hx⟩ := Rc.rows_rdl ho hr
  obtain ⟨g, o, rfl, hg, hy⟩ := hx (by simp)
  have ho0 : o = 0 := by
    rcases ho.2 with ⟨h0, _⟩ | ⟨g', cap', cur, h0, _⟩
    · simp at h0
    · simp at h0
      exact h0.1.2
  subst ho0
  obtain ⟨u, hc, hu, _⟩ := hy 0 x rfl
  exact ⟨g, cap, u, rfl, hc, hu, hg⟩

theorem may_in (d : Dsk) (a n : Int) (h1 : 0 ≤ a) (h2 : 1 ≤ n) (h3 : n ≤ d.n - a) : may d a n = true := decide_eq_true ⟨h1, h2, h3⟩

theorem may_out (d : Dsk) (a n : Int) (h : ¬ (0 ≤ a ∧ 1 ≤ n ∧ n ≤ d.n - a)) : may d a n = false := decide_eq_false h

set_option maxRecDepth 100000 in
set_option maxHeartbeats 4000000 in
theorem works_yes {Rep : World → Nat → (Nat → Prop) → Dsk → Prop} (H : Says Rep) (SF : FrameW) (SS : Rc.ScanC) (w : World) : Calls Try.prog 5 #[] w fun e w' => e = .returned (.bool true) ∧ Below w.heap.size w w' := by
  obtain ⟨d', hap, hsm, hdn, hdt, hsc⟩ := small_rec
  have HH := Hid.mk' H
  have HAP := Hid.mk' hap
  have HSC : Hid (Small d' ∧ d'.n = 4 ∧ d'.tr.length ≤ 3 ∧ (Rc.scan 7 (texts d' 1 3)).1 = [[1, 2]]) := ⟨hsm, hdn, hdt, hsc⟩
  have c1 := Hid.mk' (H.newYes 4 w (by decide) (by decide))
  have cN : Hid (∀ wx p F, Rep wx p F ⟨4, -1, []⟩ → Calls Try.prog 7 #[ptr p, nu 1, nu 3, .int .u32 7] wx fun e w' => ∃ q, e = .returned (.tuple #[ptr q, .nilIface]) ∧ Pl w' q p ⟨1, 3, 7, 0, 0, false⟩ ∧ wx.heap.size ≤ q ∧ Below wx.heap.size wx w') := fun wx p F hR => new_yes HH.out wx p F ⟨4, -1, []⟩ 1 3 7 hR (by decide) (by decide) (may_in _ _ _ (by decide) (by decide) (by decide))
  have hfit : Hid (Fit ⟨1, 3, 7, 0, 0, false⟩ ⟨4, -1, []⟩) := fit_new 1 3 7 (by decide) (by decide) (by decide) (by decide) (by decide) (by decide) (by decide)
  have cA : Hid (∀ wx p q F v, Ow Rep w wx p q F ⟨4, -1, []⟩ ⟨1, 3, 7, 0, 0, false⟩ → RdB wx v [1, 2] → Pk.Nz v → Calls Try.prog 8 #[ptr q, v] wx fun e w' => e = .returned .nilIface ∧ ∃ G, Ow Rep w w' p q G d' ⟨1, 3, 7, 1, 1, false⟩) := fun wx p q F v hO hv hz => by
    refine (append_any HH.out SF wx p q F _ _ v [1, 2] hO.rep hO.pl hO.off hfit.out (by decide) (by decide) hv hz).mono ?_
    rintro e w' ⟨rfl, hL⟩
    rw [HAP.out] at hL ⊢
    obtain ⟨G, hG, _, _⟩ := hO.left hL
    exact ⟨rfl, G, hG⟩
  have cO : Hid (∀ wx p q F, Ow Rep w wx p q F d' ⟨1, 3, 7, 1, 1, false⟩ → Calls Try.prog 15 #[ptr p, nu 1, nu 3, .int .u32 7] wx fun e w' => ∃ q2 g cap u, e = .returned (.tuple #[ptr q2, .slice (some ⟨g, 0, none⟩) 1 cap, .nilIface]) ∧ w'.cell? ⟨g, 0, none⟩ = some u ∧ RdB w' u [1, 2] ∧ g < w'.heap.size ∧ Below wx.heap.size wx w') := fun wx p q F hO => by
    obtain ⟨s1, s2, s3, s4⟩ := HSC.out
    refine (open_yes HH.out SS wx p F d' 1 3 7 hO.rep (by omega) (by decide) (may_in _ _ _ (by decide) (by decide) (by rw [s2]; decide)) (by decide) s1 (by omega)).mono ?_
    rintro e w' ⟨q2, r, B, vs, rfl, hT⟩
    have hT' := hT
    rw [s4] at hT'
    obtain ⟨g, cap, u, rfl, h1, h2, h3⟩ := hT'.one
    exact ⟨q2, g, cap, u, rfl, h1, h2, h3, hT.bel⟩
  have cS : Hid (∀ wx u1 u2, RdB wx u1 [1, 2] → RdB wx u2 [1, 2] → Calls Try.prog 20 #[u1, u2] wx fun e w' => e = .returned (.bool true) ∧ Below wx.heap.size wx w') := fun wx u1 u2 q1 q2 => Pk.sameB_eq u1 u2 [1, 2] wx q1 q2
  clear hap hsm hdn hdt hsc H
  go_enter Try.func5, Try.ntmps5
  go_wp2_with fail
  refine c1.out.mono ?_
  rintro e w1 ⟨p, F, rfl, hR, hF, hb⟩
  have HO1 : Hid (On Rep w w1 p F ⟨4, -1, []⟩) := ⟨hR, hF, hb⟩
  have C2 := Hid.mk' (cN.out w1 p F hR)
  clear hR hF hb c1 cN
  go_wp2_with fail
  refine C2.out.mono ?_
  rintro e w2 ⟨q, rfl, hP, hq, hb⟩
  have HO2 := Hid.mk' (Ow.new HH.out HO1.out hP hq hb)
  have C3 := Hid.mk' (room_is w2 q p _ 3 hP (by decide) (by decide) (by decide))
  clear hP hq hb C2 HO1
  go_wp2_with fail
  refine C3.out.mono ?_
  rintro e w3 ⟨rfl, hb⟩
  have hO3 := HO2.out.below HH.out hb
  have ba : Below w3.heap.size w3 (w3.alloc (.cells #[.int .u8 1, .int .u8 2] 5)) := (Below.refl _ _).alloc (Nat.le_refl _) _
  have C4 := Hid.mk' (cA.out _ p q F _ (hO3.below HH.out ba) (Rc.rd_newR w3 [1, 2] (by decide)) (.inr ⟨_, _, _, rfl⟩))
  clear hb hO3 ba C3 HO2 cA
  go_wp2_with fail
  refine C4.out.mono ?_
  rintro e w4 ⟨rfl, G, hO4⟩
  have HO4 := Hid.mk' hO4
  have C5 := Hid.mk' (cO.out w4 p q G hO4)
  clear hO4 C4 cO
  go_wp2_with fail
  refine C5.out.mono ?_
  rintro e w5 ⟨q2, g, cap, u, rfl, hc, hu, hg, hb⟩
  have HO5 := Hid.mk' (HO4.out.below HH.out hb)
  have b6 : Below w5.heap.size w5 (w5.alloc (.cells #[.int .u8 1, .int .u8 2] 5)) := (Below.refl _ _).alloc (Nat.le_refl _) _
  have C6 := Hid.mk' (cS.out _ u _ (hu.below b6) (Rc.rd_newR w5 [1, 2] (by decide)))
  have HO6 := Hid.mk' (HO5.out.below HH.out b6)
  obtain ⟨au, cu, rfl, _⟩ := hu
  clear hb b6 C5 cS HO4
  go_wp2_with fail
  refine C6.out.mono ?_
  rintro e w7 ⟨rfl, hb⟩
  have hO7 := HO6.out.below HH.out hb
  have HO7 := Hid.mk' hO7
  have C7 := Hid.mk' (room_is w7 q p _ 2 hO7.pl (by decide) (by decide) (by decide))
  clear hb hO7 C6 HO6
  go_wp2_with fail
  refine C7.out.mono ?_
  rintro e w8 ⟨rfl, hb⟩
  have hO8 := HO7.out.below HH.out hb
  have HO8 := Hid.mk' hO8
  have C8 := Hid.mk' (records_is w8 q p _ 1 hO8.pl (by decide))
  clear hb hO8 C7 HO7
  go_wp2_with fail
  refine C8.out.mono ?_
  rintro e w9 ⟨rfl, hb⟩
  have HB9 := Hid.mk' (HO8.out.below HH.out hb).bel
  clear hb C8
  go_wp2
  go_ret
  exact ⟨rfl, HB9.out⟩
end Lo
end Go.Proofs.Ythdibodmnpcekaa
/- The chapter's examples, in plain words: what lies on the disk behind each call. No program is named here. -/
namespace Go.Proofs.Ythdibodmnpcekaa
set_option linter.ambiguousOpen false
open Go.RowKit
namespace Lo
open Sm Ft Dk
set_option linter.unusedSimpArgs false
set_option linter.unusedVariables false

/-- So many bytes. -/
def longL (n : Nat) : List UInt8 := (List.range n).map fun i => UInt8.ofNat i

theorem longL_len (n : Nat) : (longL n).length = n := by simp [longL]

theorem longL_succ (n : Nat) : longL (n + 1) = longL n ++ [UInt8.ofNat n] := by simp [longL, List.range_succ]

theorem blk_long (ep n : Nat) : (Rc.blocks ep (longL n)).length = 1 + (n - 245 + 254) / 255 := by rw [Rc.blocks_len, longL_len]

theorem wr_on {d : Dsk} {i : Int} {t : List UInt8} (hl : d.left ≠ 0) (hi : 0 ≤ i ∧ i < d.n) (ht : t.length ≤ 256) : wrN d i t = 0 ∧ wrD d i t = ⟨d.n, if 0 < d.left then d.left - 1 else d.left, d.tr ++ [(i, t)]⟩ := by
  have h : wrN d i t = 0 := by
    unfold wrN
    rw [if_pos hi, if_neg (by omega), if_neg hl]
  refine ⟨h, ?_⟩
  unfold wrD
  rw [if_pos h]

theorem blk_short (ep : Nat) (x : List UInt8) (k : Nat) : ((Rc.blocks ep x).getD k []).length ≤ 256 := by
  by_cases h : k < (Rc.blocks ep x).length
  · exact Rc.blocks_short ep x _ (getD_mem _ k h)
  · rw [List.getD_eq_getElem?_getD, List.getElem?_eq_none (by omega)]
    exact Nat.zero_le _

/-- One block is written. -/
theorem app_one {l : Lg} {d : Dsk} (hf : Fit l d) (hd : l.dead = false) (hl : d.left = -1) (x : List UInt8) (h2 : ¬ 512 < x.length) (hb : (Rc.blocks l.ep x).length = 1) (hr : (l.used : Int) + 1 ≤ l.n) : app l d x = (0, ⟨d.n, -1, d.tr ++ [(l.at_ + (l.used : Int), (Rc.blocks l.ep x).getD 0 [])]⟩, { l with used := l.used + 1, recs := l.recs + 1 }) := by
  have f1 := hf.a0
  have f2 := hf.an
  obtain ⟨w1, w2⟩ := wr_on (d := d) (i := l.at_ + (l.used : Int) + ((0 : Nat) : Int)) (t := (Rc.blocks l.ep x).getD 0 []) (by omega) (by omega) (blk_short _ _ _)
  have e : dn (l.at_ + (l.used : Int)) (Rc.blocks l.ep x) 1 d = (0, ⟨d.n, -1, d.tr ++ [(l.at_ + (l.used : Int), (Rc.blocks l.ep x).getD 0 [])]⟩) := by
    rw [dn, if_pos w1, dn, w2, if_neg (by omega), hl]
    simp
  rw [app, if_neg (by rw [hd]; decide), if_neg h2, hb, if_neg (by omega), e, if_pos rfl]

/-- Two blocks are written. -/
theorem app_two {l : Lg} {d : Dsk} (hf : Fit l d) (hd : l.dead = false) (hl : d.left = -1) (x : List UInt8) (h2 : ¬ 512 < x.length) (hb : (Rc.blocks l.ep x).length = 2) (hr : (l.used : Int) + 2 ≤ l.n) : app l d x = (0, ⟨d.n, -1, d.tr ++ [(l.at_ + (l.used : Int) + 1, (Rc.blocks l.ep x).getD 1 [])] ++ [(l.at_ + (l.used : Int), (Rc.blocks l.ep x).getD 0 [])]⟩, { l with used := l.used + 2, recs := l.recs + 1 }) := by
  have f1 := hf.a0
  have f2 := hf.an
  obtain ⟨w1, w2⟩ := wr_on (d := d) (i := l.at_ + (l.used : Int) + ((1 : Nat) : Int)) (t := (Rc.blocks l.ep x).getD 1 []) (by omega) (by omega) (blk_short _ _ _)
  rw [if_neg (by omega), hl] at w2
  obtain ⟨w3, w4⟩ := wr_on (d := ⟨d.n, -1, d.tr ++ [(l.at_ + (l.used : Int) + ((1 : Nat) : Int), (Rc.blocks l.ep x).getD 1 [])]⟩) (i := l.at_ + (l.used : Int) + ((0 : Nat) : Int)) (t := (Rc.blocks l.ep x).getD 0 []) (by simp) (by simp only; omega) (blk_short _ _ _)
  have e : dn (l.at_ + (l.used : Int)) (Rc.blocks l.ep x) 2 d = (0, ⟨d.n, -1, d.tr ++ [(l.at_ + (l.used : Int) + 1, (Rc.blocks l.ep x).getD 1 [])] ++ [(l.at_ + (l.used : Int), (Rc.blocks l.ep x).getD 0 [])]⟩) := by
    rw [dn, if_pos w1, w2, dn, if_pos w3, dn, w4]
    simp
  rw [app, if_neg (by rw [hd]; decide), if_neg h2, hb, if_neg (by omega), e, if_pos rfl]

/-- Of two blocks the second alone is written. -/
theorem app_torn {l : Lg} {d : Dsk} (hf : Fit l d) (hd : l.dead = false) (hl : d.left = 1) (x : List UInt8) (h2 : ¬ 512 < x.length) (hb : (Rc.blocks l.ep x).length = 2) (hr : (l.used : Int) + 2 ≤ l.n) : app l d x = (22, ⟨d.n, 0, d.tr ++ [(l.at_ + (l.used : Int) + 1, (Rc.blocks l.ep x).getD 1 [])]⟩, { l with dead := true }) := by
  have f1 := hf.a0
  have f2 := hf.an
  obtain ⟨w1, w2⟩ := wr_on (d := d) (i := l.at_ + (l.used : Int) + ((1 : Nat) : Int)) (t := (Rc.blocks l.ep x).getD 1 []) (by omega) (by omega) (blk_short _ _ _)
  rw [if_pos (by omega), hl] at w2
  have w3 : wrN ⟨d.n, 1 - 1, d.tr ++ [(l.at_ + (l.used : Int) + ((1 : Nat) : Int), (Rc.blocks l.ep x).getD 1 [])]⟩ (l.at_ + (l.used : Int) + ((0 : Nat) : Int)) ((Rc.blocks l.ep x).getD 0 []) = 22 := by
    have := blk_short l.ep x 0
    unfold wrN
    rw [if_pos (by simp only; omega), if_neg (by omega), if_pos (show (1 - 1 : Int) = 0 by decide)]
  have e : dn (l.at_ + (l.used : Int)) (Rc.blocks l.ep x) 2 d = (22, ⟨d.n, 0, d.tr ++ [(l.at_ + (l.used : Int) + 1, (Rc.blocks l.ep x).getD 1 [])]⟩) := by
    rw [dn, if_pos w1, w2, dn, if_neg (by rw [w3]; decide)]
    simp
  rw [app, if_neg (by rw [hd]; decide), if_neg h2, hb, if_neg (by omega), e, if_neg (by simp)]

theorem app_dead {l : Lg} {d : Dsk} (hd : l.dead = true) (x : List UInt8) : app l d x = (22, d, l) := by rw [app, if_pos hd]

theorem app_long {l : Lg} {d : Dsk} (hd : l.dead = false) (x : List UInt8) (h : 512 < x.length) : app l d x = (3, d, l) := by rw [app, if_neg (by rw [hd]; decide), if_pos h]

theorem app_full {l : Lg} {d : Dsk} (hd : l.dead = false) (x : List UInt8) (h : ¬ 512 < x.length) (h2 : l.n - (l.used : Int) < ((Rc.blocks l.ep x).length : Int)) : app l d x = (19, d, l) := by rw [app, if_neg (by rw [hd]; decide), if_neg h, if_pos h2]

theorem fit_of {l : Lg} {d : Dsk} (h1 : 0 ≤ l.at_) (h2 : 1 ≤ l.n) (h3 : l.at_ + l.n ≤ d.n) (h4 : d.n ≤ 4096) (h5 : (l.used : Int) ≤ l.n) (h6 : l.ep < 4294967296) (h7 : -1 ≤ d.left) (h8 : d.left ≤ 9223372036854775807) : Fit l d := ⟨h1, h2, h3, h4, h5, h6, h7, h8⟩

/-- A disk of four blocks, and so many writes. -/
structure D4 (d : Dsk) : Prop where
  n : d.n = 4
  lo : -1 ≤ d.left
  hi : d.left ≤ 1
  tr : d.tr.length ≤ 10
  sm : Small d

/-- What the chapter's examples leave. -/
theorem history : ∃ d1 d2 d3 d4 : Dsk, app ⟨1, 3, 7, 0, 0, false⟩ ⟨4, -1, []⟩ (longL 2) = (0, d1, ⟨1, 3, 7, 1, 1, false⟩) ∧ D4 d1 ∧
    app ⟨1, 3, 7, 1, 1, false⟩ d1 (longL 246) = (0, d2, ⟨1, 3, 7, 3, 2, false⟩) ∧ D4 d2 ∧
    app ⟨1, 3, 7, 3, 2, false⟩ d2 (longL 1) = (19, d2, ⟨1, 3, 7, 3, 2, false⟩) ∧ app ⟨1, 3, 7, 3, 2, false⟩ d2 (longL 513) = (3, d2, ⟨1, 3, 7, 3, 2, false⟩) ∧
    (∃ t1 t2 t3, d2.tr = [(1, t1), (3, t2), (2, t3)]) ∧
    (Rc.scan 7 (texts d2 1 3)).1 = [longL 2, longL 246] ∧ (Rc.scan 8 (texts d2 1 3)).1 = [] ∧
    app ⟨1, 3, 9, 0, 0, false⟩ d2 (longL 2) = (0, d3, ⟨1, 3, 9, 1, 1, false⟩) ∧ D4 d3 ∧
    app ⟨1, 3, 9, 1, 1, false⟩ ⟨d3.n, 1, d3.tr⟩ (longL 246) = (22, d4, ⟨1, 3, 9, 1, 1, true⟩) ∧ D4 d4 ∧
    (Rc.scan 9 (texts ⟨d4.n, -1, d4.tr⟩ 1 3)).1 = [longL 2] := by
  have b2 : ∀ ep, (Rc.blocks ep (longL 2)).length = 1 := fun ep => by rw [blk_long]
  have b1 : ∀ ep, (Rc.blocks ep (longL 1)).length = 1 := fun ep => by rw [blk_long]
  have b246 : ∀ ep, (Rc.blocks ep (longL 246)).length = 2 := fun ep => by rw [blk_long]
  have s2 : ¬ 512 < (longL 2).length := by rw [longL_len]; decide
  have s1 : ¬ 512 < (longL 1).length := by rw [longL_len]; decide
  have s246 : ¬ 512 < (longL 246).length := by rw [longL_len]; decide
  have f0 : Fit ⟨1, 3, 7, 0, 0, false⟩ ⟨4, -1, []⟩ := fit_of (by decide) (by decide) (by decide) (by decide) (by decide) (by decide) (by decide) (by decide)
  have a1 := app_one f0 rfl rfl (longL 2) s2 (b2 7) (by decide)
  have k1 := (Kp.new f0 (clean_new 7 4 (-1))).app (longL 2)
  have m1 := (small_new 4 (-1)).app ⟨1, 3, 7, 0, 0, false⟩ (longL 2)
  rw [a1] at k1 m1
  rw [if_pos rfl] at k1
  have cn8 := (clean_new 8 4 (-1)).app (l := ⟨1, 3, 7, 0, 0, false⟩) (show Rc.lo 7 4 ≠ Rc.lo 8 4 by decide) (longL 2)
  have cn9 := (clean_new 9 4 (-1)).app (l := ⟨1, 3, 7, 0, 0, false⟩) (show Rc.lo 7 4 ≠ Rc.lo 9 4 by decide) (longL 2)
  rw [a1] at cn8 cn9
  obtain ⟨d1, hd1⟩ : ∃ d1 : Dsk, (⟨4, -1, [] ++ [(1 + ((0 : Nat) : Int), (Rc.blocks 7 (longL 2)).getD 0 [])]⟩ : Dsk) = d1 := ⟨_, rfl⟩
  have a1' : app ⟨1, 3, 7, 0, 0, false⟩ ⟨4, -1, []⟩ (longL 2) = (0, d1, ⟨1, 3, 7, 1, 1, false⟩) := by rw [a1, ← hd1]
  have k1' : Kp ⟨1, 3, 7, 1, 1, false⟩ d1 [longL 2] := by rw [← hd1]; exact k1
  have m1' : Small d1 := by rw [← hd1]; exact m1
  have c8 : Clean 8 d1 := by rw [← hd1]; exact cn8
  have c9 : Clean 9 d1 := by rw [← hd1]; exact cn9
  have n1 : d1.n = 4 := by rw [← hd1]
  have l1 : d1.left = -1 := by rw [← hd1]
  have t1 : ∃ t, d1.tr = [(1, t)] := by rw [← hd1]; exact ⟨_, rfl⟩
  clear a1 k1 m1 cn8 cn9 hd1
  have f1 : Fit ⟨1, 3, 7, 1, 1, false⟩ d1 := k1'.fit
  have a2 := app_two f1 rfl l1 (longL 246) s246 (b246 7) (by decide)
  have k2 := k1'.app (longL 246)
  have m2 := m1'.app ⟨1, 3, 7, 1, 1, false⟩ (longL 246)
  have e8 := c8.app (l := ⟨1, 3, 7, 1, 1, false⟩) (show Rc.lo 7 4 ≠ Rc.lo 8 4 by decide) (longL 246)
  have e9 := c9.app (l := ⟨1, 3, 7, 1, 1, false⟩) (show Rc.lo 7 4 ≠ Rc.lo 9 4 by decide) (longL 246)
  rw [a2] at k2 m2 e8 e9
  rw [if_pos rfl] at k2
  obtain ⟨t, ht⟩ := t1
  obtain ⟨d2, hd2⟩ : ∃ d2 : Dsk, (⟨d1.n, -1, d1.tr ++ [(1 + ((1 : Nat) : Int) + 1, (Rc.blocks 7 (longL 246)).getD 1 [])] ++ [(1 + ((1 : Nat) : Int), (Rc.blocks 7 (longL 246)).getD 0 [])]⟩ : Dsk) = d2 := ⟨_, rfl⟩
  have a2' : app ⟨1, 3, 7, 1, 1, false⟩ d1 (longL 246) = (0, d2, ⟨1, 3, 7, 3, 2, false⟩) := by rw [a2, ← hd2]
  have k2' : Kp ⟨1, 3, 7, 3, 2, false⟩ d2 [longL 2, longL 246] := by rw [← hd2]; exact k2
  have m2' : Small d2 := by rw [← hd2]; exact m2
  have g8 : Clean 8 d2 := by rw [← hd2]; exact e8
  have g9 : Clean 9 d2 := by rw [← hd2]; exact e9
  have n2 : d2.n = 4 := by rw [← hd2]; exact n1
  have l2 : d2.left = -1 := by rw [← hd2]
  have t2 : ∃ t1 t2 t3, d2.tr = [(1, t1), (3, t2), (2, t3)] := by rw [← hd2]; simp only [ht]; exact ⟨_, _, _, rfl⟩
  clear a2 k2 m2 e8 e9 hd2 c8 c9
  have f3 : Fit ⟨1, 3, 9, 0, 0, false⟩ d2 := fit_of (by decide) (by decide) (by rw [n2]; decide) (by rw [n2]; decide) (by decide) (by decide) (by omega) (by omega)
  have f8 : Fit ⟨1, 3, 8, 0, 0, false⟩ d2 := fit_of (by decide) (by decide) (by rw [n2]; decide) (by rw [n2]; decide) (by decide) (by decide) (by omega) (by omega)
  have o7 := k2'.opened
  have o8 := (Kp.new f8 g8).opened
  have a3 := app_one f3 rfl l2 (longL 2) s2 (b2 9) (by decide)
  have k3 := (Kp.new f3 g9).app (longL 2)
  have m3 := m2'.app ⟨1, 3, 9, 0, 0, false⟩ (longL 2)
  rw [a3] at k3 m3
  rw [if_pos rfl] at k3
  obtain ⟨d3, hd3⟩ : ∃ d3 : Dsk, (⟨d2.n, -1, d2.tr ++ [(1 + ((0 : Nat) : Int), (Rc.blocks 9 (longL 2)).getD 0 [])]⟩ : Dsk) = d3 := ⟨_, rfl⟩
  have a3' : app ⟨1, 3, 9, 0, 0, false⟩ d2 (longL 2) = (0, d3, ⟨1, 3, 9, 1, 1, false⟩) := by rw [a3, ← hd3]
  have k3' : Kp ⟨1, 3, 9, 1, 1, false⟩ d3 [longL 2] := by rw [← hd3]; exact k3
  have m3' : Small d3 := by rw [← hd3]; exact m3
  have n3 : d3.n = 4 := by rw [← hd3]; exact n2
  have l3 : d3.left = -1 := by rw [← hd3]
  obtain ⟨x1, x2, x3, ht2⟩ := id t2
  have t3 : d3.tr.length ≤ 4 := by rw [← hd3]; simp only [ht2]; simp
  clear a3 k3 m3 hd3
  have k4 := k3'.left 1 (by decide) (by decide)
  have a4 := app_torn k4.fit rfl rfl (longL 246) s246 (b246 9) (by decide)
  have k5 := k4.app (longL 246)
  have m5 := (m3'.left 1).app ⟨1, 3, 9, 1, 1, false⟩ (longL 246)
  rw [a4] at k5 m5
  rw [if_neg (by simp)] at k5
  have o9 := (k5.left (-1) (by decide) (by decide)).opened
  refine ⟨d1, d2, d3, _, a1', ⟨n1, by omega, by omega, by rw [ht]; simp, m1'⟩, a2', ⟨n2, by omega, by omega, by rw [ht2]; simp, m2'⟩, app_full rfl _ s1 (by rw [b1]; decide), app_long rfl _ (by rw [longL_len]; decide), t2, o7, o8, a3', ⟨n3, by omega, by omega, by omega, m3'⟩, a4, ⟨n3, by simp only; decide, by simp only; decide, ?_, m5⟩, o9⟩
  simp only [List.length_append, List.length_singleton]
  omega
end Lo
end Go.Proofs.Ythdibodmnpcekaa
/- The chapter's examples on the program: LogKnown. -/
namespace Go.Proofs.Ythdibodmnpcekaa
set_option linter.ambiguousOpen false
open Go.RowKit
namespace Lo
open Sm Ft Dk
set_option linter.unusedSimpArgs false
set_option linter.unusedVariables false

theorem u8_of (k : Nat) : ((UInt8.ofNat k).toNat : Int) = IntKind.u8.wrap (k : Int) := by
  rw [UInt8.toNat_ofNat', IntKind.wrap_u8]
  omega

set_option maxRecDepth 100000 in
set_option maxHeartbeats 2000000 in
theorem long_any (n : Nat) (w : World) (hn : n ≤ 600) :
    Calls Try.prog 17 #[nu (n : Int)] w fun e w' => ∃ v, e = .returned v ∧ w'.ownsRow w.heap.size 5 1 v n ((longL n).map by1) ∧ Below w.heap.size w w' := by
  obtain ⟨i0, hi, hz0, hz1, hz2⟩ := info_parts info_byte
  go_enter Try.func17, Try.ntmps17
  go_wp2
  go_loopw [3, 4] (fun pv iv wr => ∃ k : Nat, k ≤ n ∧ iv = nu (k : Int) ∧ wr.ownsRow w.heap.size 5 1 pv k ((longL k).map by1) ∧ Below w.heap.size w wr) (fun _ iv _ => n - (intOf iv).toNat)
  case atStart => exact ⟨0, Nat.zero_le _, rfl, World.ownsRow_nil _ _ _ _, Below.refl _ _⟩
  case round =>
    obtain ⟨k, hk, rfl, hown, hbel⟩ := hrel
    by_cases hp : k < n
    · have HS : Hid ((longL (k + 1)).map by1 = (longL k).map by1 ++ [by1 (UInt8.ofNat k)]) := by
        show _ = _
        rw [longL_succ, List.map_append]
        rfl
      have hv : Hid (by1 (UInt8.ofNat k) = .int .u8 (IntKind.u8.wrap (k : Int))) := by
        show Value.int .u8 ((UInt8.ofNat k).toNat : Int) = _
        rw [u8_of]
      rw [hv.out] at HS
      have hkI : (k : Int) < (n : Int) := by omega
      clear hv
      go_wp2_with (at_builtin; refine wpList_append_own _ rfl _ _ 34 rfl w.heap.size 5 i0 (.int .u8 0) 1 1 Try.underlying34 hi hz0 hz1 hz2 rfl (by decide) _ _ _ rfl (hown.alloc _) ⟨wr.heap.size, 0, none⟩ 1 1 [.int .u8 _] rfl rfl (cell_one_new _ _ _) (by simp [Value.oneCell']) (by unfold maxLen; omega) (by omega) (by have := hbel.size; simp; omega) ?_; intro v' w4 hown4 hgrow _; have hbel4 : Below w.heap.size w w4 := Below.grown (hbel.alloc (by exact hbel.size) _) hgrow (by have := hbel.size; simp; omega) (fun k hk => (hown.lt k hk).1))
      go_roundw
      case rel => exact ⟨k + 1, by omega, by go_num, by rw [HS.out]; exact hown4, hbel4⟩
      case measure => simp [intOf]; omega
    · obtain rfl : k = n := by omega
      go_wp2
      go_ret
      exact ⟨_, rfl, hown, hbel⟩
/-- Rows that were just built into a list. -/
theorem rdl_new {w : World} {vs : List Value} {ps : List (List UInt8)} (h : Rc.Reads w vs ps) (hl : vs.length ≤ 1000000) : Rc.RdL (w.alloc (.cells vs.toArray 34)) (.slice (some ⟨w.heap.size, 0, none⟩) ps.length ps.length) ps := by
  have hb : Below w.heap.size w (w.alloc (.cells vs.toArray 34)) := (Below.refl _ _).alloc (Nat.le_refl _) _
  refine ⟨_, ps.length, rfl, Nat.le_refl _, by rw [← h.1]; unfold maxLen; omega, fun _ => ⟨w.heap.size, 0, rfl, by simp, fun j x hj => ?_⟩⟩
  have hj' : j < vs.length := by
    have := (List.getElem?_eq_some_iff.1 hj).1
    rw [h.1]
    exact this
  obtain ⟨r1, r2⟩ := h.2 j vs[j] x (List.getElem?_eq_getElem hj') hj
  refine ⟨vs[j], ?_, r1.below hb, r2⟩
  rw [Nat.zero_add, cell_of_row _ w.heap.size j _ _ _ (heap_alloc_new w _)]
  simp [hj']

set_option maxRecDepth 100000 in
set_option maxHeartbeats 8000000 in
theorem known_walk {Rep : World → Nat → (Nat → Prop) → Dsk → Prop} (H : Says Rep) (SW : ∀ (w : World) (p : Nat) (F : Nat → Prop) (d : Dsk), Rep w p F d → Calls Try.prog 18 #[ptr p] w fun e w' => e = .returned (nu (d.tr.length : Int)) ∧ Below w.heap.size w w') (SF : FrameW) (SS : Rc.ScanC) (w : World) :
    Calls Try.prog 4 #[] w fun e w' => e = .returned (.bool true) ∧ Below w.heap.size w w' := by
  obtain ⟨d1, d2, d3, d4, a1, e1, a2, e2, a3, a4, ⟨t1, t2, t3, htr⟩, o7, o8, a5, e3, a6, e4, o9⟩ := history
  have HH := Hid.mk' H
  have cW := Hid.mk' (fun wx : World => works_yes H SF SS wx)
  have cD := Hid.mk' (H.newYes 4 w (by decide) (by decide))
  have d0n : (1 : Int) ≤ 4 ∧ (4 : Int) ≤ 4096 := by decide
  have cN : Hid (∀ wx p F (a n : Int), Rep wx p F ⟨4, -1, []⟩ → a ≤ 9223372036854775807 → ¬ (0 ≤ a ∧ 1 ≤ n ∧ n ≤ 4 - a) → Calls Try.prog 7 #[ptr p, nu a, nu n, .int .u32 7] wx fun e w' => e = .returned (.tuple #[.pointer none, noE 1]) ∧ Below wx.heap.size wx w') := fun wx p F a n hR ha hm => new_no HH.out wx p F ⟨4, -1, []⟩ a n 7 hR (by decide) ha (may_out _ _ _ hm)
  have cX : Hid (∀ wx p F (a n : Int), Rep wx p F ⟨4, -1, []⟩ → a ≤ 9223372036854775807 → ¬ (0 ≤ a ∧ 1 ≤ n ∧ n ≤ 4 - a) → Calls Try.prog 15 #[ptr p, nu a, nu n, .int .u32 7] wx fun e w' => e = .returned (.tuple #[.pointer none, .slice none 0 0, noE 1]) ∧ Below wx.heap.size wx w') := fun wx p F a n hR ha hm => open_no HH.out wx p F ⟨4, -1, []⟩ a n 7 hR (by decide) ha (may_out _ _ _ hm)
  have cY7 : Hid (∀ wx p F, Rep wx p F ⟨4, -1, []⟩ → Calls Try.prog 7 #[ptr p, nu 1, nu 3, .int .u32 7] wx fun e w' => ∃ q, e = .returned (.tuple #[ptr q, .nilIface]) ∧ Pl w' q p ⟨1, 3, 7, 0, 0, false⟩ ∧ wx.heap.size ≤ q ∧ Below wx.heap.size wx w') := fun wx p F hR => new_yes HH.out wx p F ⟨4, -1, []⟩ 1 3 7 hR (by decide) (by decide) (may_in _ _ _ (by decide) (by decide) (by decide))
  have cY9 : Hid (∀ wx p F, Rep wx p F d2 → Calls Try.prog 7 #[ptr p, nu 1, nu 3, .int .u32 9] wx fun e w' => ∃ q, e = .returned (.tuple #[ptr q, .nilIface]) ∧ Pl w' q p ⟨1, 3, 9, 0, 0, false⟩ ∧ wx.heap.size ≤ q ∧ Below wx.heap.size wx w') := fun wx p F hR => new_yes HH.out wx p F d2 1 3 9 hR (by rw [e2.n]; decide) (by decide) (may_in _ _ _ (by decide) (by decide) (by rw [e2.n]; decide))
  have cM : Hid (∀ (n : Nat) wx, 1 ≤ n → n ≤ 24 → Calls Try.prog 12 #[noE (n : Int)] wx fun e w' => e = .returned (nu (n : Int)) ∧ Below wx.heap.size wx w') := fun n wx h1 h2 => Er.num_no n h1 h2 wx
  have cL : Hid (∀ (n : Nat) wx, n ≤ 600 → Calls Try.prog 17 #[nu (n : Int)] wx fun e w' => ∃ a c, e = .returned (.slice a n c) ∧ (RdB w' (.slice a n c) (longL n) ∧ Pk.Nz (.slice a n c)) ∧ Below wx.heap.size wx w') := fun n wx hn => (long_any n wx hn).mono (by
    rintro e w' ⟨v, rfl, ho, hb⟩
    obtain ⟨a, c, rfl, _⟩ := Nm.own_shape ho
    exact ⟨a, c, rfl, ⟨own_rd' ho (longL_len n), Pk.nz_own ho⟩, hb⟩)
  have cA : Hid (∀ wx p q F d l x v N d' l' E, Ow Rep w wx p q F d l → D4 d → app l d x = (N, d', l') → errE N = E → (0 ≤ l.at_ ∧ 1 ≤ l.n ∧ l.at_ + l.n ≤ 4 ∧ (l.used : Int) ≤ l.n ∧ l.ep < 4294967296 ∧ l.recs ≤ 10) → (RdB wx v x ∧ Pk.Nz v) → Calls Try.prog 8 #[ptr q, v] wx fun e w' => e = .returned E ∧ ∃ G, Ow Rep w w' p q G d' l') := fun wx p q F d l x v N d' l' E hO hD he hE hl hv => by
    have hn := hD.n
    have h1 := hD.lo
    have h2 := hD.hi
    have h3 := hD.tr
    refine (append_any HH.out SF wx p q F d l v x hO.rep hO.pl hO.off ⟨hl.1, hl.2.1, by omega, by omega, hl.2.2.2.1, hl.2.2.2.2.1, by omega, by omega⟩ (by omega) (by omega) hv.1 hv.2).mono ?_
    rintro e w' ⟨rfl, hL⟩
    rw [he] at hL ⊢
    obtain ⟨G, hG, _, _⟩ := hO.left hL
    exact ⟨by rw [← hE], G, hG⟩
  have cO : ∀ (ep : Nat) (d : Dsk) (Lx : List (List UInt8)), D4 d → ep < 4294967296 → (Rc.scan ep (texts d 1 3)).1 = Lx → ∀ wx p F, Rep wx p F d → Calls Try.prog 15 #[ptr p, nu 1, nu 3, .int .u32 (ep : Int)] wx fun e w' => ∃ q a c, e = .returned (.tuple #[ptr q, .slice a Lx.length c, .nilIface]) ∧ Rc.RdL w' (.slice a Lx.length c) Lx ∧ Below wx.heap.size wx w' := fun ep d Lx hD hep hs wx p F hR => by
    have hn := hD.n
    have h3 := hD.tr
    refine (open_yes HH.out SS wx p F d 1 3 ep hR (by omega) (by decide) (may_in _ _ _ (by decide) (by decide) (by rw [hn]; decide)) hep hD.sm (by omega)).mono ?_
    rintro e w' ⟨q, r, B, vs, rfl, hT⟩
    have hrl := Rc.rows_rdl hT.out hT.rows
    rw [hs] at hrl
    obtain ⟨a, c, rfl, _⟩ := id hrl
    exact ⟨q, a, c, rfl, hrl, hT.bel⟩
  have cO7 := Hid.mk' (cO 7 d2 _ e2 (by decide) o7)
  have cO8 := Hid.mk' (cO 8 d2 _ e2 (by decide) o8)
  have e5 : D4 ⟨d4.n, -1, d4.tr⟩ := ⟨e4.n, by simp only; decide, by simp only; decide, e4.tr, e4.sm⟩
  have cO9 := Hid.mk' (cO 9 ⟨d4.n, -1, d4.tr⟩ _ e5 (by decide) o9)
  have cS : Hid (∀ wx v1 v2 Lx, Rc.RdL wx v1 Lx → Rc.RdL wx v2 Lx → Calls Try.prog 16 #[v1, v2] wx fun e w' => e = .returned (.bool true) ∧ Below wx.heap.size wx w') := fun wx v1 v2 Lx q1 q2 => same_rows v1 v2 Lx wx q1 q2
  have cT : Hid (∀ wx p F, Rep wx p F d2 → Calls Try.prog 19 #[ptr p] wx fun e w' => ∃ g c, e = .returned (.slice (some ⟨g, 0, none⟩) 3 c) ∧ w'.cell? ⟨g, 0, none⟩ = some (nu 1) ∧ w'.cell? ⟨g, 2, none⟩ = some (nu 3) ∧ w'.cell? ⟨g, 4, none⟩ = some (nu 2) ∧ 3 ≤ c ∧ c ≤ maxLen ∧ Below wx.heap.size wx w') := fun wx p F hR => by
    have h3 := e2.tr
    refine (HH.out.trail wx p F d2 hR (by omega)).mono ?_
    rintro e w' ⟨v, rfl, ho, hb⟩
    rw [htr] at ho
    have hlen : ([(1, t1), (3, t2), (2, t3)] : List Raw).length = 3 := rfl
    rw [hlen] at ho
    obtain ⟨a, c, rfl, hc1, hc2, hx⟩ := Nm.own_shape ho
    obtain ⟨g, rfl⟩ := hx (by decide)
    exact ⟨g, c, rfl, (raw_cells ho 0 (1, t1) rfl rfl).1, (raw_cells ho 1 (3, t2) rfl rfl).1, (raw_cells ho 2 (2, t3) rfl rfl).1, hc1, hc2, hb⟩
  have cWr : Hid (∀ wx p F, Rep wx p F d2 → Calls Try.prog 18 #[ptr p] wx fun e w' => e = .returned (nu 3) ∧ Below wx.heap.size wx w') := fun wx p F hR => by
    have := SW wx p F d2 hR
    rw [htr] at this
    exact this
  have cC : Hid (∀ wx p F, Rep wx p F d3 → Calls Try.prog 9 #[ptr p, nu 1] wx fun e w' => (∃ u, e = .returned u) ∧ ∃ F', Rep w' p F' ⟨d3.n, 1, d3.tr⟩ ∧ Keep F wx w' ∧ Goes wx F F') := fun wx p F hR => HH.out.cut wx p F d3 1 hR (by decide)
  have cR : Hid (∀ wx p F, Rep wx p F d4 → _) := fun wx p F hR => HH.out.restore wx p F d4 hR
  have e3' : D4 ⟨d3.n, 1, d3.tr⟩ := ⟨e3.n, by simp only; decide, by simp only; decide, e3.tr, e3.sm⟩
  have e0 : D4 ⟨4, -1, []⟩ := ⟨rfl, by decide, by decide, by decide, small_new 4 (-1)⟩
  have HE : Hid (D4 ⟨4, -1, []⟩ ∧ D4 d1 ∧ D4 d2 ∧ D4 ⟨d3.n, 1, d3.tr⟩ ∧ D4 d4 ∧ D4 ⟨d4.n, -1, d4.tr⟩) := ⟨e0, e1, e2, e3', e4, e5⟩
  have HA1 := Hid.mk' a1
  have HA2 := Hid.mk' a2
  have HA3 := Hid.mk' a3
  have HA4 := Hid.mk' a4
  have HA5 := Hid.mk' a5
  have HA6 := Hid.mk' a6
  clear H cO a1 a2 a3 a4 a5 a6 e0 e1 e2 e3 e3' e4 e5 o7 o8 o9 htr SF SS SW
  go_enter Try.func4, Try.ntmps4
  go_wp2_with fail
  refine cD.out.mono ?_
  rintro e w1 ⟨p, F, rfl, hR, hF, hb⟩
  have HO1 : Hid (On Rep w w1 p F ⟨4, -1, []⟩) := ⟨hR, hF, hb⟩
  clear hR hF hb cD
  go_wp2_with fail
  refine (cW.out w1).mono ?_
  rintro e w2 ⟨rfl, hb⟩
  have HO2 := Hid.mk' (HO1.out.below HH.out hb)
  clear hb cW HO1
  go_wp2_with fail
  refine (cN.out w2 p F 1 4 HO2.out.rep (by decide) (by decide)).mono ?_
  rintro e w3 ⟨rfl, hb⟩
  have HO3 := Hid.mk' (HO2.out.below HH.out hb)
  clear hb HO2
  go_wp2_with fail
  refine (cN.out w3 p F (-1) 2 HO3.out.rep (by decide) (by decide)).mono ?_
  rintro e w4 ⟨rfl, hb⟩
  have HO4 := Hid.mk' (HO3.out.below HH.out hb)
  clear hb HO3
  go_wp2_with fail
  refine (cN.out w4 p F 0 0 HO4.out.rep (by decide) (by decide)).mono ?_
  rintro e w5 ⟨rfl, hb⟩
  have HO5 := Hid.mk' (HO4.out.below HH.out hb)
  clear hb HO4
  go_wp2_with fail
  refine (cX.out w5 p F 4 1 HO5.out.rep (by decide) (by decide)).mono ?_
  rintro e w6 ⟨rfl, hb⟩
  have HO6 := Hid.mk' (HO5.out.below HH.out hb)
  clear hb HO5
  go_wp2_with fail
  refine (cN.out w6 p F 1 9223372036854775807 HO6.out.rep (by decide) (by decide)).mono ?_
  rintro e w7 ⟨rfl, hb⟩
  have HO7 := Hid.mk' (HO6.out.below HH.out hb)
  clear hb HO6
  go_wp2_with fail
  refine (cY7.out w7 p F HO7.out.rep).mono ?_
  rintro e w8 ⟨q, rfl, hP, hq, hb⟩
  have HO8 := Hid.mk' (Ow.new HH.out HO7.out hP hq hb)
  clear hP hq hb HO7 cN cX cY7
  go_wp2_with fail
  refine (cM.out 1 w8 (by decide) (by decide)).mono ?_
  rintro e w9 ⟨rfl, hb⟩
  have HO9 := Hid.mk' (HO8.out.below HH.out hb)
  clear hb HO8
  go_wp2_with fail
  refine (cM.out 1 w9 (by decide) (by decide)).mono ?_
  rintro e w10 ⟨rfl, hb⟩
  have HO10 := Hid.mk' (HO9.out.below HH.out hb)
  clear hb HO9
  go_wp2_with fail
  refine (cM.out 1 w10 (by decide) (by decide)).mono ?_
  rintro e w11 ⟨rfl, hb⟩
  have HO11 := Hid.mk' (HO10.out.below HH.out hb)
  clear hb HO10
  go_wp2_with fail
  refine (cM.out 1 w11 (by decide) (by decide)).mono ?_
  rintro e w12 ⟨rfl, hb⟩
  have HO12 := Hid.mk' (HO11.out.below HH.out hb)
  clear hb HO11
  go_wp2_with fail
  refine (cM.out 1 w12 (by decide) (by decide)).mono ?_
  rintro e w13 ⟨rfl, hb⟩
  have HO13 := Hid.mk' (HO12.out.below HH.out hb)
  clear hb HO12
  go_wp2_with fail
  refine (cL.out 2 w13 (by decide)).mono ?_
  rintro e w14 ⟨a14, c14, rfl, hr, hb⟩
  have HO14 := Hid.mk' (HO13.out.below HH.out hb)
  have HR14 := Hid.mk' hr
  clear hb hr HO13
  go_wp2_with fail
  refine (cA.out w14 p q F ⟨4, -1, []⟩ ⟨1, 3, 7, 0, 0, false⟩ (longL 2) _ _ _ _ .nilIface HO14.out HE.out.1 HA1.out rfl (by decide) HR14.out).mono ?_
  rintro e w15 ⟨rfl, G15, hO⟩
  have HO15 := Hid.mk' hO
  clear hO HO14 HR14
  go_wp2_with fail
  refine (cL.out 246 w15 (by decide)).mono ?_
  rintro e w16 ⟨a16, c16, rfl, hr, hb⟩
  have HO16 := Hid.mk' (HO15.out.below HH.out hb)
  have HR16 := Hid.mk' hr
  clear hb hr HO15
  go_wp2_with fail
  refine (cA.out w16 p q G15 d1 ⟨1, 3, 7, 1, 1, false⟩ (longL 246) _ _ _ _ .nilIface HO16.out HE.out.2.1 HA2.out rfl (by decide) HR16.out).mono ?_
  rintro e w17 ⟨rfl, G17, hO⟩
  have HO17 := Hid.mk' hO
  clear hO HO16 HR16
  go_wp2_with fail
  refine (room_is w17 q p _ 0 HO17.out.pl (by decide) (by decide) (by decide)).mono ?_
  rintro e w18 ⟨rfl, hb⟩
  have HO18 := Hid.mk' (HO17.out.below HH.out hb)
  clear hb HO17
  go_wp2_with fail
  refine (records_is w18 q p _ 2 HO18.out.pl (by decide)).mono ?_
  rintro e w19 ⟨rfl, hb⟩
  have HO19 := Hid.mk' (HO18.out.below HH.out hb)
  clear hb HO18
  go_wp2_with fail
  refine (cL.out 1 w19 (by decide)).mono ?_
  rintro e w20 ⟨a20, c20, rfl, hr, hb⟩
  have HO20 := Hid.mk' (HO19.out.below HH.out hb)
  have HR20 := Hid.mk' hr
  clear hb hr HO19
  go_wp2_with fail
  refine (cA.out w20 p q G17 d2 ⟨1, 3, 7, 3, 2, false⟩ (longL 1) _ _ _ _ (noE 19) HO20.out HE.out.2.2.1 HA3.out rfl (by decide) HR20.out).mono ?_
  rintro e w21 ⟨rfl, G21, hO⟩
  have HO21 := Hid.mk' hO
  clear hO HO20 HR20
  go_wp2_with fail
  refine (cM.out 19 w21 (by decide) (by decide)).mono ?_
  rintro e w22 ⟨rfl, hb⟩
  have HO22 := Hid.mk' (HO21.out.below HH.out hb)
  clear hb HO21
  go_wp2_with fail
  refine (cL.out 513 w22 (by decide)).mono ?_
  rintro e w23 ⟨a23, c23, rfl, hr, hb⟩
  have HO23 := Hid.mk' (HO22.out.below HH.out hb)
  have HR23 := Hid.mk' hr
  clear hb hr HO22
  go_wp2_with fail
  refine (cA.out w23 p q G21 d2 ⟨1, 3, 7, 3, 2, false⟩ (longL 513) _ _ _ _ (noE 3) HO23.out HE.out.2.2.1 HA4.out rfl (by decide) HR23.out).mono ?_
  rintro e w24 ⟨rfl, G24, hO⟩
  have HO24 := Hid.mk' hO
  clear hO HO23 HR23
  go_wp2_with fail
  refine (cM.out 3 w24 (by decide) (by decide)).mono ?_
  rintro e w25 ⟨rfl, hb⟩
  have HO25 := Hid.mk' (HO24.out.below HH.out hb)
  clear hb HO24
  go_wp2_with fail
  refine (cWr.out w25 p G24 HO25.out.rep).mono ?_
  rintro e w26 ⟨rfl, hb⟩
  have HO26 := Hid.mk' (HO25.out.below HH.out hb)
  clear hb HO25
  go_wp2_with fail
  refine (cT.out w26 p G24 HO26.out.rep).mono ?_
  rintro e w27 ⟨g, c, rfl, x0, x2, x4, hc1, hc2, hb⟩
  have HO27 := Hid.mk' (HO26.out.below HH.out hb)
  unfold maxLen at hc2
  clear hb HO26 cT cWr HA1 HA2 HA3 HA4
  go_wp2_with fail
  refine (cO7.out w27 p G24 HO27.out.rep).mono ?_
  rintro e w28 ⟨q28, a28, c28, rfl, hrl, hb⟩
  have HO28 := Hid.mk' (HO27.out.below HH.out hb)
  have HP := Hid.mk' hrl
  clear hb hrl HO27 cO7
  clear x0 x2 x4
  go_wp2_with fail
  refine (cO8.out w28 p G24 HO28.out.rep).mono ?_
  rintro e w29 ⟨q29, a29, c29, rfl, hrl, hb⟩
  have HO29 := Hid.mk' (HO28.out.below HH.out hb)
  have HPn := Hid.mk' (HP.out.below hb)
  clear HP
  have HP := HPn
  clear HPn
  have HQ := Hid.mk' hrl
  clear hb hrl HO28 cO8
  obtain ⟨_, _, _, hq8a, hq8b, _⟩ := id HQ.out
  clear HQ
  go_wp2_with fail
  refine (cL.out 2 w29 (by decide)).mono ?_
  rintro e w30 ⟨a30, c30, rfl, hr, hb⟩
  have HO30 := Hid.mk' (HO29.out.below HH.out hb)
  have HR30 := Hid.mk' hr
  have HPn := Hid.mk' (HP.out.below hb)
  clear HP
  have HP := HPn
  clear HPn
  clear hb hr HO29
  have HX : Hid (RdB w30 (.slice a30 2 c30) (longL 2)) := HR30.out.1
  have HXZ : Hid (Pk.Nz (.slice a30 2 c30)) := HR30.out.2
  clear HR30
  go_wp2_with fail
  refine (cL.out 246 w30 (by decide)).mono ?_
  rintro e w31 ⟨a31, c31, rfl, hr, hb⟩
  have HO31 := Hid.mk' (HO30.out.below HH.out hb)
  have HR31 := Hid.mk' hr
  have HPn := Hid.mk' (HP.out.below hb)
  clear HP
  have HP := HPn
  clear HPn
  have HXn := Hid.mk' (HX.out.below hb)
  clear HX
  have HX := HXn
  clear HXn
  clear hb hr HO30
  have hrs : Rc.Reads w31 [.slice a30 2 c30, .slice a31 246 c31] [longL 2, longL 246] := ⟨rfl, fun j v x hj hx => by
    match j, hj, hx with
    | 0, hj, hx => simp at hj hx; subst hj hx; exact ⟨HX.out, HXZ.out⟩
    | 1, hj, hx => simp at hj hx; subst hj hx; exact HR31.out⟩
  have ba : Below w31.heap.size w31 (w31.alloc (.cells #[.slice a30 2 c30, .slice a31 246 c31] 34)) := (Below.refl _ _).alloc (Nat.le_refl _) _
  have CS := Hid.mk' (cS.out _ _ _ _ (HP.out.below ba) (rdl_new hrs (by simp)))
  have HOa := Hid.mk' (HO31.out.below HH.out ba)
  clear hrs ba HX HXZ HR31 HO31 HP
  go_wp2_with fail
  refine CS.out.mono ?_
  rintro e w32 ⟨rfl, hb⟩
  have HO32 := Hid.mk' (HOa.out.below HH.out hb)
  clear hb HOa CS
  go_wp2_with fail
  refine (cY9.out w32 p G24 HO32.out.rep).mono ?_
  rintro e w33 ⟨qn, rfl, hP, hq, hb⟩
  have HO33 := Hid.mk' (Ow.new HH.out HO32.out.on hP hq hb)
  clear hP hq hb HO32 cY9
  go_wp2_with fail
  refine (cL.out 2 w33 (by decide)).mono ?_
  rintro e w34 ⟨a34, c34, rfl, hr, hb⟩
  have HO34 := Hid.mk' (HO33.out.below HH.out hb)
  have HR34 := Hid.mk' hr
  clear hb hr HO33
  go_wp2_with fail
  refine (cA.out w34 p qn G24 d2 ⟨1, 3, 9, 0, 0, false⟩ (longL 2) _ _ _ _ .nilIface HO34.out HE.out.2.2.1 HA5.out rfl (by decide) HR34.out).mono ?_
  rintro e w35 ⟨rfl, G35, hO⟩
  have HO35 := Hid.mk' hO
  clear hO HO34 HR34
  go_wp2_with fail
  refine (cC.out w35 p G35 HO35.out.rep).mono ?_
  rintro e w36 ⟨⟨uu, rfl⟩, G36, z1, z2, z3⟩
  have HO36 := Hid.mk' (HO35.out.turned z1 z2 z3)
  clear z1 z2 z3 HO35 cC
  go_wp2_with fail
  refine (cL.out 246 w36 (by decide)).mono ?_
  rintro e w37 ⟨a37, c37, rfl, hr, hb⟩
  have HO37 := Hid.mk' (HO36.out.below HH.out hb)
  have HR37 := Hid.mk' hr
  clear hb hr HO36
  go_wp2_with fail
  refine (cA.out w37 p qn G36 ⟨d3.n, 1, d3.tr⟩ ⟨1, 3, 9, 1, 1, false⟩ (longL 246) _ _ _ _ (noE 22) HO37.out HE.out.2.2.2.1 HA6.out rfl (by decide) HR37.out).mono ?_
  rintro e w38 ⟨rfl, G38, hO⟩
  have HO38 := Hid.mk' hO
  clear hO HO37 HR37
  go_wp2_with fail
  refine (cL.out 1 w38 (by decide)).mono ?_
  rintro e w39 ⟨a39, c39, rfl, hr, hb⟩
  have HO39 := Hid.mk' (HO38.out.below HH.out hb)
  have HR39 := Hid.mk' hr
  clear hb hr HO38
  go_wp2_with fail
  refine (cA.out w39 p qn G38 d4 ⟨1, 3, 9, 1, 1, true⟩ (longL 1) _ _ _ _ (noE 22) HO39.out HE.out.2.2.2.2.1 (app_dead rfl _) rfl (by decide) HR39.out).mono ?_
  rintro e w40 ⟨rfl, G40, hO⟩
  have HO40 := Hid.mk' hO
  clear hO HO39 HR39
  go_wp2_with fail
  refine (cL.out 513 w40 (by decide)).mono ?_
  rintro e w41 ⟨a41, c41, rfl, hr, hb⟩
  have HO41 := Hid.mk' (HO40.out.below HH.out hb)
  have HR41 := Hid.mk' hr
  clear hb hr HO40
  go_wp2_with fail
  refine (cA.out w41 p qn G40 d4 ⟨1, 3, 9, 1, 1, true⟩ (longL 513) _ _ _ _ (noE 22) HO41.out HE.out.2.2.2.2.1 (app_dead rfl _) rfl (by decide) HR41.out).mono ?_
  rintro e w42 ⟨rfl, G42, hO⟩
  have HO42 := Hid.mk' hO
  clear hO HO41 HR41
  go_wp2_with fail
  refine (cR.out w42 p G42 HO42.out.rep).mono ?_
  rintro e w43 ⟨⟨uu, rfl⟩, G43, z1, z2, z3⟩
  have HO43 := Hid.mk' (HO42.out.turned z1 z2 z3)
  clear z1 z2 z3 HO42 cR
  go_wp2_with fail
  refine (cL.out 1 w43 (by decide)).mono ?_
  rintro e w44 ⟨a44, c44, rfl, hr, hb⟩
  have HO44 := Hid.mk' (HO43.out.below HH.out hb)
  have HR44 := Hid.mk' hr
  clear hb hr HO43
  go_wp2_with fail
  refine (cA.out w44 p qn G43 ⟨d4.n, -1, d4.tr⟩ ⟨1, 3, 9, 1, 1, true⟩ (longL 1) _ _ _ _ (noE 22) HO44.out HE.out.2.2.2.2.2 (app_dead rfl _) rfl (by decide) HR44.out).mono ?_
  rintro e w45 ⟨rfl, G45, hO⟩
  have HO45 := Hid.mk' hO
  clear hO HO44 HR44
  go_wp2_with fail
  refine (cO9.out w45 p G45 HO45.out.rep).mono ?_
  rintro e w46 ⟨q46, a46, c46, rfl, hrl, hb⟩
  have HO46 := Hid.mk' (HO45.out.below HH.out hb)
  have HP := Hid.mk' hrl
  clear hb hrl HO45 cO9
  go_wp2_with fail
  refine (cM.out 22 w46 (by decide) (by decide)).mono ?_
  rintro e w47 ⟨rfl, hb⟩
  have HO47 := Hid.mk' (HO46.out.below HH.out hb)
  have HPn := Hid.mk' (HP.out.below hb)
  clear HP
  have HP := HPn
  clear HPn
  clear hb HO46
  go_wp2_with fail
  refine (cM.out 22 w47 (by decide) (by decide)).mono ?_
  rintro e w48 ⟨rfl, hb⟩
  have HO48 := Hid.mk' (HO47.out.below HH.out hb)
  have HPn := Hid.mk' (HP.out.below hb)
  clear HP
  have HP := HPn
  clear HPn
  clear hb HO47
  go_wp2_with fail
  refine (cM.out 22 w48 (by decide) (by decide)).mono ?_
  rintro e w49 ⟨rfl, hb⟩
  have HO49 := Hid.mk' (HO48.out.below HH.out hb)
  have HPn := Hid.mk' (HP.out.below hb)
  clear HP
  have HP := HPn
  clear HPn
  clear hb HO48
  go_wp2_with fail
  refine (cM.out 22 w49 (by decide) (by decide)).mono ?_
  rintro e w50 ⟨rfl, hb⟩
  have HO50 := Hid.mk' (HO49.out.below HH.out hb)
  have HPn := Hid.mk' (HP.out.below hb)
  clear HP
  have HP := HPn
  clear HPn
  clear hb HO49
  go_wp2_with fail
  refine (cL.out 2 w50 (by decide)).mono ?_
  rintro e w51 ⟨a51, c51, rfl, hr, hb⟩
  have HO51 := Hid.mk' (HO50.out.below HH.out hb)
  have HR51 := Hid.mk' hr
  have HPn := Hid.mk' (HP.out.below hb)
  clear HP
  have HP := HPn
  clear HPn
  clear hb hr HO50
  have hrs : Rc.Reads w51 [.slice a51 2 c51] [longL 2] := ⟨rfl, fun j v x hj hx => by
    match j, hj, hx with
    | 0, hj, hx => simp at hj hx; subst hj hx; exact HR51.out⟩
  have ba : Below w51.heap.size w51 (w51.alloc (.cells #[.slice a51 2 c51] 34)) := (Below.refl _ _).alloc (Nat.le_refl _) _
  have CS := Hid.mk' (cS.out _ _ _ _ (HP.out.below ba) (rdl_new hrs (by simp)))
  have HOa := Hid.mk' (HO51.out.below HH.out ba)
  clear hrs ba HR51 HO51 HP
  go_wp2_with fail
  refine CS.out.mono ?_
  rintro e w52 ⟨rfl, hb⟩
  have HB := Hid.mk' (HOa.out.below HH.out hb).bel
  clear hb HOa CS
  go_wp2
  go_ret
  exact ⟨rfl, HB.out⟩
end Lo
end Go.Proofs.Ythdibodmnpcekaa
