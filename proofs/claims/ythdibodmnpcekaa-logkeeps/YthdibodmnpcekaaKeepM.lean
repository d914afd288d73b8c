/- SmeR, WrkR, LadR, KeepP, LawL, WrkL, KeepK, in one text. -/
import Derived.Test.YthdibodmnpcekaaCvR
import Derived.Deep.RegionHeld3
import Derived.Test.YthdibodmnpcekaaSayR
import Derived.Test.YthdibodmnpcekaaBegR
import Derived.Test.YthdibodmnpcekaaLogP
import Derived.Test.YthdibodmnpcekaaOneK
import Derived.Test.YthdibodmnpcekaaLogO
import Derived.Test.YthdibodmnpcekaaNum
/- Lists of payloads, and whether two are the same. -/
namespace Go.Proofs.Ythdibodmnpcekaa
set_option linter.ambiguousOpen false
open Go.RowKit
namespace Rc
open Sm Pk
set_option linter.unusedSimpArgs false
set_option linter.unusedVariables false

/-- The value v reads, in w, as the list of rows L. -/
def RdL (w : World) (v : Value) (L : List (List UInt8)) : Prop :=
  ∃ a cap, v = .slice a L.length cap ∧ L.length ≤ cap ∧ cap ≤ maxLen ∧ (0 < L.length → ∃ g o, a = some ⟨g, o, none⟩ ∧ g < w.heap.size ∧ ∀ (j : Nat) (p : List UInt8), L[j]? = some p → ∃ u, w.cell? ⟨g, o + j, none⟩ = some u ∧ RdB w u p ∧ Nz u)

theorem RdL.below {w w' : World} {v : Value} {L : List (List UInt8)} (h : RdL w v L) (hb : Below w.heap.size w w') : RdL w' v L := by
  obtain ⟨a, cap, h1, h2, h3, h4⟩ := h
  refine ⟨a, cap, h1, h2, h3, fun h0 => ?_⟩
  obtain ⟨g, o, e1, e2, e3⟩ := h4 h0
  refine ⟨g, o, e1, Nat.lt_of_lt_of_le e2 hb.size, fun j p hj => ?_⟩
  obtain ⟨u, f1, f2, f3⟩ := e3 j p hj
  exact ⟨u, (hb.cell (p := ⟨g, o + j, none⟩) e2).trans f1, f2.below hb, f3⟩

end Rc
end Go.Proofs.Ythdibodmnpcekaa
/- What each law on records asks first: a small record has one block, and is found. -/
namespace Go.Proofs.Ythdibodmnpcekaa
set_option linter.ambiguousOpen false
open Go.RowKit
namespace Rc
open Sm Pk
set_option linter.unusedSimpArgs false
set_option linter.unusedVariables false

theorem rd_newR (w : World) (l : List UInt8) (h : l.length ≤ 1000000) : RdB (w.alloc (.cells (l.map by1).toArray 5)) (.slice (some ⟨w.heap.size, 0, none⟩) l.length l.length) l := by
  refine ⟨_, l.length, rfl, Nat.le_refl _, by unfold maxLen; omega, fun _ => ⟨w.heap.size, 0, rfl, by simp, fun j hj => ?_⟩⟩
  rw [Nat.zero_add, cell_of_row _ w.heap.size j _ _ _ (heap_alloc_new w _)]
  simp [hj]

/-- A list of rows that a call has made reads as those rows. -/
theorem rows_rdl {w : World} {base : Nat} {r : Value} {vs : List Value} {ps : List (List UInt8)} (h : w.ownsRow base 34 1 r vs.length vs) (hr : Rows w base vs ps) : RdL w r ps := by
  have hl := hr.len
  rcases h.2 with ⟨rfl, h0⟩ | ⟨g, cap, cur, rfl, h1, h2, h3, h4, h5, h6⟩
  · have : ps = [] := List.eq_nil_of_length_eq_zero (by omega)
    subst this
    exact ⟨none, 0, rfl, Nat.le_refl _, by decide, fun h => by simp at h⟩
  · refine ⟨some ⟨g, 0, none⟩, cap, by rw [hl], by omega, h4, fun _ => ⟨g, 0, rfl, (Array.getElem?_eq_some_iff.1 h2).1, fun j p hj => ?_⟩⟩
    have hj' : j < vs.length := by
      have := (List.getElem?_eq_some_iff.1 hj).1
      omega
    have ho := hr.own j vs[j] p (List.getElem?_eq_getElem hj') hj
    refine ⟨vs[j], ?_, own_rd ho, nz_own ho⟩
    rw [Nat.zero_add]
    have := h.cells (g := g) rfl j vs[j] (List.getElem?_eq_getElem hj')
    rw [Addr.add_lit, Nat.zero_add] at this
    exact this

theorem scan_seven : (scan 1 (blocks 1 [7])).1 = [[7]] ∧ (scan 1 (blocks 1 [7])).2.2 = 1 := by
  have h := scan_whole 1 [[7]] [] (fun p hp => by simp at hp; rw [hp]; decide) (fun b r hb => by simp at hb)
  have e : flat 1 [[7]] ++ [] = blocks 1 [7] := by simp [flat]
  rw [e] at h
  refine ⟨h.1, h.2.trans ?_⟩
  simp [flat, blocks_len]

end Rc
end Go.Proofs.Ythdibodmnpcekaa
/- The blocks of records, one behind the other, and their payloads. -/
namespace Go.Proofs.Ythdibodmnpcekaa
set_option linter.ambiguousOpen false
open Go.RowKit
namespace Rc
open Sm Pk
set_option linter.unusedSimpArgs false
set_option linter.unusedVariables false

/-- The rows that lie in a list under way read as payloads. -/
def Reads (w : World) (vs : List Value) (ps : List (List UInt8)) : Prop := vs.length = ps.length ∧ ∀ (j : Nat) (v : Value) (p : List UInt8), vs[j]? = some v → ps[j]? = some p → RdB w v p ∧ Nz v

theorem Reads.below {w w' : World} {vs : List Value} {ps : List (List UInt8)} (h : Reads w vs ps) (hb : Below w.heap.size w w') : Reads w' vs ps :=
  ⟨h.1, fun j v p hj hp => ⟨(h.2 j v p hj hp).1.below hb, (h.2 j v p hj hp).2⟩⟩

theorem Reads.snoc {w : World} {vs : List Value} {ps : List (List UInt8)} (h : Reads w vs ps) {v : Value} {p : List UInt8} (hr : RdB w v p) (hz : Nz v) : Reads w (vs ++ [v]) (ps ++ [p]) := by
  refine ⟨by rw [List.length_append, List.length_append, h.1]; rfl, fun j u q hj hq => ?_⟩
  rcases Nat.lt_or_ge j vs.length with hl | hl
  · rw [List.getElem?_append_left hl] at hj
    rw [List.getElem?_append_left (by rw [← h.1]; exact hl)] at hq
    exact h.2 j u q hj hq
  · rw [List.getElem?_append_right hl] at hj
    rw [List.getElem?_append_right (by rw [← h.1]; exact hl), ← h.1] at hq
    obtain ⟨k, hk⟩ : ∃ k, j - vs.length = k := ⟨_, rfl⟩
    rw [hk] at hj hq
    cases k with
    | zero =>
      simp at hj hq
      subst hj hq
      exact ⟨hr, hz⟩
    | succ k => simp at hj

theorem reads_rdl {w : World} {base : Nat} {r : Value} {vs : List Value} {ps : List (List UInt8)} (h : w.ownsRow base 34 1 r vs.length vs) (hr : Reads w vs ps) : RdL w r ps := by
  have hl := hr.1
  rcases h.2 with ⟨rfl, h0⟩ | ⟨g, cap, cur, rfl, h1, h2, h3, h4, h5, h6⟩
  · have : ps = [] := List.eq_nil_of_length_eq_zero (by omega)
    subst this
    exact ⟨none, 0, rfl, Nat.le_refl _, by decide, fun h => by simp at h⟩
  · refine ⟨some ⟨g, 0, none⟩, cap, by rw [hl], by omega, h4, fun _ => ⟨g, 0, rfl, (Array.getElem?_eq_some_iff.1 h2).1, fun j p hj => ?_⟩⟩
    have hj' : j < vs.length := by
      have := (List.getElem?_eq_some_iff.1 hj).1
      omega
    have ho := hr.2 j vs[j] p (List.getElem?_eq_getElem hj') hj
    refine ⟨vs[j], ?_, ho.1, ho.2⟩
    rw [Nat.zero_add]
    have := h.cells (g := g) rfl j vs[j] (List.getElem?_eq_getElem hj')
    rw [Addr.add_lit, Nat.zero_add] at this
    exact this

theorem flat_take_len (ep : Nat) (ps : List (List UInt8)) (h : ∀ p ∈ ps, p.length ≤ 512) : (flat ep ps).length ≤ 3 * ps.length := by
  induction ps with
  | nil => simp [flat]
  | cons p ps ih =>
    have h1 := blocks_len ep p
    have h2 := h p (by simp)
    have h3 := ih (fun q hq => h q (by simp [hq]))
    simp only [flat, List.flatMap_cons, List.length_append, List.length_cons] at h3 ⊢
    omega

/-- The two rows that grow: the blocks, and the payloads (which lie in what was there). -/
structure Ld (w0 w : World) (ep : Nat) (ps : List (List UInt8)) (bv ov : Value) (vs : List Value) (m : Nat) : Prop where
  bl : w.ownsRow w0.heap.size 9 1 bv m ((flat ep ps).map Nm.txt)
  ml : (flat ep ps).length = m
  out : w.ownsRow w0.heap.size 34 1 ov vs.length vs
  rd : Reads w0 vs ps
  sep : Nm.Sep bv ov
  bel : Below w0.heap.size w0 w

theorem Ld.below {w0 w w' : World} {ep : Nat} {ps : List (List UInt8)} {bv ov : Value} {vs : List Value} {m : Nat} (h : Ld w0 w ep ps bv ov vs m) (hb : Below w.heap.size w w') : Ld w0 w' ep ps bv ov vs m :=
  ⟨own_keptB h.bl hb, h.ml, own_keptB h.out hb, h.rd, h.sep, h.bel.trans (hb.mono h.bel.size)⟩

/-- The blocks of one more. -/
structure Lh (w0 w : World) (ep : Nat) (ps : List (List UInt8)) (p : List UInt8) (bv ov : Value) (vs : List Value) (m : Nat) : Prop where
  bl : w.ownsRow w0.heap.size 9 1 bv m ((flat ep (ps ++ [p])).map Nm.txt)
  ml : (flat ep (ps ++ [p])).length = m
  out : w.ownsRow w0.heap.size 34 1 ov vs.length vs
  rd : Reads w0 vs ps
  sep : Nm.Sep bv ov
  bel : Below w0.heap.size w0 w

theorem flat_snoc (ep : Nat) (ps : List (List UInt8)) (p : List UInt8) : flat ep (ps ++ [p]) = flat ep ps ++ blocks ep p := by simp [flat]

theorem Ld.more {w0 w w' : World} {ep : Nat} {ps : List (List UInt8)} {p : List UInt8} {bv ov : Value} {vs : List Value} {m k g cap : Nat} (h : Ld w0 w ep ps bv ov vs m) (hk : (blocks ep p).length = k) (ho : w'.ownsRow w0.heap.size 9 1 (.slice (some ⟨g, 0, none⟩) (m + k) cap) (m + k) ((flat ep ps).map Nm.txt ++ (blocks ep p).map Nm.txt)) (hg : w.grownBy w' bv.ownBlock) (hl : bv.ownBlock = some g ∨ g = w.heap.size) : Lh w0 w' ep ps p (.slice (some ⟨g, 0, none⟩) (m + k) cap) ov vs (m + k) := by
  refine ⟨by rw [flat_snoc, List.map_append]; exact ho, by rw [flat_snoc, List.length_append, h.ml, hk], h.out.kept hg ?_, h.rd, ?_, Below.grown h.bel hg h.bel.size (fun j hj => (h.bl.lt j hj).1)⟩
  · cases hv : ov.ownBlock with
    | none => exact .inl rfl
    | some b => exact .inr (fun e => h.sep b e.symm hv)
  · intro b hb1 hb2
    have e : g = b := by simpa [Value.ownBlock] using hb1
    subst e
    rcases hl with hl | hl
    · exact h.sep g hl hb2
    · have := (h.out.lt g hb2).2
      omega

theorem Lh.alloc {w0 w : World} {ep : Nat} {ps : List (List UInt8)} {p : List UInt8} {bv ov : Value} {vs : List Value} {m : Nat} (h : Lh w0 w ep ps p bv ov vs m) (o : Obj) : Lh w0 (w.alloc o) ep ps p bv ov vs m :=
  ⟨h.bl.alloc o, h.ml, h.out.alloc o, h.rd, h.sep, h.bel.alloc h.bel.size o⟩

theorem Lh.more {w0 w w' : World} {ep : Nat} {ps : List (List UInt8)} {p : List UInt8} {bv ov u : Value} {vs : List Value} {m g cap : Nat} (h : Lh w0 w ep ps p bv ov vs m) (hr : RdB w0 u p) (hz : Nz u) (ho : w'.ownsRow w0.heap.size 34 1 (.slice (some ⟨g, 0, none⟩) (vs.length + 1) cap) (vs.length + 1) (vs ++ [u])) (hg : w.grownBy w' ov.ownBlock) (hl : ov.ownBlock = some g ∨ g = w.heap.size) : Ld w0 w' ep (ps ++ [p]) bv (.slice (some ⟨g, 0, none⟩) (vs.length + 1) cap) (vs ++ [u]) m := by
  refine ⟨h.bl.kept hg ?_, h.ml, by rw [List.length_append]; exact ho, h.rd.snoc hr hz, ?_, Below.grown h.bel hg h.bel.size (fun j hj => (h.out.lt j hj).1)⟩
  · cases hv : bv.ownBlock with
    | none => exact .inl rfl
    | some b => exact .inr (fun e => h.sep b hv e.symm)
  · intro b hb1 hb2
    have e : g = b := by simpa [Value.ownBlock] using hb2
    subst e
    rcases hl with hl | hl
    · exact h.sep g hb1 hl
    · have := (h.bl.lt g hb1).2
      omega

theorem cut_rd {w : World} {a : Option Addr} {cap n m : Nat} {p : List UInt8} (hn : p.length = n) (hR : RdB w (.slice a n cap) p) (hm : (p.take 512).length = m) : RdB w (.slice a m cap) (p.take 512) := by
  rw [← hn] at hR
  have hml : m ≤ p.length := by
    rw [← hm, List.length_take]
    omega
  have h2 := hR.take m hml
  have h3 : p.take m = p.take 512 := by
    rw [List.length_take] at hm
    rcases Nat.le_total 512 p.length with h | h
    · rw [← hm, Nat.min_eq_left h]
    · rw [← hm, Nat.min_eq_right h, List.take_of_length_le (Nat.le_refl _), List.take_of_length_le h]
  rw [h3] at h2
  exact h2

end Rc
end Go.Proofs.Ythdibodmnpcekaa
/- What is opened again: plain facts on a log's blocks behind its Appends. No program is named here. -/
namespace Go.Proofs.Ythdibodmnpcekaa
set_option linter.ambiguousOpen false
open Go.RowKit
namespace Lo
open Sm Ft Dk Rc
set_option linter.unusedSimpArgs false
set_option linter.unusedVariables false

theorem getD_mem (bs : List (List UInt8)) (k : Nat) (h : k < bs.length) : bs.getD k [] ∈ bs := by
  rw [List.getD_eq_getElem?_getD, List.getElem?_eq_getElem h]
  exact List.getElem_mem h

theorem getD_app (a b : List (List UInt8)) (i : Nat) : (a ++ b).getD i [] = if i < a.length then a.getD i [] else b.getD (i - a.length) [] := by
  rw [List.getD_eq_getElem?_getD, List.getD_eq_getElem?_getD, List.getD_eq_getElem?_getD]
  by_cases h : i < a.length
  · rw [if_pos h, List.getElem?_append_left h]
  · rw [if_neg h, List.getElem?_append_right (by omega)]

/-- Whatever the power does, a block tells what it told, or one of those that were to be written. -/
theorem dn_some (b : Int) (bs : List (List UInt8)) (k : Nat) : ∀ (d : Dsk), k ≤ bs.length → ∀ i, 0 ≤ i → i < d.n → rdT (dn b bs k d).2 i = rdT d i ∨ ∃ t ∈ bs, rdT (dn b bs k d).2 i = t := by
  induction k with
  | zero => exact fun d _ i _ _ => .inl rfl
  | succ k ih =>
    intro d hk i h0 h1
    rw [dn]
    split
    · rename_i hw
      rcases ih (wrD d (b + (k : Int)) (bs.getD k [])) (by omega) i h0 (by rw [wrD_n]; exact h1) with e | ⟨t, ht, e⟩
      · rw [rdT_wrote d _ _ i hw ⟨h0, h1⟩] at e
        by_cases hb : b + (k : Int) = i
        · rw [if_pos hb] at e
          exact .inr ⟨_, getD_mem bs k (by omega), e⟩
        · rw [if_neg hb] at e
          exact .inl e
      · exact .inr ⟨t, ht, e⟩
    · exact .inl rfl

/-- What lies below b stays. -/
theorem dn_low (b : Int) (bs : List (List UInt8)) (k : Nat) : ∀ (d : Dsk), ∀ i, 0 ≤ i → i < d.n → i < b → rdT (dn b bs k d).2 i = rdT d i := by
  induction k with
  | zero => exact fun d i _ _ _ => rfl
  | succ k ih =>
    intro d i h0 h1 h2
    rw [dn]
    split
    · rename_i hw
      rw [ih (wrD d (b + (k : Int)) (bs.getD k [])) i h0 (by rw [wrD_n]; exact h1) h2, rdT_wrote d _ _ i hw ⟨h0, h1⟩, if_neg (by omega)]
    · rfl

/-- Where all is written. -/
theorem dn_all (b : Int) (bs : List (List UInt8)) (k : Nat) : ∀ (d : Dsk), (dn b bs k d).1 = 0 → ∀ i, 0 ≤ i → i < d.n → rdT (dn b bs k d).2 i = if b ≤ i ∧ i < b + (k : Int) then bs.getD (i - b).toNat [] else rdT d i := by
  induction k with
  | zero =>
    intro d _ i _ _
    rw [if_neg (by omega)]
    rfl
  | succ k ih =>
    intro d h i h0 h1
    rw [dn] at h ⊢
    split at h
    · rename_i hw
      rw [if_pos hw, ih _ h i h0 (by rw [wrD_n]; exact h1), rdT_wrote d _ _ i hw ⟨h0, h1⟩]
      by_cases hb : b + (k : Int) = i
      · rw [if_neg (by omega), if_pos hb, if_pos (by omega), show (i - b).toNat = k by omega]
      · rw [if_neg hb]
        by_cases hc : b ≤ i ∧ i < b + (k : Int)
        · rw [if_pos hc, if_pos (by omega)]
        · rw [if_neg hc, if_neg (by omega)]
    · simp at h

/-- Where one fails, the first block is as it was: it is written last. -/
theorem dn_torn (b : Int) (bs : List (List UInt8)) (k : Nat) : ∀ (d : Dsk), 0 ≤ b → b < d.n → (dn b bs k d).1 ≠ 0 → rdT (dn b bs k d).2 b = rdT d b := by
  induction k with
  | zero => exact fun d _ _ _ => rfl
  | succ k ih =>
    intro d h0 h1 h
    rw [dn] at h ⊢
    split at h
    · rename_i hw
      rw [if_pos hw]
      have hk : k ≠ 0 := fun e => by
        subst e
        exact h rfl
      rw [ih _ h0 (by rw [wrD_n]; exact h1) h, rdT_wrote d _ _ b hw ⟨h0, h1⟩, if_neg (by omega)]
    · rename_i hw
      rw [if_neg hw]

theorem lo4_three : lo 3 4 ≠ lo 4 4 := by decide

/-- A block of a record of one epoch does not begin as one of another. -/
theorem blocks_begin (ep e : Nat) (p : List UInt8) (h : lo ep 4 ≠ lo e 4) : ∀ t ∈ blocks ep p, ¬ begins e t := by
  intro t ht hb
  unfold blocks at ht
  rw [List.mem_cons] at ht
  rcases ht with rfl | ht
  · unfold begins firstB topB headB at hb
    have : ((104 :: (lo ep 4 ++ lo p.length 2) ++ lo (crc (104 :: (lo ep 4 ++ lo p.length 2) ++ p)) 4 ++ p.take 245).take 5) = 104 :: lo ep 4 := by
      rw [List.append_assoc, List.cons_append, List.take_succ_cons, List.append_assoc, List.take_append_of_le_length (by rw [lo_len]; omega), List.take_of_length_le (by rw [lo_len]; omega)]
    rw [this] at hb
    exact h (List.cons.inj hb).2
  · generalize p.drop 245 = q at ht
    have : ∀ f : Nat, ∀ q : List UInt8, q.length ≤ f → t ∈ restB q → ¬ begins e t := by
      intro f
      induction f with
      | zero =>
        intro q hq hm
        have e0 : q = [] := List.eq_nil_of_length_eq_zero (by omega)
        rw [e0, restB_nil] at hm
        simp at hm
      | succ f ih =>
        intro q hq hm
        by_cases hn : q = []
        · rw [hn, restB_nil] at hm
          simp at hm
        · rw [restB_cons q hn, List.mem_cons] at hm
          rcases hm with rfl | hm
          · intro hb
            unfold begins at hb
            rw [List.take_succ_cons] at hb
            exact absurd (List.cons.inj hb).1 (by decide)
          · exact ih (q.drop 255) (by rw [List.length_drop]; have := List.length_pos_iff.2 hn; omega) hm
    exact this _ q (Nat.le_refl _) ht hb

/-- No block begins so. -/
def Clean (e : Nat) (d : Dsk) : Prop := ∀ i, 0 ≤ i → i < d.n → ¬ begins e (rdT d i)

theorem clean_new (e : Nat) (n left : Int) : Clean e ⟨n, left, []⟩ := fun i h0 h1 hb => by
  unfold rdT at hb
  rw [if_pos ⟨h0, h1⟩] at hb
  unfold begins lastK at hb
  simp at hb

theorem Clean.app {e : Nat} {l : Lg} {d : Dsk} (h : Clean e d) (hl : lo l.ep 4 ≠ lo e 4) (p : List UInt8) : Clean e (Lo.app l d p).2.1 := by
  unfold Lo.app
  repeat' split
  · exact h
  · exact h
  · exact h
  all_goals
    intro i h0 h1
    have hn := (dn_n (l.at_ + (l.used : Int)) (blocks l.ep p) (blocks l.ep p).length d).1
    simp only at h1 ⊢
    rw [hn] at h1
    rcases dn_some (l.at_ + (l.used : Int)) (blocks l.ep p) (blocks l.ep p).length d (Nat.le_refl _) i h0 h1 with e | ⟨t, ht, e⟩
    · rw [e]
      exact h i h0 h1
    · rw [e]
      exact blocks_begin _ _ p hl t ht

/-- A log of which ps was appended. -/
structure Kp (l : Lg) (d : Dsk) (ps : List (List UInt8)) : Prop where
  fit : Fit l d
  use : l.used = (flat l.ep ps).length
  nrec : l.recs = ps.length
  short : ∀ p ∈ ps, p.length ≤ 512
  there : ∀ i : Nat, i < l.used → rdT d (l.at_ + (i : Int)) = (flat l.ep ps).getD i []
  next : (l.used : Int) < l.n → ¬ begins l.ep (rdT d (l.at_ + (l.used : Int)))
  rest : l.dead = false → ∀ j : Nat, l.used ≤ j → (j : Int) < l.n → ¬ begins l.ep (rdT d (l.at_ + (j : Int)))

theorem Kp.new {a n : Int} {ep : Nat} {d : Dsk} (h : Fit ⟨a, n, ep, 0, 0, false⟩ d) (hc : Clean ep d) : Kp ⟨a, n, ep, 0, 0, false⟩ d [] := by
  have h0 := h.a0
  have h1 := h.an
  have h2 := h.n1
  simp only at h0 h1 h2
  exact ⟨h, rfl, rfl, fun p hp => by simp at hp, fun i hi => by simp at hi, fun hi => hc _ (by simp only; omega) (by simp only at hi ⊢; omega), fun _ j _ hj => hc _ (by simp only; omega) (by simp only at hj ⊢; omega)⟩

theorem Kp.left {l : Lg} {d : Dsk} {ps : List (List UInt8)} (h : Kp l d ps) (m : Int) (h1 : -1 ≤ m) (h2 : m ≤ 9223372036854775807) : Kp l ⟨d.n, m, d.tr⟩ ps :=
  ⟨⟨h.fit.a0, h.fit.n1, h.fit.an, h.fit.dn, h.fit.us, h.fit.ep, h1, h2⟩, h.use, h.nrec, h.short, h.there, h.next, h.rest⟩

theorem Kp.app {l : Lg} {d : Dsk} {ps : List (List UInt8)} (h : Kp l d ps) (p : List UInt8) : Kp (Lo.app l d p).2.2 (Lo.app l d p).2.1 (if (Lo.app l d p).1 = 0 then ps ++ [p] else ps) := by
  have hF := (app_fit h.fit p).1
  have fa := h.fit.a0
  have fn := h.fit.an
  by_cases h1 : l.dead = true
  · rw [Lo.app, if_pos h1, if_neg (by simp)]
    exact h
  by_cases h2 : 512 < p.length
  · rw [Lo.app, if_neg h1, if_pos h2, if_neg (by simp)]
    exact h
  by_cases h3 : l.n - (l.used : Int) < ((blocks l.ep p).length : Int)
  · rw [Lo.app, if_neg h1, if_neg h2, if_pos h3, if_neg (by simp)]
    exact h
  rw [Lo.app, if_neg h1, if_neg h2, if_neg h3] at hF ⊢
  have hd : l.dead = false := by simpa using h1
  have hb := blocks_len3 l.ep p h2
  have hnn := (dn_n (l.at_ + (l.used : Int)) (blocks l.ep p) (blocks l.ep p).length d).1
  have hu := h.use
  by_cases h4 : (dn (l.at_ + (l.used : Int)) (blocks l.ep p) (blocks l.ep p).length d).1 = 0
  · rw [if_pos h4] at hF ⊢
    rw [if_pos rfl]
    have hall := dn_all _ _ _ d h4
    have hrest : ∀ j : Nat, l.used + (blocks l.ep p).length ≤ j → (j : Int) < l.n → ¬ begins l.ep (rdT (dn (l.at_ + (l.used : Int)) (blocks l.ep p) (blocks l.ep p).length d).2 (l.at_ + (j : Int))) := fun j hj hjn => by
      rw [hall _ (by omega) (by omega), if_neg (by omega)]
      exact h.rest hd j (by omega) hjn
    refine ⟨hF, ?_, ?_, ?_, ?_, ?_, ?_⟩
    · show _ = (flat l.ep (ps ++ [p])).length
      rw [flat_snoc, List.length_append, ← hu]
    · show l.recs + 1 = _
      rw [List.length_append, h.nrec]
      rfl
    · intro q hq
      rw [List.mem_append, List.mem_singleton] at hq
      rcases hq with hq | rfl
      · exact h.short q hq
      · omega
    · intro i hi
      have hi' : i < l.used + (blocks l.ep p).length := hi
      show rdT _ (l.at_ + (i : Int)) = (flat l.ep (ps ++ [p])).getD i []
      rw [hall _ (by omega) (by omega), flat_snoc, getD_app]
      by_cases hc : i < l.used
      · rw [if_neg (by omega), if_pos (by omega)]
        exact h.there i hc
      · rw [if_pos (by omega), if_neg (by omega), show (l.at_ + (i : Int) - (l.at_ + (l.used : Int))).toNat = i - (flat l.ep ps).length by omega]
    · intro hi
      exact hrest (l.used + (blocks l.ep p).length) (Nat.le_refl _) hi
    · intro _ j hj hjn
      exact hrest j hj hjn
  · rw [if_neg h4] at hF ⊢
    rw [if_neg (by simp)]
    refine ⟨hF, h.use, h.nrec, h.short, ?_, ?_, fun e => by simp at e⟩
    · intro i hi
      have hi' : i < l.used := hi
      show rdT _ (l.at_ + (i : Int)) = _
      rw [dn_low _ _ _ d _ (by omega) (by omega) (by omega)]
      exact h.there i hi
    · intro hi
      have hi' : (l.used : Int) < l.n := hi
      show ¬ begins l.ep (rdT _ (l.at_ + (l.used : Int)))
      rw [dn_torn _ _ _ d (by omega) (by omega) h4]
      exact h.next hi

/-- What Open tells of it. -/
theorem Kp.opened {l : Lg} {d : Dsk} {ps : List (List UInt8)} (h : Kp l d ps) : (scan l.ep (texts d l.at_ l.n.toNat)).1 = ps := by
  have f1 := h.fit.n1
  have f2 := h.fit.us
  have hu := h.use
  have e : texts d l.at_ l.n.toNat = flat l.ep ps ++ (texts d l.at_ l.n.toNat).drop l.used := by
    apply List.ext_getElem?
    intro i
    by_cases hi : i < l.used
    · rw [texts_at _ _ _ _ (by omega), List.getElem?_append_left (by omega), h.there i hi, List.getD_eq_getElem?_getD, List.getElem?_eq_getElem (by omega)]
      rfl
    · rw [List.getElem?_append_right (by omega), List.getElem?_drop, show l.used + (i - (flat l.ep ps).length) = i by omega]
  rw [e]
  refine (scan_whole l.ep ps _ h.short (fun b r hb => ?_)).1
  have h0 : ((texts d l.at_ l.n.toNat).drop l.used)[0]? = some b := by rw [hb]; rfl
  rw [List.getElem?_drop, Nat.add_zero] at h0
  have hlt : l.used < l.n.toNat := by
    have := (List.getElem?_eq_some_iff.1 h0).1
    rw [texts_len] at this
    exact this
  rw [texts_at _ _ _ _ hlt] at h0
  rw [← Option.some.inj h0]
  exact h.next (by omega)
end Lo
end Go.Proofs.Ythdibodmnpcekaa
/- One disk of the program and a log on it; lists of payloads held against each other; what each law on logs asks first. -/
namespace Go.Proofs.Ythdibodmnpcekaa
set_option linter.ambiguousOpen false
open Go.RowKit
namespace Lo
open Sm Ft Dk
set_option linter.unusedSimpArgs false
set_option linter.unusedVariables false

/-- A disk and a log on it, all above what was there. -/
structure Ow (Rep : World → Nat → (Nat → Prop) → Dsk → Prop) (w wr : World) (p q : Nat) (F : Nat → Prop) (d : Dsk) (l : Lg) : Prop where
  rep : Rep wr p F d
  pl : Pl wr q p l
  off : ¬ F q
  fl : ∀ k, F k → w.heap.size ≤ k
  ql : w.heap.size ≤ q
  bel : Below w.heap.size w wr

theorem Ow.below {Rep : World → Nat → (Nat → Prop) → Dsk → Prop} (H : Says Rep) {w wr w' : World} {p q : Nat} {F : Nat → Prop} {d : Dsk} {l : Lg} (h : Ow Rep w wr p q F d l) (hb : Below wr.heap.size wr w') : Ow Rep w w' p q F d l :=
  ⟨H.keep h.rep (Keep.of_below (F := fun _ => False) hb) (fun _ _ h => h), (hb.block q h.pl.lt).trans h.pl, h.off, h.fl, h.ql, below_go h.bel hb⟩

theorem Ow.left {Rep : World → Nat → (Nat → Prop) → Dsk → Prop} {w wr w' : World} {p q : Nat} {F : Nat → Prop} {d d' : Dsk} {l l' : Lg} (h : Ow Rep w wr p q F d l) (hL : Left Rep wr w' p q F d' l') : ∃ G, Ow Rep w w' p q G d' l' ∧ Keep (fun k => k = q ∨ F k) wr w' ∧ Goes wr F G := by
  obtain ⟨G, h1, h2, h3, h4⟩ := hL
  refine ⟨G, ⟨h1, h2, fun e => ?_, fun k hk => ?_, h.ql, below_kp h.bel h3 (fun k hk => ?_)⟩, h3, h4⟩
  · rcases h4 q e with h5 | h5
    · exact h.off h5
    · have := h.pl.lt; omega
  · rcases h4 k hk with h5 | h5
    · exact h.fl k h5
    · exact Nat.le_trans h.bel.size h5
  · rcases hk with rfl | hk
    · exact h.ql
    · exact h.fl k hk

theorem Ow.turned {Rep : World → Nat → (Nat → Prop) → Dsk → Prop} {w wr w' : World} {p q : Nat} {F G : Nat → Prop} {d d' : Dsk} {l : Lg} (h : Ow Rep w wr p q F d l) (h1 : Rep w' p G d') (h3 : Keep F wr w') (h4 : Goes wr F G) : Ow Rep w w' p q G d' l := by
  refine ⟨h1, h3.at h.pl h.off, fun e => ?_, fun k hk => ?_, h.ql, below_kp h.bel h3 h.fl⟩
  · rcases h4 q e with h5 | h5
    · exact h.off h5
    · have := h.pl.lt; omega
  · rcases h4 k hk with h5 | h5
    · exact h.fl k h5
    · exact Nat.le_trans h.bel.size h5

/-- A new log on a disk. -/
theorem Ow.new {Rep : World → Nat → (Nat → Prop) → Dsk → Prop} (H : Says Rep) {w wr w' : World} {p q : Nat} {F : Nat → Prop} {d : Dsk} {l : Lg} (h : On Rep w wr p F d) (hP : Pl w' q p l) (hq : wr.heap.size ≤ q) (hb : Below wr.heap.size wr w') : Ow Rep w w' p q F d l :=
  ⟨H.keep h.rep (Keep.of_below (F := fun _ => False) hb) (fun _ _ h => h), hP, fun e => by have := H.lt h.rep q e; omega, h.fl, Nat.le_trans h.bel.size hq, below_go h.bel hb⟩

theorem Ow.on {Rep : World → Nat → (Nat → Prop) → Dsk → Prop} {w wr : World} {p q : Nat} {F : Nat → Prop} {d : Dsk} {l : Lg} (h : Ow Rep w wr p q F d l) : On Rep w wr p F d := ⟨h.rep, h.fl, h.bel⟩

theorem room_is (w : World) (q p : Nat) (l : Lg) (r : Int) (h : Pl w q p l) (h1 : 1 ≤ l.n ∧ l.n ≤ 4096) (h2 : (l.used : Int) ≤ l.n) (hr : l.n - (l.used : Int) = r) :
    Calls Try.prog 11 #[ptr q] w fun e w' => e = .returned (nu r) ∧ Below w.heap.size w w' :=
  (room_any w q p l h h1 h2).mono (by
    rintro e w' ⟨rfl, k, rfl⟩
    exact ⟨by rw [hr], dnB (Below.refl _ _) k⟩)

theorem records_is (w : World) (q p : Nat) (l : Lg) (r : Int) (h : Pl w q p l) (hr : (l.recs : Int) = r) :
    Calls Try.prog 13 #[ptr q] w fun e w' => e = .returned (nu r) ∧ Below w.heap.size w w' :=
  (records_any w q p l h).mono (by
    rintro e w' ⟨rfl, rfl⟩
    exact ⟨by rw [hr], Below.refl _ _⟩)

set_option maxRecDepth 100000 in
set_option maxHeartbeats 4000000 in
theorem same_rows (v1 v2 : Value) (L : List (List UInt8)) (w : World) (h1 : Rc.RdL w v1 L) (h2 : Rc.RdL w v2 L) :
    Calls Try.prog 16 #[v1, v2] w fun e w' => e = .returned (.bool true) ∧ Below w.heap.size w w' := by
  have H1 := Hid.mk' h1
  have H2 := Hid.mk' h2
  obtain ⟨n, hn⟩ : ∃ n, L.length = n := ⟨_, rfl⟩
  have HN := Hid.mk' hn
  obtain ⟨a1, c1, rfl, hc1, hm1, hx1⟩ := h1
  obtain ⟨a2, c2, rfl, hc2, hm2, hx2⟩ := h2
  rw [hn] at hc1 hc2 H1 H2 ⊢
  unfold maxLen at hm1 hm2
  have cS : Hid (∀ wx u1 u2 p, RdB wx u1 p → RdB wx u2 p → Calls Try.prog 20 #[u1, u2] wx fun e w' => e = .returned (.bool true) ∧ Below wx.heap.size wx w') := fun wx u1 u2 p q1 q2 => Pk.sameB_eq u1 u2 p wx q1 q2
  clear hx1 hx2 hn
  go_enter Try.func16, Try.ntmps16
  go_wp2
  go_loopw [5] (fun iv wr => ∃ k : Nat, k ≤ n ∧ iv = nu (k : Int) ∧ Hid (Below w.heap.size w wr)) (fun iv _ => n - (intOf iv).toNat)
  case atStart => exact ⟨0, Nat.zero_le _, rfl, Below.refl _ _⟩
  case round =>
  obtain ⟨k, hk, rfl, hB⟩ := hrel
  by_cases hkn : k < n
  · obtain ⟨p, hp⟩ : ∃ p, L[k]? = some p := ⟨L[k]'(by have := HN.out; omega), List.getElem?_eq_getElem _⟩
    obtain ⟨b1, d1, e1, _, _, q1⟩ := H1.out.below hB.out
    obtain ⟨b2, d2, e2, _, _, q2⟩ := H2.out.below hB.out
    obtain ⟨rfl, rfl⟩ : a1 = b1 ∧ c1 = d1 := by simp at e1; exact ⟨e1.1, e1.2.2⟩
    obtain ⟨rfl, rfl⟩ : a2 = b2 ∧ c2 = d2 := by simp at e2; exact ⟨e2.1, e2.2.2⟩
    obtain ⟨g1, o1, rfl, l1, y1⟩ := q1 (by have := HN.out; omega)
    obtain ⟨g2, o2, rfl, l2, y2⟩ := q2 (by have := HN.out; omega)
    obtain ⟨u1, f1, r1, _⟩ := y1 k p hp
    obtain ⟨u2, f2, r2, _⟩ := y2 k p hp
    have hkI : (k : Int) < (n : Int) := by omega
    have hk0 : (0 : Int) ≤ (k : Int) := by omega
    have C := Hid.mk' (show ∀ wx, Below wr.heap.size wr wx → Calls Try.prog 20 #[u1, u2] wx fun e w' => e = .returned (.bool true) ∧ (w'.cell? ⟨g1, o1 + k, none⟩ = some u1 ∧ w'.cell? ⟨g2, o2 + k, none⟩ = some u2) ∧ Below wr.heap.size wr w' from fun wx hx => by
      refine (cS.out wx u1 u2 p (r1.below hx) (r2.below hx)).mono ?_
      rintro e w' ⟨rfl, hb⟩
      have hbw : Below wr.heap.size wr w' := hx.trans (hb.mono hx.size)
      exact ⟨rfl, ⟨(hbw.cell (p := ⟨g1, o1 + k, none⟩) l1).trans f1, (hbw.cell (p := ⟨g2, o2 + k, none⟩) l2).trans f2⟩, hbw⟩)
    obtain ⟨s1, m1, rfl, _⟩ := r1
    obtain ⟨s2, m2, rfl, _⟩ := r2
    clear e1 e2 q1 q2 y1 y2 hp H1 H2
    go_upto_region 6 with fail
    go_cut [26] from 17 to 27 (fun r wx => r = .bool false ∧ Hid (Below w.heap.size w wx))
    case first =>
      go_wp2_with fail
      go_region_held3 (fun w' => w'.cell? ⟨g1, o1 + k, none⟩ = some (.slice s1 p.length m1) ∧ w'.cell? ⟨g2, o2 + k, none⟩ = some (.slice s2 p.length m2)) (first | assumption | exact ⟨f1, f2⟩ | go_keep) (first | (go_at_call 20; with_reducible refine (C.out _ ?hb).mono ?_; (case hb => (first | exact Below.refl _ _ | exact (Below.refl _ _).drew | fail)); rintro e w5 ⟨rfl, ⟨y1, y2⟩, hb5⟩) | fail)
      all_goals (go_wp2_with fail; go_meet; exact ⟨rfl, hB.out.trans (hb5.mono hB.out.size)⟩)
    case rest =>
      obtain ⟨rfl, hB2⟩ := hcut
      clear f1 f2 C
      go_wp2
      go_roundw
      case rel => exact ⟨k + 1, by omega, by go_num, hB2⟩
      case measure => simp [intOf]; omega
  · obtain rfl : k = n := by omega
    go_wp2
    go_ret
    exact ⟨rfl, hB.out⟩

/-- Where the power lasts, all is written. -/
theorem dn_on (b : Int) (bs : List (List UInt8)) (k : Nat) : ∀ (d : Dsk), d.left < 0 → 0 ≤ b → b + (k : Int) ≤ d.n → (∀ t ∈ bs, t.length ≤ 256) → (dn b bs k d).1 = 0 ∧ (dn b bs k d).2.left = d.left := by
  induction k with
  | zero => exact fun d _ _ _ _ => ⟨rfl, rfl⟩
  | succ k ih =>
    intro d h1 h2 h3 h4
    have hw : wrN d (b + (k : Int)) (bs.getD k []) = 0 := by
      have hs : (bs.getD k []).length ≤ 256 := by
        by_cases hk : k < bs.length
        · exact h4 _ (getD_mem bs k hk)
        · rw [List.getD_eq_getElem?_getD, List.getElem?_eq_none (by omega)]
          exact Nat.zero_le _
      unfold wrN
      rw [if_pos (by omega), if_neg (by omega), if_neg (by omega)]
    have hl : (wrD d (b + (k : Int)) (bs.getD k [])).left = d.left := by
      unfold wrD
      rw [if_pos hw]
      show (if 0 < d.left then d.left - 1 else d.left) = d.left
      rw [if_neg (by omega)]
    rw [dn, if_pos hw]
    have := ih (wrD d (b + (k : Int)) (bs.getD k [])) (by rw [hl]; exact h1) h2 (by rw [wrD_n]; omega) h4
    rw [hl] at this
    exact this

theorem app_on {l : Lg} {d : Dsk} (hf : Fit l d) (hd : l.dead = false) (hl : d.left < 0) (p : List UInt8) (h2 : ¬ 512 < p.length) (h3 : ¬ l.n - (l.used : Int) < ((Rc.blocks l.ep p).length : Int)) : (app l d p).1 = 0 ∧ (app l d p).2.1.left = d.left ∧ (app l d p).2.2 = { l with used := l.used + (Rc.blocks l.ep p).length, recs := l.recs + 1 } := by
  have f1 := hf.a0
  have f2 := hf.an
  have h := dn_on (l.at_ + (l.used : Int)) (Rc.blocks l.ep p) (Rc.blocks l.ep p).length d hl (by omega) (by omega) (fun t ht => Rc.blocks_short _ _ _ ht)
  rw [app, if_neg (by rw [hd]; decide), if_neg h2, if_neg h3, if_pos h.1]
  exact ⟨rfl, h.2, rfl⟩

theorem fit_new {d : Dsk} (a n : Int) (ep : Nat) (h1 : 0 ≤ a) (h2 : 1 ≤ n) (h3 : a + n ≤ d.n) (h4 : d.n ≤ 4096) (h5 : ep < 4294967296) (h6 : -1 ≤ d.left) (h7 : d.left ≤ 9223372036854775807) : Fit ⟨a, n, ep, 0, 0, false⟩ d := ⟨h1, h2, h3, h4, by simp only; omega, h5, h6, h7⟩

theorem small_new (n left : Int) : Small ⟨n, left, []⟩ := fun r hr => by simp at hr

/-- What a small record leaves. -/
theorem small_rec : ∃ d', app ⟨1, 3, 7, 0, 0, false⟩ ⟨4, -1, []⟩ [1, 2] = (0, d', ⟨1, 3, 7, 1, 1, false⟩) ∧ Small d' ∧ d'.n = 4 ∧ d'.tr.length ≤ 3 ∧ (Rc.scan 7 (texts d' 1 3)).1 = [[1, 2]] := by
  have hf : Fit ⟨1, 3, 7, 0, 0, false⟩ ⟨4, -1, []⟩ := fit_new 1 3 7 (by decide) (by decide) (by decide) (by decide) (by decide) (by decide) (by decide)
  have hb : (Rc.blocks 7 [1, 2]).length = 1 := by rw [Rc.blocks_len]; rfl
  obtain ⟨e1, e2, e3⟩ := app_on hf rfl (by decide) [1, 2] (by decide) (by simp only [hb]; decide)
  have hK := (Kp.new hf (clean_new 7 4 (-1))).app [1, 2]
  have hF := app_fit hf [1, 2]
  rw [e1, if_pos rfl] at hK
  rw [hb] at e3
  refine ⟨(app ⟨1, 3, 7, 0, 0, false⟩ ⟨4, -1, []⟩ [1, 2]).2.1, Prod.ext e1 (Prod.ext rfl e3), (small_new 4 (-1)).app _ _, hF.2.2.2.2.2.2, hF.2.1, ?_⟩
  have := hK.opened
  rw [e3] at this
  exact this

end Lo
end Go.Proofs.Ythdibodmnpcekaa
/- What each law on logs asks first: a small record is appended, and found. -/
namespace Go.Proofs.Ythdibodmnpcekaa
set_option linter.ambiguousOpen false
open Go.RowKit
namespace Lo
open Sm Ft Dk
set_option linter.unusedSimpArgs false
set_option linter.unusedVariables false

/-- One payload that was told. -/
theorem Told.one {w w' : World} {B q p : Nat} {l : Lg} {r : Value} {vs : List Value} {x : List UInt8} (h : Told w w' B q p l r vs [x]) : ∃ g cap u, r = .slice (some ⟨g, 0, none⟩) 1 cap ∧ w'.cell? ⟨g, 0, none⟩ = some u ∧ RdB w' u x ∧ g < w'.heap.size := by
  have ho := h.out
  have hr := h.rows
  obtain ⟨a, cap, rfl, _, _, hx⟩ := Rc.rows_rdl ho hr
  obtain ⟨g, o, rfl, hg, hy⟩ := hx (by simp)
  have ho0 : o = 0 := by
    rcases ho.2 with ⟨h0, _⟩ | ⟨g', cap', cur, h0, _⟩
    · simp at h0
    · simp at h0
      exact h0.1.2
  subst ho0
  obtain ⟨u, hc, hu, _⟩ := hy 0 x rfl
  exact ⟨g, cap, u, rfl, hc, hu, hg⟩

theorem may_in (d : Dsk) (a n : Int) (h1 : 0 ≤ a) (h2 : 1 ≤ n) (h3 : n ≤ d.n - a) : may d a n = true := decide_eq_true ⟨h1, h2, h3⟩

theorem may_out (d : Dsk) (a n : Int) (h : ¬ (0 ≤ a ∧ 1 ≤ n ∧ n ≤ d.n - a)) : may d a n = false := decide_eq_false h

set_option maxRecDepth 100000 in
set_option maxHeartbeats 4000000 in
theorem works_yes {Rep : World → Nat → (Nat → Prop) → Dsk → Prop} (H : Says Rep) (SF : FrameW) (SS : Rc.ScanC) (w : World) : Calls Try.prog 5 #[] w fun e w' => e = .returned (.bool true) ∧ Below w.heap.size w w' := by
  obtain ⟨d', hap, hsm, hdn, hdt, hsc⟩ := small_rec
  have HH := Hid.mk' H
  have HAP := Hid.mk' hap
  have HSC : Hid (Small d' ∧ d'.n = 4 ∧ d'.tr.length ≤ 3 ∧ (Rc.scan 7 (texts d' 1 3)).1 = [[1, 2]]) := ⟨hsm, hdn, hdt, hsc⟩
  have c1 := Hid.mk' (H.newYes 4 w (by decide) (by decide))
  have cN : Hid (∀ wx p F, Rep wx p F ⟨4, -1, []⟩ → Calls Try.prog 7 #[ptr p, nu 1, nu 3, .int .u32 7] wx fun e w' => ∃ q, e = .returned (.tuple #[ptr q, .nilIface]) ∧ Pl w' q p ⟨1, 3, 7, 0, 0, false⟩ ∧ wx.heap.size ≤ q ∧ Below wx.heap.size wx w') := fun wx p F hR => new_yes HH.out wx p F ⟨4, -1, []⟩ 1 3 7 hR (by decide) (by decide) (may_in _ _ _ (by decide) (by decide) (by decide))
  have hfit : Hid (Fit ⟨1, 3, 7, 0, 0, false⟩ ⟨4, -1, []⟩) := fit_new 1 3 7 (by decide) (by decide) (by decide) (by decide) (by decide) (by decide) (by decide)
  have cA : Hid (∀ wx p q F v, Ow Rep w wx p q F ⟨4, -1, []⟩ ⟨1, 3, 7, 0, 0, false⟩ → RdB wx v [1, 2] → Pk.Nz v → Calls Try.prog 8 #[ptr q, v] wx fun e w' => e = .returned .nilIface ∧ ∃ G, Ow Rep w w' p q G d' ⟨1, 3, 7, 1, 1, false⟩) := fun wx p q F v hO hv hz => by
    refine (append_any HH.out SF wx p q F _ _ v [1, 2] hO.rep hO.pl hO.off hfit.out (by decide) (by decide) hv hz).mono ?_
    rintro e w' ⟨rfl, hL⟩
    rw [HAP.out] at hL ⊢
    obtain ⟨G, hG, _, _⟩ := hO.left hL
    exact ⟨rfl, G, hG⟩
  have cO : Hid (∀ wx p q F, Ow Rep w wx p q F d' ⟨1, 3, 7, 1, 1, false⟩ → Calls Try.prog 15 #[ptr p, nu 1, nu 3, .int .u32 7] wx fun e w' => ∃ q2 g cap u, e = .returned (.tuple #[ptr q2, .slice (some ⟨g, 0, none⟩) 1 cap, .nilIface]) ∧ w'.cell? ⟨g, 0, none⟩ = some u ∧ RdB w' u [1, 2] ∧ g < w'.heap.size ∧ Below wx.heap.size wx w') := fun wx p q F hO => by
    obtain ⟨s1, s2, s3, s4⟩ := HSC.out
    refine (open_yes HH.out SS wx p F d' 1 3 7 hO.rep (by omega) (by decide) (may_in _ _ _ (by decide) (by decide) (by rw [s2]; decide)) (by decide) s1 (by omega)).mono ?_
    rintro e w' ⟨q2, r, B, vs, rfl, hT⟩
    have hT' := hT
    rw [s4] at hT'
    obtain ⟨g, cap, u, rfl, h1, h2, h3⟩ := hT'.one
    exact ⟨q2, g, cap, u, rfl, h1, h2, h3, hT.bel⟩
  have cS : Hid (∀ wx u1 u2, RdB wx u1 [1, 2] → RdB wx u2 [1, 2] → Calls Try.prog 20 #[u1, u2] wx fun e w' => e = .returned (.bool true) ∧ Below wx.heap.size wx w') := fun wx u1 u2 q1 q2 => Pk.sameB_eq u1 u2 [1, 2] wx q1 q2
  clear hap hsm hdn hdt hsc H
  go_enter Try.func5, Try.ntmps5
  go_wp2_with fail
  refine c1.out.mono ?_
  rintro e w1 ⟨p, F, rfl, hR, hF, hb⟩
  have HO1 : Hid (On Rep w w1 p F ⟨4, -1, []⟩) := ⟨hR, hF, hb⟩
  have C2 := Hid.mk' (cN.out w1 p F hR)
  clear hR hF hb c1 cN
  go_wp2_with fail
  refine C2.out.mono ?_
  rintro e w2 ⟨q, rfl, hP, hq, hb⟩
  have HO2 := Hid.mk' (Ow.new HH.out HO1.out hP hq hb)
  have C3 := Hid.mk' (room_is w2 q p _ 3 hP (by decide) (by decide) (by decide))
  clear hP hq hb C2 HO1
  go_wp2_with fail
  refine C3.out.mono ?_
  rintro e w3 ⟨rfl, hb⟩
  have hO3 := HO2.out.below HH.out hb
  have ba : Below w3.heap.size w3 (w3.alloc (.cells #[.int .u8 1, .int .u8 2] 5)) := (Below.refl _ _).alloc (Nat.le_refl _) _
  have C4 := Hid.mk' (cA.out _ p q F _ (hO3.below HH.out ba) (Rc.rd_newR w3 [1, 2] (by decide)) (.inr ⟨_, _, _, rfl⟩))
  clear hb hO3 ba C3 HO2 cA
  go_wp2_with fail
  refine C4.out.mono ?_
  rintro e w4 ⟨rfl, G, hO4⟩
  have HO4 := Hid.mk' hO4
  have C5 := Hid.mk' (cO.out w4 p q G hO4)
  clear hO4 C4 cO
  go_wp2_with fail
  refine C5.out.mono ?_
  rintro e w5 ⟨q2, g, cap, u, rfl, hc, hu, hg, hb⟩
  have HO5 := Hid.mk' (HO4.out.below HH.out hb)
  have b6 : Below w5.heap.size w5 (w5.alloc (.cells #[.int .u8 1, .int .u8 2] 5)) := (Below.refl _ _).alloc (Nat.le_refl _) _
  have C6 := Hid.mk' (cS.out _ u _ (hu.below b6) (Rc.rd_newR w5 [1, 2] (by decide)))
  have HO6 := Hid.mk' (HO5.out.below HH.out b6)
  obtain ⟨au, cu, rfl, _⟩ := hu
  clear hb b6 C5 cS HO4
  go_wp2_with fail
  refine C6.out.mono ?_
  rintro e w7 ⟨rfl, hb⟩
  have hO7 := HO6.out.below HH.out hb
  have HO7 := Hid.mk' hO7
  have C7 := Hid.mk' (room_is w7 q p _ 2 hO7.pl (by decide) (by decide) (by decide))
  clear hb hO7 C6 HO6
  go_wp2_with fail
  refine C7.out.mono ?_
  rintro e w8 ⟨rfl, hb⟩
  have hO8 := HO7.out.below HH.out hb
  have HO8 := Hid.mk' hO8
  have C8 := Hid.mk' (records_is w8 q p _ 1 hO8.pl (by decide))
  clear hb hO8 C7 HO7
  go_wp2_with fail
  refine C8.out.mono ?_
  rintro e w9 ⟨rfl, hb⟩
  have HB9 := Hid.mk' (HO8.out.below HH.out hb).bel
  clear hb C8
  go_wp2
  go_ret
  exact ⟨rfl, HB9.out⟩
end Lo
end Go.Proofs.Ythdibodmnpcekaa
/- What is opened again are just the payloads whose Append has answered nil, whenever the power fails. -/
namespace Go.Proofs.Ythdibodmnpcekaa
set_option linter.ambiguousOpen false
open Go.RowKit
namespace Lo
open Sm Ft Dk
set_option linter.unusedSimpArgs false
set_option linter.unusedVariables false

/-- The first log, and all that was on the disk. -/
structure Ke (Rep : World → Nat → (Nat → Prop) → Dsk → Prop) (w wr : World) (p q : Nat) (F : Nat → Prop) (d : Dsk) (l : Lg) (k : Nat) : Prop where
  ow : Ow Rep w wr p q F d l
  fit : Fit l d
  ep : l.ep = 3
  cl : Clean 4 d
  sm : Small d
  dn : d.n = 9
  tr : d.tr.length ≤ 3 * k
  rc : l.recs ≤ k

/-- The log that is asked. -/
structure Kd (Rep : World → Nat → (Nat → Prop) → Dsk → Prop) (w wr : World) (p q : Nat) (F : Nat → Prop) (d : Dsk) (l : Lg) (ps : List (List UInt8)) (k : Nat) : Prop where
  ow : Ow Rep w wr p q F d l
  kp : Kp l d ps
  a : l.at_ = 1
  n : l.n = 8
  ep : l.ep = 4
  sm : Small d
  dn : d.n = 9
  tr : d.tr.length ≤ 300 + 3 * k
  rc : l.recs ≤ k

/-- The list that is wanted. -/
structure Wn (w wr : World) (q : Nat) (F : Nat → Prop) (wv : Value) (vs : List Value) (ps : List (List UInt8)) : Prop where
  row : wr.ownsRow w.heap.size 34 1 wv vs.length vs
  rd : Rc.Reads w vs ps
  sq : ∀ b, wv.ownBlock = some b → b ≠ q ∧ ¬ F b

theorem Kd.below {Rep : World → Nat → (Nat → Prop) → Dsk → Prop} (H : Says Rep) {w wr w' : World} {p q : Nat} {F : Nat → Prop} {d : Dsk} {l : Lg} {ps : List (List UInt8)} {k : Nat} (h : Kd Rep w wr p q F d l ps k) (hb : Below wr.heap.size wr w') : Kd Rep w w' p q F d l ps k := ⟨h.ow.below H hb, h.kp, h.a, h.n, h.ep, h.sm, h.dn, h.tr, h.rc⟩

theorem Wn.below {w wr w' : World} {q : Nat} {F : Nat → Prop} {wv : Value} {vs : List Value} {ps : List (List UInt8)} (h : Wn w wr q F wv vs ps) (hb : Below wr.heap.size wr w') : Wn w w' q F wv vs ps := ⟨ownB h.row hb, h.rd, h.sq⟩

theorem Ke.app {Rep : World → Nat → (Nat → Prop) → Dsk → Prop} {w wr w' : World} {p q : Nat} {F : Nat → Prop} {d : Dsk} {l : Lg} {k : Nat} (h : Ke Rep w wr p q F d l k) (x : List UInt8) (hL : Left Rep wr w' p q F (app l d x).2.1 (app l d x).2.2) : ∃ G, Ke Rep w w' p q G (app l d x).2.1 (app l d x).2.2 (k + 1) := by
  obtain ⟨G, hG, _, _⟩ := h.ow.left hL
  have hf := app_fit h.fit x
  have h1 := h.tr
  have h2 := h.rc
  exact ⟨G, hG, hf.1, hf.2.2.2.2.2.1.trans h.ep, h.cl.app (by rw [h.ep]; exact lo4_three) x, h.sm.app _ _, hf.2.2.2.2.2.2.trans h.dn, by omega, by omega⟩

theorem Kd.app {Rep : World → Nat → (Nat → Prop) → Dsk → Prop} {w wr w' : World} {p q : Nat} {F : Nat → Prop} {d : Dsk} {l : Lg} {ps : List (List UInt8)} {k : Nat} (h : Kd Rep w wr p q F d l ps k) (x : List UInt8) (hL : Left Rep wr w' p q F (app l d x).2.1 (app l d x).2.2) : ∃ G, Kd Rep w w' p q G (app l d x).2.1 (app l d x).2.2 (if (app l d x).1 = 0 then ps ++ [x] else ps) (k + 1) ∧ Keep (fun k => k = q ∨ F k) wr w' ∧ Goes wr F G := by
  obtain ⟨G, hG, h3, h4⟩ := h.ow.left hL
  have hf := app_fit h.kp.fit x
  have h1 := h.tr
  have h2 := h.rc
  exact ⟨G, ⟨hG, h.kp.app x, hf.2.2.2.1.trans h.a, hf.2.2.2.2.1.trans h.n, hf.2.2.2.2.2.1.trans h.ep, h.sm.app _ _, hf.2.2.2.2.2.2.trans h.dn, by omega, by omega⟩, h3, h4⟩

theorem Wn.app {w wr w' : World} {q : Nat} {F G : Nat → Prop} {wv : Value} {vs : List Value} {ps : List (List UInt8)} (h : Wn w wr q F wv vs ps) (hk : Keep (fun k => k = q ∨ F k) wr w') (hg : Goes wr F G) : Wn w w' q G wv vs ps :=
  ⟨hk.own h.row (fun b hb e => by
    have := h.sq b hb
    rcases e with e | e
    · exact this.1 e
    · exact this.2 e), h.rd, fun b hb => ⟨(h.sq b hb).1, fun e => by
    rcases hg b e with h1 | h1
    · exact (h.sq b hb).2 h1
    · have := (h.row.lt b hb).2
      omega⟩⟩

/-- One more is wanted. -/
theorem Wn.push {Rep : World → Nat → (Nat → Prop) → Dsk → Prop} (H : Says Rep) {w wr w' : World} {p q : Nat} {F : Nat → Prop} {d : Dsk} {l : Lg} {qs : List (List UInt8)} {k : Nat} {wv : Value} {vs : List Value} {ps : List (List UInt8)} {u : Value} {x : List UInt8} {g cap : Nat} (h : Wn w wr q F wv vs ps) (hd : Kd Rep w wr p q F d l qs k) (hr : RdB w u x) (hz : Pk.Nz u)
    (ho : w'.ownsRow w.heap.size 34 1 (.slice (some ⟨g, 0, none⟩) (vs.length + 1) cap) (vs.length + 1) (vs ++ [u])) (hg : wr.grownBy w' wv.ownBlock) (hl : wv.ownBlock = some g ∨ g = wr.heap.size) :
    Wn w w' q F (.slice (some ⟨g, 0, none⟩) (vs.length + 1) cap) (vs ++ [u]) (ps ++ [x]) ∧ Kd Rep w w' p q F d l qs k := by
  have hK : Keep (fun k => wv.ownBlock = some k) wr w' := (Keep.refl (fun k => wv.ownBlock = some k) wr).grown hg (fun k hk => .inl hk)
  refine ⟨⟨by rw [List.length_append]; exact ho, h.rd.snoc hr hz, fun b hb => ?_⟩, ⟨⟨H.keep hd.ow.rep hK (fun k hk e => (h.sq k e).2 hk), hK.at hd.ow.pl (fun e => (h.sq q e).1 rfl), hd.ow.off, hd.ow.fl, hd.ow.ql, ?_⟩, hd.kp, hd.a, hd.n, hd.ep, hd.sm, hd.dn, hd.tr, hd.rc⟩⟩
  · have hb' : g = b := by simpa [Value.ownBlock] using hb
    subst hb'
    rcases hl with e | e
    · exact h.sq g e
    · have h1 := hd.ow.pl.lt
      exact ⟨by omega, fun hf => by have := H.lt hd.ow.rep g hf; omega⟩
  · exact below_kp hd.ow.bel hK (fun k hk => (h.row.lt k hk).1)

/-- The ends of an Append. -/
theorem app_cases {l : Lg} {d : Dsk} (x : List UInt8) : ((app l d x).1 = 0 ∧ l.dead = false ∧ ¬ 512 < x.length ∧ (app l d x).2.2 = { l with used := l.used + (Rc.blocks l.ep x).length, recs := l.recs + 1 }) ∨ ((app l d x).1 = 22 ∧ (app l d x).2.2.dead = true) ∨ ((app l d x).1 = 3 ∧ l.dead = false ∧ 512 < x.length ∧ (app l d x).2.2 = l) ∨ ((app l d x).1 = 19 ∧ l.dead = false ∧ (app l d x).2.2 = l) := by
  by_cases h1 : l.dead = true
  · rw [app, if_pos h1]
    exact .inr (.inl ⟨rfl, h1⟩)
  have hd : l.dead = false := by simpa using h1
  by_cases h2 : 512 < x.length
  · rw [app, if_neg h1, if_pos h2]
    exact .inr (.inr (.inl ⟨rfl, hd, h2, rfl⟩))
  by_cases h3 : l.n - (l.used : Int) < ((Rc.blocks l.ep x).length : Int)
  · rw [app, if_neg h1, if_neg h2, if_pos h3]
    exact .inr (.inr (.inr ⟨rfl, hd, rfl⟩))
  rw [app, if_neg h1, if_neg h2, if_neg h3]
  split
  · exact .inl ⟨rfl, hd, h2, rfl⟩
  · exact .inr (.inl ⟨rfl, rfl⟩)

theorem max_twoL (a b : Int) (w : World) : (Builtin.max_ #[3, 3] 3 #[.int .i64 a, .int .i64 b]).run Try.prog w = .ok (.int .i64 (if a < b then b else a)) w := run_max_int2 ..

set_option maxRecDepth 100000 in
set_option maxHeartbeats 8000000 in
theorem keeps_walk {Rep : World → Nat → (Nat → Prop) → Dsk → Prop} (H : Says Rep) (SF : FrameW) (SS : Rc.ScanC) (v1 v2 : Value) (old L : List (List UInt8)) (cut : Int) (w : World) (h1 : Rc.RdL w v1 old) (h2 : Rc.RdL w v2 L) (hc : -9223372036854775808 ≤ cut ∧ cut ≤ 9223372036854775807) :
    Calls Try.prog 3 #[v1, v2, nu cut] w fun e w' => e = .returned (.bool true) ∧ Below w.heap.size w w' := by
  obtain ⟨i1, ji1, kz0, kz1, kz2⟩ := info_parts (show (Try.prog.info? 34).map (fun i => (i.zero, i.size, i.bytes)) = some (some (.slice none 0 0), 1, 24) by kernel_rfl)
  have HH := Hid.mk' H
  have H1 := Hid.mk' h1
  have H2 := Hid.mk' h2
  obtain ⟨n1, hn1⟩ : ∃ n, old.length = n := ⟨_, rfl⟩
  obtain ⟨n2, hn2⟩ : ∃ n, L.length = n := ⟨_, rfl⟩
  have HN1 := Hid.mk' hn1
  have HN2 := Hid.mk' hn2
  obtain ⟨a1, c1, rfl, hc1, hm1, hx1⟩ := h1
  obtain ⟨a2, c2, rfl, hc2, hm2, hx2⟩ := h2
  rw [hn1] at hc1 H1 ⊢
  rw [hn2] at hc2 H2 ⊢
  unfold maxLen at hm1 hm2
  clear hx1 hx2 hn1 hn2
  have cW := Hid.mk' (works_yes H SF SS w)
  by_cases g1 : 100 < n1
  · have g1I : (100 : Int) < (n1 : Int) := by omega
    go_enter Try.func3, Try.ntmps3
    go_wp2_with fail
    refine cW.out.mono ?_
    rintro e w1 ⟨rfl, hb⟩
    have HB := Hid.mk' hb
    clear hb cW
    go_wp2
    go_ret
    exact ⟨rfl, HB.out⟩
  by_cases g2 : 100 < n2
  · have g2I : (100 : Int) < (n2 : Int) := by omega
    go_enter Try.func3, Try.ntmps3
    go_wp2_with fail
    refine cW.out.mono ?_
    rintro e w1 ⟨rfl, hb⟩
    have HB := Hid.mk' hb
    clear hb cW
    go_wp2
    go_ret
    exact ⟨rfl, HB.out⟩
  have cD : Hid (∀ wx, Calls Try.prog 6 #[nu 9] wx fun e w' => ∃ p F, e = .returned (.tuple #[ptr p, .nilIface]) ∧ Rep w' p F ⟨9, -1, []⟩ ∧ (∀ k, F k → wx.heap.size ≤ k) ∧ Below wx.heap.size wx w') := fun wx => HH.out.newYes 9 wx (by decide) (by decide)
  have cN : Hid (∀ wx p F d (ep : Nat), Rep wx p F d → d.n = 9 → Calls Try.prog 7 #[ptr p, nu 1, nu 8, .int .u32 (ep : Int)] wx fun e w' => ∃ q, e = .returned (.tuple #[ptr q, .nilIface]) ∧ Pl w' q p ⟨1, 8, ep, 0, 0, false⟩ ∧ wx.heap.size ≤ q ∧ Below wx.heap.size wx w') := fun wx p F d ep hR hn => new_yes HH.out wx p F d 1 8 ep hR (by omega) (by decide) (may_in _ _ _ (by decide) (by decide) (by rw [hn]; decide))
  go_enter Try.func3, Try.ntmps3
  go_wp2_with fail
  refine cW.out.mono ?_
  rintro e w1 ⟨rfl, hb⟩
  have HB1 := Hid.mk' hb
  clear hb cW
  go_wp2_with fail
  refine (cD.out w1).mono ?_
  rintro e w2 ⟨p, F, rfl, hR, hF, hb⟩
  have HO2 : Hid (On Rep w w2 p F ⟨9, -1, []⟩) := ⟨hR, fun k hk => Nat.le_trans HB1.out.size (hF k hk), below_go HB1.out hb⟩
  have C3 := Hid.mk' (cN.out w2 p F _ 3 hR rfl)
  clear hR hF hb cD
  go_wp2_with fail
  refine C3.out.mono ?_
  rintro e w3 ⟨q, rfl, hP, hq, hb⟩
  have HK3 : Hid (Ke Rep w w3 p q F ⟨9, -1, []⟩ ⟨1, 8, 3, 0, 0, false⟩ 0) := ⟨Ow.new HH.out HO2.out hP hq hb, fit_new 1 8 3 (by decide) (by decide) (by decide) (by decide) (by decide) (by decide) (by decide), rfl, clean_new 4 9 (-1), small_new 9 (-1), rfl, Nat.le_refl _, Nat.le_refl _⟩
  clear hP hq hb C3 HO2
  go_wp2
  go_loopw [10] (fun iv wr => ∃ k : Nat, k ≤ n1 ∧ iv = nu (k : Int) ∧ Hid (∃ F d l, Ke Rep w wr p q F d l k)) (fun iv _ => n1 - (intOf iv).toNat)
  case atStart => exact ⟨0, Nat.zero_le _, rfl, _, _, _, HK3.out⟩
  case round =>
  obtain ⟨k, hk, rfl, hKe⟩ := hrel
  by_cases hkn : k < n1
  · obtain ⟨F3, d3, l3, hE⟩ := hKe.out
    obtain ⟨x, hx⟩ : ∃ x, old[k]? = some x := ⟨old[k]'(by have := HN1.out; omega), List.getElem?_eq_getElem _⟩
    obtain ⟨b1, e1, eq1, _, _, y1⟩ := H1.out.below hE.ow.bel
    obtain ⟨rfl, rfl⟩ : a1 = b1 ∧ c1 = e1 := by simp at eq1; exact ⟨eq1.1, eq1.2.2⟩
    obtain ⟨g, o, rfl, lg, y2⟩ := y1 (by have := HN1.out; omega)
    obtain ⟨u, f1, r1, z1⟩ := y2 k x hx
    have C := Hid.mk' (append_any HH.out SF wr p q F3 d3 l3 u x hE.ow.rep hE.ow.pl hE.ow.off hE.fit (by have := hE.tr; omega) (by have := hE.rc; omega) r1 z1)
    have HE := Hid.mk' hE
    have hkI : (k : Int) < (n1 : Int) := by omega
    have hk0 : (0 : Int) ≤ (k : Int) := by omega
    obtain ⟨s1, m1, rfl, _⟩ := r1
    clear hE eq1 y1 y2 hx hKe z1
    go_wp2_with fail
    refine C.out.mono ?_
    rintro e w4 ⟨rfl, hL⟩
    have HE4 := Hid.mk' (HE.out.app x hL)
    clear hL C f1
    go_wp2
    go_roundw
    case rel => exact ⟨k + 1, by omega, by go_num, by obtain ⟨G, hG⟩ := HE4.out; exact ⟨G, _, _, hG⟩⟩
    case measure => simp [intOf]; omega
  obtain rfl : k = n1 := by omega
  obtain ⟨F3, d3, l3, hE⟩ := hKe.out
  have C4 := Hid.mk' (cN.out wr p F3 d3 4 hE.ow.rep hE.dn)
  have HE := Hid.mk' hE
  have cP : Hid (∀ wx, Calls Try.prog 10 #[nu cut, nu 20] wx fun e w' => e = .returned (nu (cut % 20)) ∧ w' = wx) := fun wx => pick_any cut 20 wx (by decide) (by decide) hc
  clear hE hKe
  rename World => w9
  go_wp2_with fail
  refine C4.out.mono ?_
  rintro e w5 ⟨q2, rfl, hP, hq, hb⟩
  have HO5 := Hid.mk' (Ow.new HH.out HE.out.ow.on hP hq hb)
  clear hP hq hb C4 cN
  go_wp2_with fail
  refine (cP.out _).mono ?_
  rintro e w6 ⟨rfl, hw⟩
  subst w6
  obtain ⟨m, hm⟩ : ∃ m : Int, cut % 20 = m := ⟨_, rfl⟩
  have hmr : 0 ≤ m ∧ m < 20 := by omega
  rw [hm]
  have C6 := Hid.mk' (HH.out.cut w5 p F3 d3 m HO5.out.rep (by omega))
  clear hm cP
  go_wp2_with fail
  refine C6.out.mono ?_
  rintro e w7 ⟨⟨uu, rfl⟩, G, r1, r2, r3⟩
  have HK7 : Hid (Kd Rep w w7 p q2 G ⟨d3.n, max m (-1), d3.tr⟩ ⟨1, 8, 4, 0, 0, false⟩ [] 0) := by
    have hT := HO5.out.turned r1 r2 r3
    have hE := HE.out
    have hn := hE.dn
    have ht := hE.tr
    refine ⟨hT, Kp.new (fit_new 1 8 4 (by decide) (by decide) (by simp only; omega) (by simp only; omega) (by decide) (by simp only; omega) (by simp only; omega)) (fun i h0 h1 => hE.cl i h0 h1), rfl, rfl, rfl, hE.sm.left _, hn, by simp only; omega, Nat.zero_le _⟩
  have HW7 : Hid (Wn w w7 q2 G (.slice none 0 0) [] []) := ⟨World.ownsRow_nil _ _ _ _, ⟨rfl, fun j v x hj => by simp at hj⟩, fun b hb => by simp [Value.ownBlock] at hb⟩
  have cR : Hid (∀ wx (l : Lg) (r : Int), Pl wx q2 p l → l.n = 8 → (l.used : Int) ≤ 8 → 8 - (l.used : Int) = r → Calls Try.prog 11 #[ptr q2] wx fun e w' => e = .returned (nu r) ∧ Below wx.heap.size wx w') := fun wx l r hP h1 h2 h3 => room_is wx q2 p l r hP (by omega) (by omega) (by omega)
  have cM0 : Hid (∀ wx, Calls Try.prog 12 #[.nilIface] wx fun e w' => e = .returned (nu 0) ∧ w' = wx) := fun wx => Er.num_nil wx
  have cM : Hid (∀ (n : Nat) wx, 1 ≤ n → n ≤ 24 → Calls Try.prog 12 #[noE (n : Int)] wx fun e w' => e = .returned (nu (n : Int)) ∧ Below wx.heap.size wx w') := fun n wx h1 h2 => Er.num_no n h1 h2 wx
  clear r1 r2 r3 C6 HO5 HE
  go_wp2
  go_loopw [12, 13, 14, 15, 16, 17] (fun wv fv iv _ _ _ wr => ∃ (k : Nat) (dead : Bool), k ≤ n2 ∧ iv = nu (k : Int) ∧ fv = .bool dead ∧ Hid (∃ G d l ps vs, Kd Rep w wr p q2 G d l ps k ∧ Wn w wr q2 G wv vs ps ∧ l.dead = dead)) (fun _ _ iv _ _ _ _ => n2 - (intOf iv).toNat)
  case atStart => exact ⟨0, false, Nat.zero_le _, rfl, rfl, _, _, _, _, _, HK7.out, HW7.out, rfl⟩
  case round =>
  obtain ⟨k2, dead, hk2, rfl, rfl, hSt⟩ := hrel
  obtain ⟨G4, d4, l4, ps, vs, hD, hV, hde⟩ := hSt.out
  by_cases hkn2 : k2 < n2
  · obtain ⟨x, hx⟩ : ∃ x, L[k2]? = some x := ⟨L[k2]'(by have := HN2.out; omega), List.getElem?_eq_getElem _⟩
    have hbw := hD.ow.bel
    obtain ⟨b1, e1, eq1, _, _, y1⟩ := id H2.out
    obtain ⟨rfl, rfl⟩ : a2 = b1 ∧ c2 = e1 := by simp at eq1; exact ⟨eq1.1, eq1.2.2⟩
    obtain ⟨g, o, rfl, lg, y2⟩ := y1 (by have := HN2.out; omega)
    obtain ⟨u, f0, r0, z0⟩ := y2 k2 x hx
    have huse : (l4.used : Int) ≤ 8 := by have := hD.kp.fit.us; have := hD.n; omega
    obtain ⟨r, hr⟩ : ∃ r : Int, 8 - (l4.used : Int) = r := ⟨_, rfl⟩
    have C1 := Hid.mk' (cR.out wr l4 r hD.ow.pl hD.n huse hr)
    have HD := Hid.mk' hD
    have HV := Hid.mk' hV
    have HX : Hid (RdB w u x ∧ Pk.Nz u ∧ g < w.heap.size ∧ w.cell? ⟨g, o + k2, none⟩ = some u) := ⟨r0, z0, lg, f0⟩
    have hkI : (k2 : Int) < (n2 : Int) := by omega
    have hk0 : (0 : Int) ≤ (k2 : Int) := by omega
    obtain ⟨s1, m1, hu, hs1, hs2, _⟩ := r0
    subst hu
    unfold maxLen at hs2
    have hcl : Hid (∀ wx, Below w.heap.size w wx → wx.cell? ⟨g, o + k2, none⟩ = some (.slice s1 x.length m1)) := fun wx hb => (hb.cell (p := ⟨g, o + k2, none⟩) HX.out.2.2.1).trans HX.out.2.2.2
    obtain ⟨A, hA⟩ : ∃ A, app l4 d4 x = A := ⟨_, rfl⟩
    have hcs := app_cases (l := l4) (d := d4) x
    rw [hA] at hcs
    have hA2 : Hid (app l4 d4 x = A) := hA
    have CA : Hid (∀ wx, Kd Rep w wx p q2 G4 d4 l4 ps k2 → Calls Try.prog 8 #[ptr q2, .slice s1 x.length m1] wx fun e w' => e = .returned (errE A.1) ∧ Left Rep wx w' p q2 G4 A.2.1 A.2.2) := fun wx h => by
      have := append_any HH.out SF wx p q2 G4 d4 l4 _ x h.ow.rep h.ow.pl h.ow.off h.kp.fit (by have := h.tr; omega) (by have := h.rc; omega) (HX.out.1.below h.ow.bel) HX.out.2.1
      rw [hA2.out] at this
      exact this
    have hfA := app_fit hD.kp.fit x
    rw [hA] at hfA
    obtain ⟨N, hN⟩ : ∃ N, A.1 = N := ⟨_, rfl⟩
    rw [hN] at CA hcs
    have HNN := Hid.mk' hN
    clear hSt hD hV eq1 y1 y2 hx z0 f0 hA hN hbw
    go_wp2_with fail
    refine C1.out.mono ?_
    rintro e w10 ⟨rfl, hb⟩
    have hK10 := HD.out.below HH.out hb
    have hV10 := HV.out.below hb
    have q10 := hcl.out w10 hK10.ow.bel
    have C2 := Hid.mk' (CA.out w10 hK10)
    have HK10 := Hid.mk' hK10
    have HV10 := Hid.mk' hV10
    have HR := Hid.mk' hr
    have HHU := Hid.mk' huse
    have HFA := Hid.mk' hfA
    clear hb hK10 hV10 C1 CA HD HV hr huse hfA
    go_wp2_with fail
    refine C2.out.mono ?_
    rintro e w11 ⟨rfl, hL⟩
    have hL' := hL
    rw [← hA2.out] at hL'
    obtain ⟨G5, hK11, hk11, hg11⟩ := HK10.out.app x hL'
    rw [hA2.out, HNN.out] at hK11
    have hV11 := HV10.out.app hk11 hg11
    have q11 := hcl.out w11 hK11.ow.bel
    have HK11 := Hid.mk' hK11
    have HV11 := Hid.mk' hV11
    clear hL hL' hk11 hg11 hV11 hK11 C2 HK10 HV10 q10
    rcases hcs with ⟨rfl, hd0, hsh, hl'⟩ | ⟨rfl, hdd⟩ | ⟨rfl, hd0, hlong, hl'⟩ | ⟨rfl, hd0, hl'⟩
    · rw [if_pos rfl] at HK11
      obtain rfl : dead = false := hde.symm.trans hd0
      rw [show errE 0 = .nilIface from rfl]
      obtain ⟨m, hm⟩ : ∃ m : Nat, (Rc.blocks l4.ep x).length = m := ⟨_, rfl⟩
      have hm3 := blocks_len3 l4.ep x hsh
      have hmv : m = 1 + (x.length - 245 + 254) / 255 := by rw [← hm, Rc.blocks_len]
      rw [hm] at hm3 hl'
      have hdl : A.2.2.dead = false := by rw [hl']; exact hd0
      have hus : A.2.2.used = l4.used + m := by rw [hl']
      obtain ⟨r2, hr2⟩ : ∃ r2 : Int, 8 - (A.2.2.used : Int) = r2 := ⟨_, rfl⟩
      have hus8 : (A.2.2.used : Int) ≤ 8 := by
        have := HFA.out.1.us
        have := HK11.out.n
        omega
      have hrm : r - r2 = (m : Int) := by
        have := HR.out
        omega
      have ba : Below w11.heap.size w11 (w11.alloc (.cells #[.slice s1 x.length m1] 34)) := (Below.refl _ _).alloc (Nat.le_refl _) _
      have HK12 := Hid.mk' (HK11.out.below HH.out ba)
      have HV12 := Hid.mk' (HV11.out.below ba)
      have hmx : Hid (vs.length + 1 ≤ maxLen) := by show _ ≤ _; have := HV11.out.rd.1; have := HK11.out.rc; have := HK11.out.kp.nrec; rw [List.length_append] at this; unfold maxLen; omega
      have hby : Hid ((vs.length + 1) * 24 ≤ 140737488355328) := by show _ ≤ _; have := HV11.out.rd.1; have := HK11.out.rc; have := HK11.out.kp.nrec; rw [List.length_append] at this; omega
      have HDE := Hid.mk' hdl
      have hbs : Hid (w.heap.size ≤ (w11.alloc (.cells #[.slice s1 x.length m1] 34)).heap.size) := HK12.out.ow.bel.size
      clear hde hl' hd0 hm ba hdl
      go_wp2_with fail
      refine (cM0.out _).mono ?_
      rintro e w12 ⟨rfl, hw⟩
      subst w12
      go_wp2_with (at_builtin; refine wpList_append_lies _ rfl _ _ 22 rfl w.heap.size 34 i1 (.slice none 0 0) 1 24 Try.underlying22 ji1 kz0 kz1 kz2 rfl (by decide) _ vs.length _ rfl HV12.out.row ⟨w11.heap.size, 0, none⟩ 1 1 [.slice s1 x.length m1] rfl rfl (cell_one_new _ _ _) (by intro x hx; simp at hx; subst hx; rfl) (by decide) hmx.out hby.out hbs.out _ rfl ?_; intro g3 c3 w13 ho hg hl hlt; have HH13 := Hid.mk' (HV12.out.push HH.out HK12.out HX.out.1 HX.out.2.1 ho hg hl); clear ho hg hl hlt)
      have HV13 := Hid.mk' HH13.out.1
      have HK13 := Hid.mk' HH13.out.2
      have q13 := hcl.out w13 HK13.out.ow.bel
      have hgl : g < w13.heap.size := Nat.lt_of_lt_of_le HX.out.2.2.1 HK13.out.ow.bel.size
      have cRm : Hid (∀ wx, (Below w13.heap.size w13 wx ∧ wx.cell? ⟨g, o + k2, none⟩ = some (.slice s1 x.length m1)) → Calls Try.prog 11 #[ptr q2] wx fun e w' => e = .returned (nu r2) ∧ (Below w13.heap.size w13 w' ∧ w'.cell? ⟨g, o + k2, none⟩ = some (.slice s1 x.length m1))) := fun wx h => by
        refine (cR.out wx A.2.2 r2 (HK13.out.below HH.out h.1).ow.pl HK13.out.n hus8 hr2).mono ?_
        rintro e w' ⟨rfl, hb⟩
        have hb' := below_go h.1 hb
        exact ⟨rfl, hb', (hb'.cell (p := ⟨g, o + k2, none⟩) hgl).trans q13⟩
      have hS0 : Below w13.heap.size w13 w13.drew ∧ w13.drew.cell? ⟨g, o + k2, none⟩ = some (.slice s1 x.length m1) := ⟨(Below.refl _ _).drew, q13⟩
      have hxl : (x.length : Int) ≤ 512 := by omega
      obtain ⟨n, hn⟩ : ∃ n : Nat, x.length = n := ⟨_, rfl⟩
      rw [hn] at hmv hxl hS0 cRm q13
      obtain ⟨M, hM⟩ : ∃ M : Nat, n - 245 = M := ⟨_, rfl⟩
      have hM2 : M ≤ 267 := by omega
      have hmx2 : ∀ wx : World, (Builtin.max_ #[3, 3] 3 #[.int .i64 ((n : Int) - 245), .int .i64 0]).run Try.prog wx = .ok (.int .i64 (M : Int)) wx := fun wx => by
        rw [max_twoL]
        congr 2
        split <;> omega
      have hfin : (1 : Int) + (M : Int).tdiv 1 = 1 + (M : Int) := by simp
      have hd1 : decide ((m : Int) < 1) = false := by simp; omega
      have HHX := HX
      have hw1 : IntKind.i64.wrap (r - r2) = (m : Int) := by rw [hrm, IntKind.wrap_i64]; omega
      have hw2 : IntKind.i64.wrap ((n : Int) - 245) = (n : Int) - 245 := by rw [IntKind.wrap_i64]; omega
      have hw3 : IntKind.i64.wrap ((M : Int) + 254) = (M : Int) + 254 := by rw [IntKind.wrap_i64]; omega
      have hw4 : ((M : Int) + 254).tdiv 255 = (m : Int) - 1 := by
        rw [Int.tdiv_eq_ediv_of_nonneg (by omega)]
        omega
      have hw5 : IntKind.i64.wrap ((m : Int) - 1) = (m : Int) - 1 := by rw [IntKind.wrap_i64]; omega
      have hw6 : IntKind.i64.wrap (1 + ((m : Int) - 1)) = (m : Int) := by rw [IntKind.wrap_i64]; omega
      have hmm : ((m : Int) == (m : Int)) = true := by simp
      clear hfin hm3 hmv hrm hM hus hr2 hus8 q11 hn HH13 HK12 HV12 HK11 HV11 hmx hby hbs
      go_upto_region 29 with fail
      go_wp2_with fail
      go_region_held3 (fun w' => Below w13.heap.size w13 w' ∧ w'.cell? ⟨g, o + k2, none⟩ = some (.slice s1 n m1)) (first | assumption | fail) (first | (go_at_call 11; with_reducible refine (cRm.out _ (by first | assumption | fail)).mono ?_; rintro e w14 ⟨rfl, hS14⟩) | fail)
      all_goals
        have HK14 := Hid.mk' (HK13.out.below HH.out hS14.1)
        have HV14 := Hid.mk' (HV13.out.below hS14.1)
        clear hS0 hS14 cRm
        go_wp2
        go_roundw
        case rel => exact ⟨k2 + 1, false, by omega, by go_num, rfl, _, _, _, _, _, HK14.out, HV14.out, HDE.out⟩
        case measure => simp [intOf]; omega
    · rw [if_neg (by decide)] at HK11
      rw [show errE 22 = noE ((22 : Nat) : Int) from rfl]
      have C3 := Hid.mk' (cM.out 22 w11 (by decide) (by decide))
      go_wp2_with fail
      refine C3.out.mono ?_
      rintro e w12 ⟨rfl, hb⟩
      have HK12 := Hid.mk' (HK11.out.below HH.out hb)
      have HV12 := Hid.mk' (HV11.out.below hb)
      clear hb C3 HK11 HV11 q11
      go_wp2
      go_roundw
      case rel => exact ⟨k2 + 1, true, by omega, by go_num, rfl, _, _, _, _, _, HK12.out, HV12.out, hdd⟩
      case measure => simp [intOf]; omega
    · rw [if_neg (by decide)] at HK11
      obtain rfl : dead = false := hde.symm.trans hd0
      rw [show errE 3 = noE ((3 : Nat) : Int) from rfl]
      rw [hl'] at HK11
      have C3 := Hid.mk' (cM.out 3 w11 (by decide) (by decide))
      have hlI : ¬ ((x.length : Int) ≤ 512) := by omega
      have hrr : (r == r) = true := by simp
      have HDE := Hid.mk' hde
      clear hde hl' hd0
      go_wp2_with fail
      refine C3.out.mono ?_
      rintro e w12 ⟨rfl, hb⟩
      have hK12 := HK11.out.below HH.out hb
      have q12 := hcl.out w12 hK12.ow.bel
      have HK12 := Hid.mk' hK12
      have HV12 := Hid.mk' (HV11.out.below hb)
      have C4 := Hid.mk' (cR.out w12 l4 r hK12.ow.pl hK12.n HHU.out HR.out)
      clear hb C3 HK11 HV11 q11 hK12
      go_wp2_with fail
      refine C4.out.mono ?_
      rintro e w13 ⟨rfl, hb⟩
      have HK13 := Hid.mk' (HK12.out.below HH.out hb)
      have HV13 := Hid.mk' (HV12.out.below hb)
      have q13 := hcl.out w13 HK13.out.ow.bel
      clear hb C4 HK12 HV12 q12
      go_wp2
      go_roundw
      case rel => exact ⟨k2 + 1, false, by omega, by go_num, rfl, _, _, _, _, _, HK13.out, HV13.out, HDE.out⟩
      case measure => simp [intOf]; omega
    · rw [if_neg (by decide)] at HK11
      obtain rfl : dead = false := hde.symm.trans hd0
      rw [show errE 19 = noE ((19 : Nat) : Int) from rfl]
      rw [hl'] at HK11
      have C3 := Hid.mk' (cM.out 19 w11 (by decide) (by decide))
      have hrr : (r == r) = true := by simp
      have HDE := Hid.mk' hde
      clear hde hl' hd0
      go_wp2_with fail
      refine C3.out.mono ?_
      rintro e w12 ⟨rfl, hb⟩
      have hK12 := HK11.out.below HH.out hb
      have HK12 := Hid.mk' hK12
      have HV12 := Hid.mk' (HV11.out.below hb)
      have C4 := Hid.mk' (cR.out w12 l4 r hK12.ow.pl hK12.n HHU.out HR.out)
      clear hb C3 HK11 HV11 q11 hK12
      go_wp2_with fail
      refine C4.out.mono ?_
      rintro e w13 ⟨rfl, hb⟩
      have HK13 := Hid.mk' (HK12.out.below HH.out hb)
      have HV13 := Hid.mk' (HV12.out.below hb)
      clear hb C4 HK12 HV12
      go_wp2
      go_roundw
      case rel => exact ⟨k2 + 1, false, by omega, by go_num, rfl, _, _, _, _, _, HK13.out, HV13.out, HDE.out⟩
      case measure => simp [intOf]; omega
  · obtain rfl : k2 = n2 := by omega
    have C1 := Hid.mk' (records_is wr q2 p l4 (vs.length : Int) hD.ow.pl (by rw [hD.kp.nrec, hV.rd.1]))
    have C2 : Hid (∀ wx, Kd Rep w wx p q2 G4 d4 l4 ps k2 → _) := fun wx h => HH.out.restore wx p G4 d4 h.ow.rep
    have C3 : Hid (∀ wx G, Rep wx p G ⟨d4.n, -1, d4.tr⟩ → Calls Try.prog 15 #[ptr p, nu 1, nu 8, .int .u32 4] wx fun e w' => ∃ q3 a n c, e = .returned (.tuple #[ptr q3, .slice a n c, .nilIface]) ∧ Rc.RdL w' (.slice a n c) ps ∧ Below wx.heap.size wx w') := fun wx G hG => by
      have hop := (hD.kp.left (-1) (by decide) (by decide)).opened
      rw [hD.a, hD.n, hD.ep] at hop
      have hn := hD.dn
      have ht := hD.tr
      refine (open_yes HH.out SS wx p G ⟨d4.n, -1, d4.tr⟩ 1 8 4 hG (by simp only; omega) (by decide) (may_in _ _ _ (by decide) (by decide) (by simp only; omega)) (by decide) (hD.sm.left _) (by simp only; omega)).mono ?_
      rintro e w' ⟨q3, r, B, us, rfl, hT⟩
      have e8 : ((8 : Int).toNat) = 8 := rfl
      rw [e8] at hop
      have hrl := Rc.rows_rdl hT.out hT.rows
      rw [hop] at hrl
      obtain ⟨a, c, rfl, _⟩ := id hrl
      exact ⟨q3, a, _, c, rfl, hrl, hT.bel⟩
    have C4 : Hid (∀ wx v1 v2, Rc.RdL wx v1 ps → Rc.RdL wx v2 ps → Calls Try.prog 16 #[v1, v2] wx fun e w' => e = .returned (.bool true) ∧ Below wx.heap.size wx w') := fun wx v1 v2 q1 q2 => same_rows v1 v2 ps wx q1 q2
    have hvv : ((vs.length : Int) == (vs.length : Int)) = true := by simp
    have HD := Hid.mk' hD
    have HV := Hid.mk' hV
    obtain ⟨av, cv, hwv, hcv1, hcv2, _⟩ := Nm.own_shape hV.row
    unfold maxLen at hcv2
    subst hwv
    clear hSt hD hV
    go_wp2_with fail
    refine C1.out.mono ?_
    rintro e w10 ⟨rfl, hb⟩
    have HK10 := Hid.mk' (HD.out.below HH.out hb)
    have HV10 := Hid.mk' (HV.out.below hb)
    have C2' := Hid.mk' (C2.out w10 HK10.out)
    clear hb C1 C2 HD HV
    go_wp2_with fail
    refine C2'.out.mono ?_
    rintro e w11 ⟨⟨uu, rfl⟩, G5, r1, r2, r3⟩
    have HO11 := Hid.mk' (HK10.out.ow.turned r1 r2 r3)
    have HV11 := Hid.mk' (HV10.out.app (r2.weaken (fun _ _ h => .inr h)) r3)
    have C3' := Hid.mk' (C3.out w11 G5 r1)
    clear r1 r2 r3 C2' C3 HK10 HV10
    go_wp2_with fail
    refine C3'.out.mono ?_
    rintro e w12 ⟨q3, a5, n5, c5, rfl, hrl, hb⟩
    have HV12 := HV11.out.below hb
    have HB12 := Hid.mk' (below_go HO11.out.bel hb)
    have C4' := Hid.mk' (C4.out w12 _ _ hrl (Rc.reads_rdl HV12.row (HV12.rd.below HB12.out)))
    clear hrl hb HV12 C3' C4 HV11 HO11
    go_wp2_with fail
    refine C4'.out.mono ?_
    rintro e w13 ⟨rfl, hb⟩
    have HB13 := Hid.mk' (below_go HB12.out hb)
    clear hb C4'
    go_wp2
    go_ret
    exact ⟨rfl, HB13.out⟩
end Lo
end Go.Proofs.Ythdibodmnpcekaa
