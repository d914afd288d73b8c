/- SmeR, WrkR, LadR, RscR, in one text. -/
import Derived.Test.YthdibodmnpcekaaGreatDoorBlkM
import Derived.Deep.RegionHeld3
import Derived.Test.YthdibodmnpcekaaGreatDoorBegR
/- Lists of payloads, and whether two are the same. -/
namespace Go.Proofs.YthdibodmnpcekaaGreatDoor
set_option linter.ambiguousOpen false
open Go.RowKit
namespace Rc
open Sm Pk
set_option linter.unusedSimpArgs false
set_option linter.unusedVariables false

/-- The value v reads, in w, as the list of rows L. -/
def RdL (w : World) (v : Value) (L : List (List UInt8)) : Prop :=
  ∃ a cap, v = .slice a L.length cap ∧ L.length ≤ cap ∧ cap ≤ maxLen ∧ (0 < L.length → ∃ g o, a = some ⟨g, o, none⟩ ∧ g < w.heap.size ∧ ∀ (j : Nat) (p : List UInt8), L[j]? = some p → ∃ u, w.cell? ⟨g, o + j, none⟩ = some u ∧ RdB w u p ∧ Nz u)

theorem RdL.below {w w' : World} {v : Value} {L : List (List UInt8)} (h : RdL w v L) (hb : Below w.heap.size w w') : RdL w' v L := by
  obtain ⟨a, cap, h1, h2, h3, h4⟩ := h
  refine ⟨a, cap, h1, h2, h3, fun h0 => ?_⟩
  obtain ⟨g, o, e1, e2, e3⟩ := h4 h0
  refine ⟨g, o, e1, Nat.lt_of_lt_of_le e2 hb.size, fun j p hj => ?_⟩
  obtain ⟨u, f1, f2, f3⟩ := e3 j p hj
  exact ⟨u, (hb.cell (p := ⟨g, o + j, none⟩) e2).trans f1, f2.below hb, f3⟩

end Rc
end Go.Proofs.YthdibodmnpcekaaGreatDoor
/- What each law on records asks first: a small record has one block, and is found. -/
namespace Go.Proofs.YthdibodmnpcekaaGreatDoor
set_option linter.ambiguousOpen false
open Go.RowKit
namespace Rc
open Sm Pk
set_option linter.unusedSimpArgs false
set_option linter.unusedVariables false

theorem rd_newR (w : World) (l : List UInt8) (h : l.length ≤ 1000000) : RdB (w.alloc (.cells (l.map by1).toArray 5)) (.slice (some ⟨w.heap.size, 0, none⟩) l.length l.length) l := by
  refine ⟨_, l.length, rfl, Nat.le_refl _, by unfold maxLen; omega, fun _ => ⟨w.heap.size, 0, rfl, by simp, fun j hj => ?_⟩⟩
  rw [Nat.zero_add, cell_of_row _ w.heap.size j _ _ _ (heap_alloc_new w _)]
  simp [hj]

/-- A list of rows that a call has made reads as those rows. -/
theorem rows_rdl {w : World} {base : Nat} {r : Value} {vs : List Value} {ps : List (List UInt8)} (h : w.ownsRow base 46 1 r vs.length vs) (hr : Rows w base vs ps) : RdL w r ps := by
  have hl := hr.len
  rcases h.2 with ⟨rfl, h0⟩ | ⟨g, cap, cur, rfl, h1, h2, h3, h4, h5, h6⟩
  · have : ps = [] := List.eq_nil_of_length_eq_zero (by omega)
    subst this
    exact ⟨none, 0, rfl, Nat.le_refl _, by decide, fun h => by simp at h⟩
  · refine ⟨some ⟨g, 0, none⟩, cap, by rw [hl], by omega, h4, fun _ => ⟨g, 0, rfl, (Array.getElem?_eq_some_iff.1 h2).1, fun j p hj => ?_⟩⟩
    have hj' : j < vs.length := by
      have := (List.getElem?_eq_some_iff.1 hj).1
      omega
    have ho := hr.own j vs[j] p (List.getElem?_eq_getElem hj') hj
    refine ⟨vs[j], ?_, own_rd ho, nz_own ho⟩
    rw [Nat.zero_add]
    have := h.cells (g := g) rfl j vs[j] (List.getElem?_eq_getElem hj')
    rw [Addr.add_lit, Nat.zero_add] at this
    exact this

theorem scan_seven : (scan 1 (blocks 1 [7])).1 = [[7]] ∧ (scan 1 (blocks 1 [7])).2.2 = 1 := by
  have h := scan_whole 1 [[7]] [] (fun p hp => by simp at hp; rw [hp]; decide) (fun b r hb => by simp at hb)
  have e : flat 1 [[7]] ++ [] = blocks 1 [7] := by simp [flat]
  rw [e] at h
  refine ⟨h.1, h.2.trans ?_⟩
  simp [flat, blocks_len]

end Rc
end Go.Proofs.YthdibodmnpcekaaGreatDoor
/- The blocks of records, one behind the other, and their payloads. -/
namespace Go.Proofs.YthdibodmnpcekaaGreatDoor
set_option linter.ambiguousOpen false
open Go.RowKit
namespace Rc
open Sm Pk
set_option linter.unusedSimpArgs false
set_option linter.unusedVariables false

/-- The rows that lie in a list under way read as payloads. -/
def Reads (w : World) (vs : List Value) (ps : List (List UInt8)) : Prop := vs.length = ps.length ∧ ∀ (j : Nat) (v : Value) (p : List UInt8), vs[j]? = some v → ps[j]? = some p → RdB w v p ∧ Nz v

theorem Reads.below {w w' : World} {vs : List Value} {ps : List (List UInt8)} (h : Reads w vs ps) (hb : Below w.heap.size w w') : Reads w' vs ps :=
  ⟨h.1, fun j v p hj hp => ⟨(h.2 j v p hj hp).1.below hb, (h.2 j v p hj hp).2⟩⟩

theorem Reads.snoc {w : World} {vs : List Value} {ps : List (List UInt8)} (h : Reads w vs ps) {v : Value} {p : List UInt8} (hr : RdB w v p) (hz : Nz v) : Reads w (vs ++ [v]) (ps ++ [p]) := by
  refine ⟨by rw [List.length_append, List.length_append, h.1]; rfl, fun j u q hj hq => ?_⟩
  rcases Nat.lt_or_ge j vs.length with hl | hl
  · rw [List.getElem?_append_left hl] at hj
    rw [List.getElem?_append_left (by rw [← h.1]; exact hl)] at hq
    exact h.2 j u q hj hq
  · rw [List.getElem?_append_right hl] at hj
    rw [List.getElem?_append_right (by rw [← h.1]; exact hl), ← h.1] at hq
    obtain ⟨k, hk⟩ : ∃ k, j - vs.length = k := ⟨_, rfl⟩
    rw [hk] at hj hq
    cases k with
    | zero =>
      simp at hj hq
      subst hj hq
      exact ⟨hr, hz⟩
    | succ k => simp at hj

theorem reads_rdl {w : World} {base : Nat} {r : Value} {vs : List Value} {ps : List (List UInt8)} (h : w.ownsRow base 46 1 r vs.length vs) (hr : Reads w vs ps) : RdL w r ps := by
  have hl := hr.1
  rcases h.2 with ⟨rfl, h0⟩ | ⟨g, cap, cur, rfl, h1, h2, h3, h4, h5, h6⟩
  · have : ps = [] := List.eq_nil_of_length_eq_zero (by omega)
    subst this
    exact ⟨none, 0, rfl, Nat.le_refl _, by decide, fun h => by simp at h⟩
  · refine ⟨some ⟨g, 0, none⟩, cap, by rw [hl], by omega, h4, fun _ => ⟨g, 0, rfl, (Array.getElem?_eq_some_iff.1 h2).1, fun j p hj => ?_⟩⟩
    have hj' : j < vs.length := by
      have := (List.getElem?_eq_some_iff.1 hj).1
      omega
    have ho := hr.2 j vs[j] p (List.getElem?_eq_getElem hj') hj
    refine ⟨vs[j], ?_, ho.1, ho.2⟩
    rw [Nat.zero_add]
    have := h.cells (g := g) rfl j vs[j] (List.getElem?_eq_getElem hj')
    rw [Addr.add_lit, Nat.zero_add] at this
    exact this

theorem flat_take_len (ep : Nat) (ps : List (List UInt8)) (h : ∀ p ∈ ps, p.length ≤ 512) : (flat ep ps).length ≤ 3 * ps.length := by
  induction ps with
  | nil => simp [flat]
  | cons p ps ih =>
    have h1 := blocks_len ep p
    have h2 := h p (by simp)
    have h3 := ih (fun q hq => h q (by simp [hq]))
    simp only [flat, List.flatMap_cons, List.length_append, List.length_cons] at h3 ⊢
    omega

/-- The two rows that grow: the blocks, and the payloads (which lie in what was there). -/
structure Ld (w0 w : World) (ep : Nat) (ps : List (List UInt8)) (bv ov : Value) (vs : List Value) (m : Nat) : Prop where
  bl : w.ownsRow w0.heap.size 9 1 bv m ((flat ep ps).map Nm.txt)
  ml : (flat ep ps).length = m
  out : w.ownsRow w0.heap.size 46 1 ov vs.length vs
  rd : Reads w0 vs ps
  sep : Nm.Sep bv ov
  bel : Below w0.heap.size w0 w

theorem Ld.below {w0 w w' : World} {ep : Nat} {ps : List (List UInt8)} {bv ov : Value} {vs : List Value} {m : Nat} (h : Ld w0 w ep ps bv ov vs m) (hb : Below w.heap.size w w') : Ld w0 w' ep ps bv ov vs m :=
  ⟨own_keptB h.bl hb, h.ml, own_keptB h.out hb, h.rd, h.sep, h.bel.trans (hb.mono h.bel.size)⟩

/-- The blocks of one more. -/
structure Lh (w0 w : World) (ep : Nat) (ps : List (List UInt8)) (p : List UInt8) (bv ov : Value) (vs : List Value) (m : Nat) : Prop where
  bl : w.ownsRow w0.heap.size 9 1 bv m ((flat ep (ps ++ [p])).map Nm.txt)
  ml : (flat ep (ps ++ [p])).length = m
  out : w.ownsRow w0.heap.size 46 1 ov vs.length vs
  rd : Reads w0 vs ps
  sep : Nm.Sep bv ov
  bel : Below w0.heap.size w0 w

theorem flat_snoc (ep : Nat) (ps : List (List UInt8)) (p : List UInt8) : flat ep (ps ++ [p]) = flat ep ps ++ blocks ep p := by simp [flat]

theorem Ld.more {w0 w w' : World} {ep : Nat} {ps : List (List UInt8)} {p : List UInt8} {bv ov : Value} {vs : List Value} {m k g cap : Nat} (h : Ld w0 w ep ps bv ov vs m) (hk : (blocks ep p).length = k) (ho : w'.ownsRow w0.heap.size 9 1 (.slice (some ⟨g, 0, none⟩) (m + k) cap) (m + k) ((flat ep ps).map Nm.txt ++ (blocks ep p).map Nm.txt)) (hg : w.grownBy w' bv.ownBlock) (hl : bv.ownBlock = some g ∨ g = w.heap.size) : Lh w0 w' ep ps p (.slice (some ⟨g, 0, none⟩) (m + k) cap) ov vs (m + k) := by
  refine ⟨by rw [flat_snoc, List.map_append]; exact ho, by rw [flat_snoc, List.length_append, h.ml, hk], h.out.kept hg ?_, h.rd, ?_, Below.grown h.bel hg h.bel.size (fun j hj => (h.bl.lt j hj).1)⟩
  · cases hv : ov.ownBlock with
    | none => exact .inl rfl
    | some b => exact .inr (fun e => h.sep b e.symm hv)
  · intro b hb1 hb2
    have e : g = b := by simpa [Value.ownBlock] using hb1
    subst e
    rcases hl with hl | hl
    · exact h.sep g hl hb2
    · have := (h.out.lt g hb2).2
      omega

theorem Lh.alloc {w0 w : World} {ep : Nat} {ps : List (List UInt8)} {p : List UInt8} {bv ov : Value} {vs : List Value} {m : Nat} (h : Lh w0 w ep ps p bv ov vs m) (o : Obj) : Lh w0 (w.alloc o) ep ps p bv ov vs m :=
  ⟨h.bl.alloc o, h.ml, h.out.alloc o, h.rd, h.sep, h.bel.alloc h.bel.size o⟩

theorem Lh.more {w0 w w' : World} {ep : Nat} {ps : List (List UInt8)} {p : List UInt8} {bv ov u : Value} {vs : List Value} {m g cap : Nat} (h : Lh w0 w ep ps p bv ov vs m) (hr : RdB w0 u p) (hz : Nz u) (ho : w'.ownsRow w0.heap.size 46 1 (.slice (some ⟨g, 0, none⟩) (vs.length + 1) cap) (vs.length + 1) (vs ++ [u])) (hg : w.grownBy w' ov.ownBlock) (hl : ov.ownBlock = some g ∨ g = w.heap.size) : Ld w0 w' ep (ps ++ [p]) bv (.slice (some ⟨g, 0, none⟩) (vs.length + 1) cap) (vs ++ [u]) m := by
  refine ⟨h.bl.kept hg ?_, h.ml, by rw [List.length_append]; exact ho, h.rd.snoc hr hz, ?_, Below.grown h.bel hg h.bel.size (fun j hj => (h.out.lt j hj).1)⟩
  · cases hv : bv.ownBlock with
    | none => exact .inl rfl
    | some b => exact .inr (fun e => h.sep b hv e.symm)
  · intro b hb1 hb2
    have e : g = b := by simpa [Value.ownBlock] using hb2
    subst e
    rcases hl with hl | hl
    · exact h.sep g hb1 hl
    · have := (h.bl.lt g hb1).2
      omega

theorem cut_rd {w : World} {a : Option Addr} {cap n m : Nat} {p : List UInt8} (hn : p.length = n) (hR : RdB w (.slice a n cap) p) (hm : (p.take 512).length = m) : RdB w (.slice a m cap) (p.take 512) := by
  rw [← hn] at hR
  have hml : m ≤ p.length := by
    rw [← hm, List.length_take]
    omega
  have h2 := hR.take m hml
  have h3 : p.take m = p.take 512 := by
    rw [List.length_take] at hm
    rcases Nat.le_total 512 p.length with h | h
    · rw [← hm, Nat.min_eq_left h]
    · rw [← hm, Nat.min_eq_right h, List.take_of_length_le (Nat.le_refl _), List.take_of_length_le h]
  rw [h3] at h2
  exact h2

end Rc
end Go.Proofs.YthdibodmnpcekaaGreatDoor
/- What blocks begin with: the document's Scan. -/
namespace Go.Proofs.YthdibodmnpcekaaGreatDoor
set_option linter.ambiguousOpen false
open Go.RowKit
namespace Rc
open Sm Pk
set_option linter.unusedSimpArgs false
set_option linter.unusedVariables false

theorem OwnC.kept {w w' : World} {base : Nat} {v : Value} {l : List UInt8} {row : Option Nat} (h : OwnC w base v l) (hg : w.grownBy w' row) (hne : ∀ b, v.ownBlock = some b → row ≠ some b) : OwnC w' base v l := by
  rcases h with ⟨rfl, rfl⟩ | ⟨g, cap, h⟩
  · exact .inl ⟨rfl, rfl⟩
  · have hgb : v.ownBlock = some g := by rw [h.v]; rfl
    have hbk := hg.block g h.lt (fun e => hne g hgb e.symm)
    have hc : ∀ j, w'.cell? ⟨g, j, none⟩ = w.cell? ⟨g, j, none⟩ := fun j => World.cell?_of_block (w := w) hbk
    refine .inr ⟨g, cap, h.v, h.b, Nat.lt_of_lt_of_le h.lt hg.size, h.le, h.max, fun j hj => (hc j).trans (h.at_ j hj), fun j hj => by rw [hc j]; exact h.there j hj, fun j => ?_⟩
    rcases h.free j with hf | hf
    · left
      rw [← hf]
      unfold World.frozen?
      simp only [hbk]
    · exact .inr hf

theorem OwnC.mono {w : World} {b c : Nat} {v : Value} {l : List UInt8} (h : OwnC w b v l) (hc : c ≤ b) : OwnC w c v l := by
  rcases h with h | ⟨g, cap, h⟩
  · exact .inl h
  · exact .inr ⟨g, cap, h.v, Nat.le_trans hc h.b, h.lt, h.le, h.max, h.at_, h.there, h.free⟩

/-- Under way: the payloads' list, the places, the payloads. -/
structure Sc (w0 w : World) (ps : List (List UInt8)) (pls : List Nat) (ov pv : Value) (vs : List Value) : Prop where
  out : w.ownsRow w0.heap.size 46 1 ov vs.length vs
  pl : w.ownsRow w0.heap.size 3 1 pv pls.length (pls.map fun n : Nat => nu (n : Int))
  len : vs.length = ps.length
  row : ∀ (j : Nat) (v : Value) (p : List UInt8), vs[j]? = some v → ps[j]? = some p → OwnC w w0.heap.size v p
  sop : Nm.Sep ov pv
  sor : ∀ v ∈ vs, Nm.Sep ov v
  spr : ∀ v ∈ vs, Nm.Sep pv v
  bel : Below w0.heap.size w0 w

theorem Sc.below {w0 w w' : World} {ps : List (List UInt8)} {pls : List Nat} {ov pv : Value} {vs : List Value} (h : Sc w0 w ps pls ov pv vs) (hb : Below w.heap.size w w') : Sc w0 w' ps pls ov pv vs :=
  ⟨own_keptB h.out hb, own_keptB h.pl hb, h.len, fun j v p hj hp => (h.row j v p hj hp).below hb, h.sop, h.sor, h.spr, h.bel.trans (hb.mono h.bel.size)⟩

theorem Sc.lt {w0 w : World} {ps : List (List UInt8)} {pls : List Nat} {ov pv : Value} {vs : List Value} (h : Sc w0 w ps pls ov pv vs) : ∀ v ∈ vs, ∀ b, v.ownBlock = some b → b < w.heap.size := fun v hv b hb => by
  obtain ⟨j, hj, rfl⟩ := List.getElem_of_mem hv
  have hp : ps[j]? = some (ps[j]'(by rw [← h.len]; exact hj)) := List.getElem?_eq_getElem _
  exact ((h.row j vs[j] _ (List.getElem?_eq_getElem hj) hp).lt b hb).2

theorem sep_lies {u v : Value} {g n cap H : Nat} (hl : u.ownBlock = some g ∨ g = H) (hs : Nm.Sep u v) (hv : ∀ b, v.ownBlock = some b → b < H) : Nm.Sep (.slice (some ⟨g, 0, none⟩) n cap) v := fun b hb1 hb2 => by
  have e : g = b := by simpa [Value.ownBlock] using hb1
  subst e
  rcases hl with hl | hl
  · exact hs g hl hb2
  · have := hv g hb2
    omega

/-- A payload more; its place is told next. -/
structure Sd (w0 w : World) (ps : List (List UInt8)) (p : List UInt8) (pls : List Nat) (ov pv u : Value) (vs : List Value) : Prop where
  out : w.ownsRow w0.heap.size 46 1 ov (vs.length + 1) (vs ++ [u])
  pl : w.ownsRow w0.heap.size 3 1 pv pls.length (pls.map fun n : Nat => nu (n : Int))
  len : vs.length = ps.length
  row : ∀ (j : Nat) (v : Value) (q : List UInt8), (vs ++ [u])[j]? = some v → (ps ++ [p])[j]? = some q → OwnC w w0.heap.size v q
  sop : Nm.Sep ov pv
  sor : ∀ v ∈ vs ++ [u], Nm.Sep ov v
  spr : ∀ v ∈ vs ++ [u], Nm.Sep pv v
  bel : Below w0.heap.size w0 w

theorem Sc.more {w0 w w' : World} {ps : List (List UInt8)} {p : List UInt8} {pls : List Nat} {ov pv u : Value} {vs : List Value} {g cap : Nat} (h : Sc w0 w ps pls ov pv vs) (hu : OwnC w w0.heap.size u p) (hou : Nm.Sep ov u) (hpu : Nm.Sep pv u) (ho : w'.ownsRow w0.heap.size 46 1 (.slice (some ⟨g, 0, none⟩) (vs.length + 1) cap) (vs.length + 1) (vs ++ [u])) (hg : w.grownBy w' ov.ownBlock) (hl : ov.ownBlock = some g ∨ g = w.heap.size) : Sd w0 w' ps p pls (.slice (some ⟨g, 0, none⟩) (vs.length + 1) cap) pv u vs := by
  have hall : ∀ v ∈ vs ++ [u], Nm.Sep ov v := fun v hv => by
    rcases List.mem_append.1 hv with hv | hv
    · exact h.sor v hv
    · simp at hv; subst hv; exact hou
  have hlt : ∀ v ∈ vs ++ [u], ∀ b, v.ownBlock = some b → b < w.heap.size := fun v hv b hb => by
    rcases List.mem_append.1 hv with hv | hv
    · exact h.lt v hv b hb
    · simp at hv; subst hv; exact (hu.lt b hb).2
  refine ⟨ho, h.pl.kept hg (by cases hv : pv.ownBlock with | none => exact .inl rfl | some b => exact .inr (fun e => h.sop b e.symm hv)), h.len, fun j v q hj hq => ?_, sep_lies hl h.sop (fun b hb => (h.pl.lt b hb).2), fun v hv => sep_lies hl (hall v hv) (hlt v hv), fun v hv => ?_, Below.grown h.bel hg h.bel.size (fun j hj => (h.out.lt j hj).1)⟩
  · have hO : OwnC w w0.heap.size v q := by
      rcases Nat.lt_or_ge j vs.length with hjl | hjl
      · rw [List.getElem?_append_left hjl] at hj
        rw [List.getElem?_append_left (by rw [← h.len]; exact hjl)] at hq
        exact h.row j v q hj hq
      · rw [List.getElem?_append_right hjl] at hj
        rw [List.getElem?_append_right (by rw [← h.len]; exact hjl), ← h.len] at hq
        obtain ⟨k, hk⟩ : ∃ k, j - vs.length = k := ⟨_, rfl⟩
        rw [hk] at hj hq
        cases k with
        | zero =>
          simp at hj hq
          subst hj hq
          exact hu
        | succ k => simp at hj
    exact hO.kept hg (fun b hb e => hall v (List.mem_of_getElem? hj) b e hb)
  · rcases List.mem_append.1 hv with hv | hv
    · exact h.spr v hv
    · simp at hv; subst hv; exact hpu

theorem Sd.alloc {w0 w : World} {ps : List (List UInt8)} {p : List UInt8} {pls : List Nat} {ov pv u : Value} {vs : List Value} (h : Sd w0 w ps p pls ov pv u vs) (o : Obj) : Sd w0 (w.alloc o) ps p pls ov pv u vs := by
  have hb : Below w.heap.size w (w.alloc o) := (Below.refl _ _).alloc (Nat.le_refl _) _
  exact ⟨h.out.alloc o, h.pl.alloc o, h.len, fun j v q hj hq => (h.row j v q hj hq).below hb, h.sop, h.sor, h.spr, h.bel.alloc h.bel.size o⟩

theorem Sd.more {w0 w w' : World} {ps : List (List UInt8)} {p : List UInt8} {pls : List Nat} {n : Nat} {ov pv u : Value} {vs : List Value} {g cap : Nat} (h : Sd w0 w ps p pls ov pv u vs) (ho : w'.ownsRow w0.heap.size 3 1 (.slice (some ⟨g, 0, none⟩) (pls.length + 1) cap) (pls.length + 1) ((pls.map fun n : Nat => nu (n : Int)) ++ [nu (n : Int)])) (hg : w.grownBy w' pv.ownBlock) (hl : pv.ownBlock = some g ∨ g = w.heap.size) : Sc w0 w' (ps ++ [p]) (pls ++ [n]) ov (.slice (some ⟨g, 0, none⟩) (pls.length + 1) cap) (vs ++ [u]) := by
  have hlt : ∀ v ∈ vs ++ [u], ∀ b, v.ownBlock = some b → b < w.heap.size := fun v hv b hb => by
    obtain ⟨j, hj, rfl⟩ := List.getElem_of_mem hv
    have hp : (ps ++ [p])[j]? = some ((ps ++ [p])[j]'(by rw [List.length_append] at hj ⊢; rw [← h.len]; exact hj)) := List.getElem?_eq_getElem _
    exact ((h.row j _ _ (List.getElem?_eq_getElem hj) hp).lt b hb).2
  have hs2 : Nm.Sep (.slice (some ⟨g, 0, none⟩) (pls.length + 1) cap) ov := sep_lies hl h.sop.symm (fun b hb => (h.out.lt b hb).2)
  refine ⟨?_, by rw [List.length_append, List.map_append]; exact ho, by rw [List.length_append, List.length_append, h.len]; rfl, fun j v q hj hq => (h.row j v q hj hq).kept hg (fun b hb e => h.spr v (List.mem_of_getElem? hj) b e hb), hs2.symm, h.sor, fun v hv => sep_lies hl (h.spr v hv) (hlt v hv), Below.grown h.bel hg h.bel.size (fun j hj => (h.pl.lt j hj).1)⟩
  rw [List.length_append]
  exact h.out.kept hg (by cases hv : ov.ownBlock with | none => exact .inl rfl | some b => exact .inr (fun e => h.sop b hv e.symm))

theorem scanG_step (ep f at_ : Nat) (l : List (List UInt8)) (p : List UInt8) (k : Nat) (h : one ep l = some (p, k)) : scanG ep (f + 1) at_ l = (p :: (scanG ep f (at_ + k) (l.drop k)).1, at_ :: (scanG ep f (at_ + k) (l.drop k)).2.1, (scanG ep f (at_ + k) (l.drop k)).2.2) := by
  rw [scanG, h]

theorem scanG_none (ep f at_ : Nat) (l : List (List UInt8)) (h : one ep l = none) : scanG ep (f + 1) at_ l = ([], [], at_) := by
  rw [scanG, h]

/-- What is told: what was told, and what is left. -/
def told (a : List (List UInt8) × List Nat × Nat) (ps : List (List UInt8)) (pls : List Nat) : List (List UInt8) × List Nat × Nat := (ps ++ a.1, pls ++ a.2.1, a.2.2)

set_option maxRecDepth 100000 in
set_option maxHeartbeats 8000000 in
theorem refscan (ep : Nat) (lv : Value) (ls : List (List UInt8)) (w : World) (hep : ep < 4294967296) (hR : Nm.Rd w lv ls) (hN : ls.length ≤ 1000000000000) (hT : ∀ t ∈ ls, t.length ≤ 140737488350000) :
    Calls Tryz.prog 54 #[.int .u32 (ep : Int), lv] w fun e w' => ∃ ov pv vs, e = .returned (.tuple #[ov, pv, nu ((scan ep ls).2.2 : Int)]) ∧ Sc w w' (scan ep ls).1 (scan ep ls).2.1 ov pv vs := by
  obtain ⟨i1, ji1, kz0, kz1, kz2⟩ := info_parts (show (Tryz.prog.info? 46).map (fun i => (i.zero, i.size, i.bytes)) = some (some (.slice none 0 0), 1, 24) by kernel_rfl)
  obtain ⟨i2, ji2, lz0, lz1, lz2⟩ := info_parts (show (Tryz.prog.info? 3).map (fun i => (i.zero, i.size, i.bytes)) = some (some (.int .i64 0), 1, 8) by kernel_rfl)
  have HR := Hid.mk' hR
  have HT := Hid.mk' hT
  obtain ⟨n, hn⟩ : ∃ n, ls.length = n := ⟨_, rfl⟩
  have HN := Hid.mk' hn
  obtain ⟨al, cl, rfl, hc1, hc2, _⟩ := hR
  obtain ⟨A, hA⟩ : ∃ x, scan ep ls = x := ⟨_, rfl⟩
  have HA : Hid (scanG ep n 0 ls = A) := by
    show _ = _
    rw [← hA, scan, hn]
  rw [hA]
  rw [hn] at HR hc1 hN ⊢
  have cO : Hid (∀ wx at_, at_ ≤ n → Below w.heap.size w wx → Calls Tryz.prog 72 #[.int .u32 (ep : Int), .slice al n cl, nu (at_ : Int)] wx (AnsO (one ep (ls.drop at_)) wx)) := fun wx at_ ha hb => refone ep _ ls at_ wx hep (HR.out.below hb) (by have := HN.out; omega) (by have := HN.out; omega) HT.out
  clear hT hn hA hc2
  go_enter Tryz.func54, Tryz.ntmps54
  go_wp2
  go_loopw [7, 8, 9, 10, 11, 12, 13] (fun ov pv av iv _ _ _ wr => ∃ (i at_ : Nat) (ps : List (List UInt8)) (pls : List Nat) (vs : List Value), i ≤ n ∧ at_ ≤ n ∧ ps.length = i ∧ pls.length = i ∧ iv = nu (i : Int) ∧ av = nu (at_ : Int) ∧ Hid (told (scanG ep (n - i) at_ (ls.drop at_)) ps pls = A) ∧ Hid (Sc w wr ps pls ov pv vs)) (fun _ _ _ iv _ _ _ _ => n - (intOf iv).toNat)
  case atStart => exact ⟨0, 0, [], [], [], Nat.zero_le _, Nat.zero_le _, rfl, rfl, rfl, rfl, by show told _ _ _ = _; rw [Nat.sub_zero, List.drop_zero, told, HA.out]; rfl, ⟨World.ownsRow_nil _ _ _ _, World.ownsRow_nil _ _ _ _, rfl, fun j v p hj => by simp at hj, Nm.Sep.nil _, fun v hv => by simp at hv, fun v hv => by simp at hv, Below.refl _ _⟩⟩
  case round =>
  obtain ⟨i, at_, ps, pls, vs, hi, hat, hpl, hql, rfl, rfl, hS, hC⟩ := hrel
  by_cases hin : i < n
  · have hiI : (i : Int) < (n : Int) := by omega
    have C := Hid.mk' (cO.out wr at_ hat hC.out.bel)
    cases ho : one ep (ls.drop at_) with
    | none =>
      rw [ho] at C
      have hfin : Hid (A = (ps, pls, at_)) := by
        show _ = _
        rw [← hS.out, show n - i = (n - i - 1) + 1 by omega, scanG_none ep _ _ _ ho, told]
        simp
      clear ho hpl hql
      go_wp2_with fail
      refine C.out.mono ?_
      rintro e x1 hx
      have hx' : ∃ v k, e = .returned (.tuple #[v, k, .bool false]) ∧ Below wr.heap.size wr x1 := by
        obtain ⟨a, c, k, h | h⟩ := hx
        · exact ⟨_, _, h.1, h.2⟩
        · exact h
      obtain ⟨v, k, rfl, hb⟩ := hx'
      have HC1 := Hid.mk' (hC.out.below hb)
      clear hx hb C
      go_wp2
      go_ret3
      rw [hfin.out]
      exact ⟨_, _, vs, rfl, HC1.out⟩
    | some x =>
      obtain ⟨p, k⟩ := x
      obtain ⟨o1, o2, o3, o4⟩ := one_some ep (ls.drop at_) p k ho
      rw [ho] at C
      have hak : at_ + k ≤ n := by
        rw [List.length_drop, HN.out] at o3
        omega
      have hnx : Hid (told (scanG ep (n - (i + 1)) (at_ + k) (ls.drop (at_ + k))) (ps ++ [p]) (pls ++ [at_]) = A) := by
        show _ = _
        rw [← hS.out, show n - i = (n - (i + 1)) + 1 by omega, scanG_step ep _ _ _ p k ho, told, told, List.drop_drop]
        simp
      have hmx : Hid (vs.length + 1 ≤ maxLen) := by show _ ≤ _; have := hC.out.len; unfold maxLen; omega
      have hby : Hid ((vs.length + 1) * 24 ≤ 140737488355328) := by show _ ≤ _; have := hC.out.len; omega
      have hmx2 : Hid (pls.length + 1 ≤ maxLen) := by show _ ≤ _; unfold maxLen; omega
      have hby2 : Hid ((pls.length + 1) * 8 ≤ 140737488355328) := by show _ ≤ _; omega
      have HPL := Hid.mk' hpl
      have HQL := Hid.mk' hql
      have hakI : (at_ : Int) + (k : Int) ≤ 1000000000000 := by omega
      clear ho o1 o2 o3 o4 hpl hql
      go_wp2_with fail
      refine C.out.mono ?_
      rintro e x1 ⟨v, rfl, hov, hb⟩
      have HC1 := Hid.mk' (hC.out.below hb)
      have HV1 := Hid.mk' (hov.mono hC.out.bel.size)
      have hout : Hid (Nm.Sep u7 v) := fun b h1 h2 => by
        have e1 := (hC.out.out.lt b h1).2
        have e2 := (hov.lt b h2).1
        omega
      have hplc : Hid (Nm.Sep u8 v) := fun b h1 h2 => by
        have e1 := (hC.out.pl.lt b h1).2
        have e2 := (hov.lt b h2).1
        omega
      obtain ⟨av, cv, rfl⟩ := hov.shape
      have ba : Below x1.heap.size x1 (x1.alloc (.cells #[.slice av p.length cv] 46)) := (Below.refl _ _).alloc (Nat.le_refl _) _
      have HC2 := Hid.mk' (HC1.out.below ba)
      have HV2 := Hid.mk' (HV1.out.below ba)
      clear hov hb C ba
      go_wp2_with (first | (at_builtin; refine wpList_append_lies _ rfl _ _ 39 rfl w.heap.size 46 i1 (.slice none 0 0) 1 24 Tryz.underlying39 ji1 kz0 kz1 kz2 rfl (by decide) _ vs.length _ rfl HC2.out.out ⟨x1.heap.size, 0, none⟩ 1 1 [.slice av p.length cv] rfl rfl (cell_one_new _ _ _) (by intro x hx; simp at hx; subst hx; rfl) (by decide) hmx.out hby.out HC2.out.bel.size _ rfl ?_; intro g3 c3 w3 ho hg hl hlt; have HD3 := Hid.mk' ((HC2.out.more HV2.out hout.out hplc.out ho hg hl).alloc (.cells #[nu (at_ : Int)] 3)); clear ho hg hl hlt) | (at_builtin; refine wpList_append_lies _ rfl _ _ 120 rfl w.heap.size 3 i2 (.int .i64 0) 1 8 Tryz.underlying120 ji2 lz0 lz1 lz2 rfl (by decide) _ pls.length _ rfl HD3.out.pl ⟨w3.heap.size, 0, none⟩ 1 1 [nu (at_ : Int)] rfl rfl (cell_one_new _ _ _) (by intro x hx; simp at hx; subst hx; rfl) (by decide) hmx2.out hby2.out HD3.out.bel.size _ rfl ?_; intro g4 c4 w4 ho hg hl hlt; have HC4 := Hid.mk' (HD3.out.more ho hg hl); clear ho hg hl hlt) | fail)
      refine ⟨⟨i + 1, at_ + k, ps ++ [p], pls ++ [at_], vs ++ [.slice av p.length cv], by omega, hak, by rw [List.length_append, HPL.out]; rfl, by rw [List.length_append, HQL.out]; rfl, by go_num, by go_num, hnx, HC4⟩, ?_⟩
      simp [intOf]
      omega
  · obtain rfl : i = n := by omega
    have hfin : Hid (A = (ps, pls, at_)) := by
      show _ = _
      rw [← hS.out, Nat.sub_self, told, scanG]
      simp
    clear hpl hql
    go_wp2
    go_ret3
    rw [hfin.out]
    exact ⟨_, _, vs, rfl, hC.out⟩
end Rc
end Go.Proofs.YthdibodmnpcekaaGreatDoor
