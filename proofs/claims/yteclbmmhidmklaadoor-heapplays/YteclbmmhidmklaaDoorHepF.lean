/- What one act does to both heaps. -/
import Derived.Test.YteclbmmhidmklaaDoorHepE
namespace Go.Proofs.YteclbmmhidmklaaDoor
set_option linter.ambiguousOpen false
open Go.RowKit
namespace Hh
open Ft
set_option linter.unusedSimpArgs false
set_option linter.unusedVariables false
attribute [local go_sem] Oper.semAt_some

@[reducible] def I64 (x : Int) : Prop := -9223372036854775808 ≤ x ∧ x ≤ 9223372036854775807

theorem ret_nuH {a b : Int} (h : a = b) : Ending.returned (nu a) = Ending.returned (nu b) := by rw [h]

theorem pickH (k : Int) (n : Nat) (w : World) (hn : 0 < n) (hn2 : n ≤ 4611686018427387904) (hk : -9223372036854775808 ≤ k ∧ k ≤ 9223372036854775807) :
    Calls Tryd.prog 10 #[nu k, nu n] w fun e w' => e = .returned (nu (k % (n : Int))) ∧ w' = w := by
  have d1 : (decide ((n : Int) < 1)) = false := by simp; omega
  have e1 := Int.emod_add_mul_ediv k n
  have e2 := Int.emod_nonneg k (b := (n : Int)) (by omega)
  have e3 := Int.emod_lt_of_pos k (b := (n : Int)) (by omega)
  have te : k.tmod n = k % (n : Int) ∨ k.tmod n = k % (n : Int) - n := by
    rw [Int.tmod_eq_emod]
    split
    · left; omega
    · right; simp
  clear e1
  by_cases h : k.tmod n < 0
  · have HT : Hid (k.tmod n + n = k % (n : Int)) := by
      show _ = _
      omega
    have b1 : -(n : Int) ≤ k.tmod n := by omega
    clear te e2 e3
    go_enter Tryd.func10, Tryd.ntmps10
    go_wp2
    go_ret
    exact ⟨ret_nuH HT.out, rfl⟩
  · have HT : Hid (k.tmod n = k % (n : Int)) := by
      show _ = _
      omega
    clear te e2 e3
    go_enter Tryd.func10, Tryd.ntmps10
    go_wp2
    go_ret
    exact ⟨ret_nuH HT.out, rfl⟩

/-- One thing that is done. -/
structure Hact where
  k : Int
  i : Int
  key : Int

def Hact.fits (x : Hact) : Prop := I64 x.k ∧ I64 x.key

@[reducible] def Hact.cells (x : Hact) : List Value := [nu x.k, nu x.i, nu x.key]

/-- A list of them. -/
def RdA (w : World) (v : Value) (L : List Hact) : Prop :=
  ∃ a cap, v = .slice a L.length cap ∧ L.length ≤ cap ∧ cap ≤ maxLen ∧ (0 < L.length → ∃ g o, a = some ⟨g, o, none⟩ ∧ g < w.heap.size ∧ ∀ n x, L[n]? = some x → w.rangeAt g (o + n * 3) x.cells)

theorem size_hact : (Tryd.prog.info? 38).map (·.size) = some 3 := by kernel_rfl

theorem range_belH {w w' : World} {B g o : Nat} {cs : List Value} (h : w.rangeAt g o cs) (hb : Below B w w') (hg : g < B) : w'.rangeAt g o cs := fun j v hv => (hb.cell (p := ⟨g, o + j, none⟩) hg).trans (h j v hv)

/-- An act alone in its block. -/
def LoneH (w : World) (b : Nat) (x : Hact) : Prop := w.heap[b]? = some (.cells #[nu x.k, nu x.i, nu x.key] 38)

theorem LoneH.cells {w : World} {b : Nat} {x : Hact} (h : LoneH w b x) : w.cell? ⟨b, 0, none⟩ = some (nu x.k) ∧ w.cell? ⟨b, 1, none⟩ = some (nu x.i) ∧ w.cell? ⟨b, 2, none⟩ = some (nu x.key) := by
  unfold LoneH at h
  simp [World.cell?, h]

section
variable {R : RepHT} {base : Nat} {w0 w w' : World} {p t : Nat} {N : Int} {k : Nat} {fv wv : Value} {M : List It}

theorem Hs.bel (h : Hs R base w0 w p t N k fv wv M) : Below w0.heap.size w0 w := by
  obtain ⟨F, G, L, X, h1, _⟩ := h.ex
  exact h1.bel

theorem asked_hs (C : HeapC R) (i : Int) (h : Hs R base w0 w p t N k fv wv M) :
    Calls Tryd.prog 17 #[ptr p, ptr t, nu i] w fun e w' => e = .returned (.bool true) ∧ Hid (Hs R base w0 w' p t N k fv wv M) := by
  obtain ⟨F, G, L, X, h1, _⟩ := id h.ex
  refine (asked_any C base w0 w p t F G N L i h1).mono ?_
  rintro e w' ⟨rfl, hb⟩
  exact ⟨rfl, h.below C hb⟩

/-- Both heaps since the world wb, whatever blocks they lean on now. -/
def Ha (R : RepHT) (base : Nat) (w0 wb w : World) (p t : Nat) (F0 G0 : Nat → Prop) (N : Int) (L1 L2 : List It) : Prop := ∃ F G, Hd R base w0 wb w p t F0 G0 F G N L1 L2

variable {wb : World} {F0 G0 : Nat → Prop} {L L1 L2 : List It}

theorem Ha.below (C : HeapC R) (h : Ha R base w0 wb w p t F0 G0 N L1 L2) (hb : Below w.heap.size w w') : Ha R base w0 wb w' p t F0 G0 N L1 L2 := by
  obtain ⟨F, G, h⟩ := h
  exact ⟨F, G, h.below C hb⟩

theorem Ha.lone (h : Ha R base w0 wb w p t F0 G0 N L1 L2) {b : Nat} {x : Hact} (hb : LoneH wb b x) (hn : ¬ F0 b ∧ ¬ G0 b) : LoneH w b x := by
  obtain ⟨F, G, h⟩ := h
  exact h.blk hb hn

theorem Ha.bel (h : Ha R base w0 wb w p t F0 G0 N L1 L2) : Below w0.heap.size w0 w := by
  obtain ⟨F, G, h⟩ := h
  exact h.pr.bel

theorem Ha.drop1 (C : HeapC R) (i : Int) (h : Ha R base w0 wb w p t F0 G0 N L L2) :
    Calls Tryd.prog 11 #[ptr p, nu i] w fun e w' => e = .returned (.bool (hasH L i)) ∧ Ha R base w0 wb w' p t F0 G0 N (dropH L i) L2 := by
  obtain ⟨F, G, h⟩ := h
  refine (C.drop w p F N L i h.pr.rep h.pr.good1 h.pr.few1).mono ?_
  rintro e w' ⟨rfl, hl⟩
  obtain ⟨F', h'⟩ := h.turn1 hl (h.pr.good1.drop i) (Nat.le_trans (drop_len L i) h.pr.few1)
  exact ⟨rfl, F', G, h'⟩

theorem Ha.drop2 (C : HeapC R) (i : Int) (h : Ha R base w0 wb w p t F0 G0 N L1 L) :
    Calls Tryd.prog 12 #[ptr t, nu i] w fun e w' => e = .returned (.bool (hasH L i)) ∧ Ha R base w0 wb w' p t F0 G0 N L1 (dropH L i) := by
  obtain ⟨F, G, h⟩ := h
  refine (dropH_r base w t G N L i h.pr.ref h.pr.few2).mono ?_
  rintro e w' ⟨rfl, hl⟩
  obtain ⟨G', h'⟩ := h.turn2 C hl (h.pr.good2.drop i) (Nat.le_trans (drop_len L i) h.pr.few2)
  exact ⟨rfl, F, G', h'⟩

/-- What Set answers, and what it leaves. -/
def setNo (N i : Int) : Nat := if 0 ≤ i ∧ i < N then 0 else 1

def setL (N : Int) (L : List It) (i key : Int) : List It := if 0 ≤ i ∧ i < N then setH L i key else L

theorem Ha.set1 (C : HeapC R) (i key : Int) (h : Ha R base w0 wb w p t F0 G0 N L L2) (hf : L.length < 65536) :
    Calls Tryd.prog 15 #[ptr p, nu i, nu key] w fun e w' => e = .returned (errE (setNo N i)) ∧ Ha R base w0 wb w' p t F0 G0 N (setL N L i key) L2 := by
  obtain ⟨F, G, h⟩ := h
  unfold setNo setL
  by_cases hi : 0 ≤ i ∧ i < N
  · simp only [if_pos hi]
    refine (C.setYes w p F N L i key h.pr.rep h.pr.good1 h.pr.few1 hi).mono ?_
    rintro e w' ⟨rfl, hl⟩
    obtain ⟨F', h'⟩ := h.turn1 hl (h.pr.good1.set hi key) (by have := set_len L i key; omega)
    exact ⟨rfl, F', G, h'⟩
  · simp only [if_neg hi]
    refine (C.setNo w p F N L i key h.pr.rep h.pr.good1 hi).mono ?_
    rintro e w' ⟨rfl, hl⟩
    obtain ⟨F', h'⟩ := h.turn1 hl h.pr.good1 h.pr.few1
    exact ⟨rfl, F', G, h'⟩

theorem Ha.set2 (C : HeapC R) (i key : Int) (h : Ha R base w0 wb w p t F0 G0 N L1 L) (hf : L.length < 65536) :
    Calls Tryd.prog 16 #[ptr t, nu i, nu key] w fun e w' => e = .returned (nun (setNo N i)) ∧ Ha R base w0 wb w' p t F0 G0 N L1 (setL N L i key) := by
  obtain ⟨F, G, h⟩ := h
  unfold setNo setL
  by_cases hi : 0 ≤ i ∧ i < N
  · simp only [if_pos hi]
    refine (setH_r base w t G N L i key h.pr.ref h.pr.few2 hi).mono ?_
    rintro e w' ⟨rfl, hl⟩
    obtain ⟨G', h'⟩ := h.turn2 C hl (h.pr.good2.set hi key) (by have := set_len L i key; omega)
    exact ⟨rfl, F, G', h'⟩
  · simp only [if_neg hi]
    refine (setHn_r base w t G N L i key h.pr.ref hi).mono ?_
    rintro e w' ⟨rfl, hb⟩
    exact ⟨rfl, F, G, h.below C hb⟩

theorem setL_len (N : Int) (L : List It) (i key : Int) : (setL N L i key).length ≤ L.length + 1 := by
  unfold setL
  split
  · exact set_len L i key
  · omega

theorem setNo_le (N i : Int) : setNo N i ≤ 24 := by
  unfold setNo
  split <;> omega

/-- What an act leaves of the loop's state. -/
theorem Ha.state {X : Nat → Prop} {k' : Nat} (h : Ha R base w0 w w' p t F0 G0 N L L) (hl : L.length ≤ k') (h3 : IterH w fv X M) (h4 : ∀ b, X b → ¬ F0 b ∧ ¬ G0 b) (h5 : ∀ b, X b → w0.heap.size ≤ b) (h6 : w.ownsRow w0.heap.size 3 1 wv (2 * M.length) ((prs M).map nu)) (h7 : ∀ b, wv.ownBlock = some b → ¬ F0 b ∧ ¬ G0 b) (hf : M.length ≤ 65536 ∧ (M.length : Int) ≤ N) : Hs R base w0 w' p t N k' fv wv M := by
  obtain ⟨F', G', hd⟩ := h
  exact Hs.turned (L := L) hd hl h3 h4 h5 h6 h7 hf
end
end Hh
end Go.Proofs.YteclbmmhidmklaaDoor
