/- What comes out is in order: plain facts on entries that were put in once each; arrays of 32. -/
import Derived.Test.YthjdpfmnbmnbhaaExpM
namespace Go.Proofs.Ythjdpfmnbmnbhaa
set_option linter.ambiguousOpen false
open Go.RowKit
namespace Ex
open Hh Ft
set_option linter.unusedSimpArgs false
set_option linter.unusedVariables false

/-- What is put in: slot i at its deadline. -/
@[reducible] def ent (d : Nat → Int) (i : Nat) : En := ⟨(i : Int), (i : Int) + 1, d i⟩

structure From (j n : Nat) (d : Nat → Int) (L : List En) : Prop where
  ge : Ge L
  mem : ∀ x, x ∈ L ↔ ∃ i, j ≤ i ∧ i < n ∧ x = ent d i
  len : L.length = n - j

theorem From.nil (n : Nat) (d : Nat → Int) : From n n d [] := ⟨Ge.nil, fun x => ⟨fun h => by simp at h, fun ⟨i, h1, h2, _⟩ => by omega⟩, by simp⟩

theorem From.set {j n : Nat} {d : Nat → Int} {L : List En} (h : From (j + 1) n d L) (hj : j < n) (hok : okE (ent d j)) : From j n d (setE L (ent d j)) := by
  have hno : ∀ y ∈ L, y.s ≠ (j : Int) := fun y hy => by
    obtain ⟨i, h1, h2, rfl⟩ := (h.mem y).1 hy
    show (i : Int) ≠ j
    omega
  refine ⟨h.ge.set hok, fun x => ?_, ?_⟩
  · rw [mem_setE, h.mem]
    constructor
    · rintro (rfl | ⟨⟨i, h1, h2, rfl⟩, _⟩)
      · exact ⟨j, Nat.le_refl _, hj, rfl⟩
      · exact ⟨i, by omega, h2, rfl⟩
    · rintro ⟨i, h1, h2, rfl⟩
      by_cases e : i = j
      · subst e
        exact .inl rfl
      · exact .inr ⟨⟨i, by omega, h2, rfl⟩, by show (i : Int) ≠ j; omega⟩
  · have hd : dropE L (j : Int) = L := by
      unfold dropE
      refine List.filter_eq_self.2 (fun y hy => ?_)
      have := hno y hy
      simp [this]
    have e : (setE L (ent d j)).length = L.length + 1 := by
      unfold setE
      show (List.takeWhile _ (dropE L (j : Int)) ++ _ :: List.dropWhile _ (dropE L (j : Int))).length = _
      rw [hd, List.length_append, List.length_cons]
      conv => rhs; rw [← List.takeWhile_append_dropWhile (p := fun y => ehd y (ent d j)) (l := L), List.length_append]
      omega
    rw [e, h.len]
    omega

/-- Which slots have come out. -/
def outF (pre : List En) (t : Nat) : Bool := pre.any (fun y => y.s == (t : Int))

theorem outF_snoc (pre : List En) (d : Nat → Int) (i : Nat) : outF (pre ++ [ent d i]) = fun t => if t = i then true else outF pre t := by
  funext t
  unfold outF
  rw [List.any_append]
  by_cases e : t = i
  · subst e
    simp
  · have : ((i : Int) == (t : Int)) = false := by
      simp only [beq_eq_false_iff_ne]
      omega
    simp [e, this]

/-- The last one that has come out. -/
def lastE (pre : List En) : Int × Int := match pre.getLast? with
  | none => (-1, 0)
  | some y => (y.s, y.b)

theorem lastE_snoc (pre : List En) (x : En) : lastE (pre ++ [x]) = (x.s, x.b) := by
  unfold lastE
  simp

structure Gone (n : Nat) (d : Nat → Int) (now : Int) (pre c : List En) : Prop where
  fr : From 0 n d (pre ++ c)
  le : ∀ y ∈ pre, y.t ≤ now

theorem Ge.srtE {L : List En} (h : Ge L) : L.Pairwise (fun x y => ehd x y = true) := by
  have := h.hk.srt
  unfold its at this
  rw [List.pairwise_map] at this
  exact this

theorem Ge.ndE {L : List En} (h : Ge L) : L.Pairwise (fun x y => x.s ≠ y.s) := by
  have := h.hk.nd
  unfold its at this
  rw [List.pairwise_map] at this
  exact this

theorem ehd_iff {x y : En} : ehd x y = true ↔ x.t < y.t ∨ (x.t = y.t ∧ x.s < y.s) := ahd_iff

theorem Gone.step {n : Nat} {d : Nat → Int} {now : Int} {pre c : List En} {x : En} (h : Gone n d now pre (x :: c)) (hx : x.t ≤ now) :
    ∃ i, i < n ∧ x = ent d i ∧ outF pre i = false ∧ Gone n d now (pre ++ [x]) c ∧ pre.length < n ∧ (∀ y, pre.getLast? = some y → ∃ k, k < n ∧ y = ent d k ∧ (d k < d i ∨ (d k = d i ∧ k < i))) := by
  obtain ⟨i, _, hi, rfl⟩ := (h.fr.mem x).1 (by simp)
  have hs := h.fr.ge.srtE
  have hn := h.fr.ge.ndE
  have hl := h.fr.len
  rw [List.pairwise_append] at hs hn
  refine ⟨i, hi, rfl, ?_, ⟨by rw [List.append_assoc]; exact h.fr, fun y hy => ?_⟩, by simp at hl; omega, fun y hy => ?_⟩
  · unfold outF
    rw [List.any_eq_false]
    intro y hy
    have := hn.2.2 y hy (ent d i) (by simp)
    simp only [beq_iff_eq]
    exact this
  · rcases List.mem_append.1 hy with hy | hy
    · exact h.le y hy
    · obtain rfl := List.mem_singleton.1 hy
      exact hx
  · have hy2 : y ∈ pre := List.mem_of_getLast? hy
    obtain ⟨k, _, hk, rfl⟩ := (h.fr.mem y).1 (by simp [hy2])
    refine ⟨k, hk, rfl, ?_⟩
    have := ehd_iff.1 (hs.2.2 _ hy2 (ent d i) (by simp))
    rcases this with h1 | ⟨h1, h2⟩
    · exact .inl h1
    · refine .inr ⟨h1, ?_⟩
      have h3 : (k : Int) < (i : Int) := h2
      omega

/-- Where the first one lies above, all do. -/
theorem above_all {L : List En} {now : Int} (hs : L.Pairwise (fun x y => ehd x y = true)) (hc : ∀ x M, L = x :: M → now < x.t) : ∀ y ∈ L, now < y.t := by
  cases L with
  | nil => simp
  | cons x M =>
    have h0 := hc x M rfl
    intro y hy
    rcases List.mem_cons.1 hy with rfl | hy
    · exact h0
    · have := ehd_iff.1 ((List.pairwise_cons.1 hs).1 y hy)
      omega

theorem Gone.last {n : Nat} {d : Nat → Int} {now : Int} {pre c : List En} (h : Gone n d now pre c) (hc : ∀ x M, c = x :: M → now < x.t) (i : Nat) (hi : i < n) : outF pre i = decide (d i ≤ now) := by
  have hs := h.fr.ge.srtE
  have hn := h.fr.ge.ndE
  rw [List.pairwise_append] at hs hn
  have hm := (h.fr.mem (ent d i)).2 ⟨i, Nat.zero_le _, hi, rfl⟩
  rcases List.mem_append.1 hm with hm | hm
  · have h1 := h.le _ hm
    have h1 : d i ≤ now := h1
    rw [decide_eq_true h1]
    unfold outF
    rw [List.any_eq_true]
    exact ⟨_, hm, by simp⟩
  · have h1 := above_all hs.2.1 hc _ hm
    have h1 : now < d i := h1
    rw [decide_eq_false (by omega)]
    unfold outF
    rw [List.any_eq_false]
    intro y hy
    have := hn.2.2 y hy _ hm
    simp only [beq_iff_eq]
    exact this

theorem Gone.len {n : Nat} {d : Nat → Int} {now : Int} {pre c : List En} (h : Gone n d now pre c) : pre.length + c.length = n := by
  have := h.fr.len
  rw [List.length_append] at this
  omega

theorem Gone.start {n : Nat} {d : Nat → Int} {L : List En} (h : From 0 n d L) (now : Int) : Gone n d now [] L := ⟨h, by simp⟩

/-! ### Arrays of 32 -/

def Iz (w : World) (b : Nat) (g : Nat → Int) : Prop := w.heap[b]? = some (.cells ((List.range 32).map (fun j => nu (g j))).toArray 26)

def Dz (w : World) (b : Nat) (f : Nat → Bool) : Prop := w.heap[b]? = some (.cells ((List.range 32).map (fun j => Value.bool (f j))).toArray 33)

theorem Iz.cell {w : World} {b : Nat} {g : Nat → Int} (h : Iz w b g) {j : Nat} (hj : j < 32) : w.cell? ⟨b, j, none⟩ = some (nu (g j)) := by
  rw [cell_of_row w b j _ _ _ h]
  simp [hj]

theorem Dz.cell {w : World} {b : Nat} {f : Nat → Bool} (h : Dz w b f) {j : Nat} (hj : j < 32) : w.cell? ⟨b, j, none⟩ = some (.bool (f j)) := by
  rw [cell_of_row w b j _ _ _ h]
  simp [hj]

theorem Iz.frozen {w : World} {b : Nat} {g : Nat → Int} (h : Iz w b g) (j : Nat) : w.frozen? ⟨b, j, none⟩ = false := by
  unfold Iz at h
  simp [World.frozen?, h]

theorem Dz.frozen {w : World} {b : Nat} {f : Nat → Bool} (h : Dz w b f) (j : Nat) : w.frozen? ⟨b, j, none⟩ = false := by
  unfold Dz at h
  simp [World.frozen?, h]

theorem set_row {α : Type} (en : α → Value) (f : Nat → α) (j : Nat) (v : α) : (((List.range 32).map (fun t => en (f t))).toArray.setIfInBounds j (en v)) = ((List.range 32).map (fun t => en (if t = j then v else f t))).toArray := by
  apply Array.toList_inj.1
  rw [Array.toList_setIfInBounds]
  apply List.ext_getElem?
  intro t
  rw [List.getElem?_set]
  simp only [List.length_map, List.length_range, List.getElem?_map]
  by_cases e : j = t
  · subst e
    by_cases hj : j < 32
    · simp [hj]
    · simp [hj]
  · rw [if_neg e]
    by_cases ht : t < 32
    · simp [ht, Ne.symm e]
    · simp [ht]

theorem Iz.set {w : World} {b : Nat} {g : Nat → Int} (h : Iz w b g) (j : Nat) (v : Int) : Iz (w.setCell ⟨b, j, none⟩ (nu v)) b (fun t => if t = j then v else g t) := by
  unfold Iz at h ⊢
  rw [heap_setCell_same _ b j _ _ _ h]
  exact congrArg (fun c => some (Obj.cells c 26 (0, 0))) (set_row (fun x : Int => nu x) g j v)

theorem Dz.set {w : World} {b : Nat} {f : Nat → Bool} (h : Dz w b f) (j : Nat) (v : Bool) : Dz (w.setCell ⟨b, j, none⟩ (.bool v)) b (fun t => if t = j then v else f t) := by
  unfold Dz at h ⊢
  rw [heap_setCell_same _ b j _ _ _ h]
  exact congrArg (fun c => some (Obj.cells c 33 (0, 0))) (set_row (fun x : Bool => Value.bool x) f j v)

theorem set_keepE (w : World) (b j : Nat) (v : Value) : Keep (fun k => k = b) w (w.setCell ⟨b, j, none⟩ v) := (Keep.refl (fun k => k = b) w).setCell (p := ⟨b, j, none⟩) (.inl rfl) _

theorem set_oneE {w : World} {b : Nat} {u v : Value} {ty : TypeId} (h : w.heap[b]? = some (.cells #[u] ty)) : (w.setCell ⟨b, 0, none⟩ v).heap[b]? = some (.cells #[v] ty) := by
  rw [heap_setCell_same _ b 0 _ _ _ h]
  rfl
end Ex
end Go.Proofs.Ythjdpfmnbmnbhaa
