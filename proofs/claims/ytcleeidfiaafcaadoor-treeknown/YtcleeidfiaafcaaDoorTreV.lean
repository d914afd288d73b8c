import Derived.Test.YtcleeidfiaafcaaDoorTreQ
/- What hangs, as parents were chosen. No program is named here. -/
namespace Go.Proofs.YtcleeidfiaafcaaDoor
set_option linter.ambiguousOpen false
open Go.RowKit
namespace Tr
open An Rg Lv
set_option linter.unusedSimpArgs false
set_option linter.unusedVariables false

/-- The children of a slot, without what is cut. -/
def kidsU (up : List Int) (i cut : Int) : List Nat := (List.range up.length).filter (fun k => decide (up.getD k 0 = i ∧ (k : Int) ≠ cut))

theorem mem_kidsU {up : List Int} {i cut : Int} {k : Nat} : k ∈ kidsU up i cut ↔ k < up.length ∧ up.getD k 0 = i ∧ (k : Int) ≠ cut := by
  unfold kidsU
  simp

theorem kidsU_snoc (up : List Int) (p i cut : Int) : kidsU (up ++ [p]) i cut = kidsU up i cut ++ (if p = i ∧ (up.length : Int) ≠ cut then [up.length] else []) := by
  unfold kidsU
  rw [List.length_append, List.length_singleton, List.range_succ, List.filter_append]
  congr 1
  · refine List.filter_congr (fun k hk => ?_)
    have hk' : k < up.length := by simpa using hk
    rw [List.getD_eq_getElem?_getD, List.getElem?_append_left hk', ← List.getD_eq_getElem?_getD]
  · have e : (up ++ [p]).getD up.length 0 = p := by simp [List.getD_eq_getElem?_getD]
    by_cases h : p = i ∧ (up.length : Int) ≠ cut
    · rw [if_pos h, List.filter_cons_of_pos (by rw [e]; simpa using h), List.filter_nil]
    · rw [if_neg h, List.filter_cons_of_neg (by rw [e]; simpa using h), List.filter_nil]

/-- Parents are roots, or ahead. -/
def Ups (up : List Int) : Prop := ∀ k, k < up.length → -1 ≤ up.getD k 0 ∧ up.getD k 0 < k

theorem Ups.snoc {up : List Int} (h : Ups up) {p : Int} (hp : -1 ≤ p ∧ p < up.length) : Ups (up ++ [p]) := fun k hk => by
  by_cases e : k < up.length
  · rw [List.getD_eq_getElem?_getD, List.getElem?_append_left e, ← List.getD_eq_getElem?_getD]
    exact h k e
  · have : k = up.length := by simp at hk; omega
    subst this
    simpa [List.getD_eq_getElem?_getD] using hp

theorem kidsU_none {up : List Int} (h : Ups up) {i : Nat} (hi : up.length ≤ i + 1) (cut : Int) : kidsU up i cut = [] := by
  refine List.eq_nil_iff_forall_not_mem.2 (fun k hk => ?_)
  obtain ⟨h1, h2, _⟩ := mem_kidsU.1 hk
  have := h k h1
  omega

/-- What is hung at, and its birth. -/
def linkS (p : Int) : Int := if 0 ≤ p then p else 0

def linkB (p : Int) : Int := if 0 ≤ p then p + 1 else 0

theorem hang_add {S : List Slt} {last : Int} {n : Nat} {up : List Int} (h : Hg S last n (kidsU up (-1) (-1)) (fun j => kidsU up j (-1))) (hu : Ups up) (hi : up.length < n) {p : Int} (hp : -1 ≤ p ∧ p < up.length) :
    ∃ S' last', addT S last up.length (linkS p) (linkB p) = ⟨0, -1, S', last'⟩ ∧ Hg S' last' n (kidsU (up ++ [p]) (-1) (-1)) (fun j => kidsU (up ++ [p]) j (-1)) := by
  have hno : ∀ i : Int, up.length ∉ kidsU up i (-1) := fun i hm => by
    have := (mem_kidsU.1 hm).1
    omega
  have hnn : (up.length : Int) ≠ -1 := by omega
  unfold linkS linkB
  by_cases hp0 : 0 ≤ p
  · obtain ⟨q, rfl⟩ := Int.eq_ofNat_of_zero_le hp0
    rw [if_pos hp0, if_pos hp0]
    have hq : q < up.length := by omega
    obtain ⟨S', e1, e2⟩ := h.add1 (i := up.length) (p := q) hi (by omega) (by omega) (hno _) (fun j _ => hno _)
    refine ⟨S', last, e1, ?_⟩
    have a1 : kidsU (up ++ [(q : Int)]) (-1) (-1) = kidsU up (-1) (-1) := by
      rw [kidsU_snoc, if_neg (by omega), List.append_nil]
    have a2 : (fun j : Nat => kidsU (up ++ [(q : Int)]) j (-1)) = (fun j : Nat => if j = up.length then [] else if j = q then kidsU up q (-1) ++ [up.length] else kidsU up j (-1)) := by
      funext j
      by_cases j1 : j = up.length
      · rw [if_pos j1, j1]
        exact kidsU_none (hu.snoc hp) (by simp) _
      · rw [if_neg j1, kidsU_snoc]
        by_cases j2 : j = q
        · rw [if_pos j2, if_pos ⟨by omega, hnn⟩, j2]
        · rw [if_neg j2, if_neg (by omega), List.append_nil]
    rw [a1, a2]
    exact e2
  · obtain rfl : p = -1 := by omega
    rw [if_neg hp0, if_neg hp0]
    obtain ⟨S', e1, e2⟩ := h.add0 (i := up.length) hi (hno _) (fun j _ => hno _)
    refine ⟨S', _, e1, ?_⟩
    have a1 : kidsU (up ++ [-1]) (-1) (-1) = kidsU up (-1) (-1) ++ [up.length] := by
      rw [kidsU_snoc, if_pos ⟨rfl, hnn⟩]
    have a2 : (fun j : Nat => kidsU (up ++ [(-1 : Int)]) j (-1)) = (fun j : Nat => if j = up.length then [] else kidsU up j (-1)) := by
      funext j
      by_cases j1 : j = up.length
      · rw [if_pos j1, j1]
        exact kidsU_none (hu.snoc hp) (by simp) _
      · rw [if_neg j1, kidsU_snoc, if_neg (by omega), List.append_nil]
    rw [a1, a2]
    exact e2

theorem kidsU_off {up : List Int} {i : Int} {c : Nat} (h : up.getD c 0 ≠ i) : kidsU up i c = kidsU up i (-1) := by
  unfold kidsU
  refine List.filter_congr (fun k hk => ?_)
  by_cases e : k = c
  · subst e
    rw [decide_eq_false (fun e => h e.1), decide_eq_false (fun e => h e.1)]
  · have e1 : (k : Int) ≠ c := by omega
    have e2 : (k : Int) ≠ -1 := by omega
    simp [e1, e2]

theorem filter_out {l : List Nat} (hnd : l.Nodup) {c : Nat} (hc : c ∈ l) : ∃ u v, l = u ++ c :: v ∧ l.filter (fun k => decide (k ≠ c)) = u ++ v := by
  obtain ⟨u, v, rfl⟩ := List.append_of_mem hc
  refine ⟨u, v, rfl, ?_⟩
  have hu : c ∉ u := fun e => by
    have := (List.nodup_append.1 hnd).2.2 c e c (by simp)
    exact this rfl
  have hv : c ∉ v := (List.nodup_cons.1 (List.nodup_append.1 hnd).2.1).1
  rw [List.filter_append, List.filter_cons_of_neg (by simp), List.filter_eq_self.2 (fun a ha => decide_eq_true (show a ≠ c from fun e => hu (e ▸ ha))), List.filter_eq_self.2 (fun a ha => decide_eq_true (show a ≠ c from fun e => hv (e ▸ ha)))]

theorem kidsU_cut (up : List Int) (i : Int) (c : Nat) : kidsU up i c = (kidsU up i (-1)).filter (fun k => decide (k ≠ c)) := by
  unfold kidsU
  rw [List.filter_filter]
  refine List.filter_congr (fun k hk => ?_)
  have e2 : (k : Int) ≠ -1 := by omega
  by_cases e : k = c
  · subst e
    simp
  · have e1 : (k : Int) ≠ c := by omega
    simp [e, e1, e2]

theorem kidsU_nd (up : List Int) (i cut : Int) : (kidsU up i cut).Nodup := List.Nodup.sublist List.filter_sublist List.nodup_range

theorem kidsU_split {up : List Int} {c : Nat} (hc : c < up.length) : ∃ u v, kidsU up (up.getD c 0) (-1) = u ++ c :: v ∧ kidsU up (up.getD c 0) c = u ++ v := by
  obtain ⟨u, v, h1, h2⟩ := filter_out (kidsU_nd up (up.getD c 0) (-1)) (c := c) (mem_kidsU.2 ⟨hc, rfl, by omega⟩)
  exact ⟨u, v, h1, (kidsU_cut _ _ _).trans h2⟩

theorem hang_cut {S : List Slt} {last : Int} {n : Nat} {up : List Int} (h : Hg S last n (kidsU up (-1) (-1)) (fun j => kidsU up j (-1))) (hu : Ups up) (hn : up.length = n) {c : Nat} (hc : c < n) :
    ∃ S' last', cutT S last c = ⟨0, -1, S', last'⟩ ∧ Hg S' last' n (kidsU up (-1) c) (fun j => kidsU up j c) := by
  obtain ⟨u, v, h1, h2⟩ := kidsU_split (up := up) (c := c) (by omega)
  have hb := hu c (by omega)
  by_cases hp0 : 0 ≤ up.getD c 0
  · obtain ⟨q, hq⟩ := Int.eq_ofNat_of_zero_le hp0
    have hqc : q < c := by omega
    rw [hq] at h1 h2
    obtain ⟨S', e1, e2⟩ := h.cut1 (i := c) (p := q) (u := u) (v := v) (by omega) h1
    refine ⟨S', last, e1, ?_⟩
    have a1 : kidsU up (-1) c = kidsU up (-1) (-1) := kidsU_off (by omega)
    have a2 : (fun j : Nat => kidsU up j c) = (fun j : Nat => if j = q then u ++ v else kidsU up j (-1)) := by
      funext j
      by_cases j2 : j = q
      · rw [if_pos j2, j2]
        exact h2
      · rw [if_neg j2]
        exact kidsU_off (by omega)
    rw [a1, a2]
    exact e2
  · have hq : up.getD c 0 = -1 := by omega
    rw [hq] at h1 h2
    rw [h1] at h
    obtain ⟨S', e1, e2⟩ := h.cut0
    refine ⟨S', _, e1, ?_⟩
    have a2 : (fun j : Nat => kidsU up j c) = (fun j : Nat => kidsU up j (-1)) := by
      funext j
      exact kidsU_off (by omega)
    rw [h2, a2]
    exact e2

theorem hang_again {S : List Slt} {last : Int} {n : Nat} {up : List Int} {c : Nat} (h : Hg S last n (kidsU up (-1) c) (fun j => kidsU up j c)) (hu : Ups up) (hn : up.length = n) (hc : c < n) :
    ∃ S' last', addT S last c (linkS (up.getD c 0)) (linkB (up.getD c 0)) = ⟨0, -1, S', last'⟩ ∧ kidsL S' c = [] ∧ (up.getD c 0 < 0 → last' = c ∧ allL S' last' = kidsU up (-1) c ++ [c]) ∧ (0 ≤ up.getD c 0 → kidsL S' (up.getD c 0) = kidsU up (up.getD c 0) c ++ [c]) := by
  have hno : ∀ i : Int, c ∉ kidsU up i c := fun i hm => (mem_kidsU.1 hm).2.2 rfl
  have hb := hu c (by omega)
  unfold linkS linkB
  by_cases hp0 : 0 ≤ up.getD c 0
  · obtain ⟨q, hq⟩ := Int.eq_ofNat_of_zero_le hp0
    have hqc : q < c := by omega
    rw [if_pos hp0, if_pos hp0, hq]
    obtain ⟨S', e1, e2⟩ := h.add1 (i := c) (p := q) hc (by omega) (by omega) (hno _) (fun j _ => hno _)
    refine ⟨S', last, e1, ?_, by omega, fun _ => ?_⟩
    · rw [e2.kidsL hc, if_pos rfl]
    · show Tr.kidsL S' ((q : Nat) : Int) = _
      rw [e2.kidsL (i := q) (by omega), if_neg (by omega), if_pos rfl]
  · rw [if_neg hp0, if_neg hp0]
    obtain ⟨S', e1, e2⟩ := h.add0 (i := c) hc (hno _) (fun j _ => hno _)
    refine ⟨S', _, e1, ?_, fun _ => ⟨rfl, e2.roots⟩, by omega⟩
    rw [e2.kidsL hc, if_pos rfl]

/-- All below a slot, with steps enough. -/
theorem kidsU_lt {up : List Int} (hu : Ups up) {i k : Nat} {cut : Int} (h : k ∈ kidsU up i cut) : i < k ∧ k < up.length := by
  obtain ⟨h1, h2, _⟩ := mem_kidsU.1 h
  have := hu k h1
  exact ⟨by omega, h1⟩
end Tr
end Go.Proofs.YtcleeidfiaafcaaDoor
