import Derived.Test.YthabnombfbehkaaTreP
/- What is below a slot, gone through with a list of those ahead. No program is named here. -/
namespace Go.Proofs.Ythabnombfbehkaa
set_option linter.ambiguousOpen false
open Go.RowKit
namespace Tr
open An Rg
set_option linter.unusedSimpArgs false
set_option linter.unusedVariables false

/-- Going through with more than is needed says the same. -/
theorem und_fuel (S : List Slt) : ∀ (f g i : Nat) (out : List Nat), i < 32 → out.Nodup → (∀ x ∈ out, x < 32) → 33 ≤ f + out.length → 33 ≤ g + out.length → und f S i out = und g S i out
  | 0, g, i, out, _, h2, h3, h4, _ => by
    have := nodup_few 32 out h2 h3
    omega
  | f + 1, 0, i, out, _, h2, h3, _, h5 => by
    have := nodup_few 32 out h2 h3
    omega
  | f + 1, g + 1, i, out, h1, h2, h3, h4, h5 => by
    unfold und
    by_cases hm : i ∈ out
    · rw [if_pos hm, if_pos hm]
    · rw [if_neg hm, if_neg hm]
      have key : ∀ (l o : List Nat), (∀ x ∈ l, x < 32) → o.Nodup → (∀ x ∈ o, x < 32) → out.length + 1 ≤ o.length → l.foldl (fun o k => und f S k o) o = l.foldl (fun o k => und g S k o) o := by
        intro l
        induction l with
        | nil => exact fun _ _ _ _ _ => rfl
        | cons k r ih =>
          intro o hl ho ho' hlen
          rw [List.foldl_cons, List.foldl_cons, und_fuel S f g k o (hl k (by simp)) ho ho' (by omega) (by omega)]
          obtain ⟨a1, a2, a3⟩ := und_ok S g k o (hl k (by simp)) ho ho'
          exact ih _ (fun x hx => hl x (List.mem_cons_of_mem _ hx)) a1 a2 (by have := a3.length_le; omega)
      exact key (kidsL S i) (out ++ [i]) (kidsL_in S i) (List.nodup_append.2 ⟨h2, by simp, fun x hx y hy e => hm (by simp at hy; subst hy; exact e ▸ hx)⟩) (fun x hx => by
        rcases List.mem_append.1 hx with hx | hx
        · exact h3 x hx
        · simp at hx
          omega) (by simp)

/-- One step. -/
theorem und_one' (S : List Slt) (n : Nat) (hn : n = 32) (i : Nat) (out : List Nat) (h1 : i < 32) (h2 : out.Nodup) (h3 : ∀ x ∈ out, x < 32) : und (n + 1) S i out = if i ∈ out then out else (kidsL S i).foldl (fun o k => und (n + 1) S k o) (out ++ [i]) := by
  by_cases hm : i ∈ out
  · rw [und, if_pos hm, if_pos hm]
  · rw [und, if_neg hm, if_neg hm]
    have key : ∀ (l o : List Nat), (∀ x ∈ l, x < 32) → o.Nodup → (∀ x ∈ o, x < 32) → 1 ≤ o.length → l.foldl (fun o k => und n S k o) o = l.foldl (fun o k => und (n + 1) S k o) o := by
      intro l
      induction l with
      | nil => exact fun _ _ _ _ _ => rfl
      | cons k r ih =>
        intro o hl ho ho' hlen
        rw [List.foldl_cons, List.foldl_cons, und_fuel S n (n + 1) k o (hl k (by simp)) ho ho' (by omega) (by omega)]
        obtain ⟨a1, a2, a3⟩ := und_ok S (n + 1) k o (hl k (by simp)) ho ho'
        exact ih _ (fun x hx => hl x (List.mem_cons_of_mem _ hx)) a1 a2 (by have := a3.length_le; omega)
    exact key (kidsL S i) (out ++ [i]) (kidsL_in S i) (List.nodup_append.2 ⟨h2, by simp, fun x hx y hy e => hm (by simp at hy; subst hy; exact e ▸ hx)⟩) (fun x hx => by
      rcases List.mem_append.1 hx with hx | hx
      · exact h3 x hx
      · simp at hx
        omega) (by simp)

theorem und_one (S : List Slt) (i : Nat) (out : List Nat) (h1 : i < 32) (h2 : out.Nodup) (h3 : ∀ x ∈ out, x < 32) : und 33 S i out = if i ∈ out then out else (kidsL S i).foldl (fun o k => und 33 S k o) (out ++ [i]) := und_one' S 32 rfl i out h1 h2 h3

/-- Amid it: what is found, and what is ahead, the next one last. -/
structure Amid (S : List Slt) (all found ahead : List Nat) : Prop where
  nd : found.Nodup
  lt : ∀ x ∈ found, x < 32
  la : ∀ x ∈ ahead, x < 32
  few : ahead.length ≤ 1 + 32 * found.length
  eq : ahead.reverse.foldl (fun o k => und 33 S k o) found = all

theorem Amid.len {S : List Slt} {all found ahead : List Nat} (h : Amid S all found ahead) : found.length ≤ 32 := nodup_few 32 found h.nd h.lt

theorem Amid.start (S : List Slt) (i : Nat) (hi : i < 32) : Amid S (undL S i) [] [i] := by
  refine ⟨by simp, by simp, by simpa using hi, by simp, ?_⟩
  unfold undL
  rw [if_pos (show there (i : Int) by unfold there; omega)]
  simp

theorem Amid.done {S : List Slt} {all found : List Nat} (h : Amid S all found []) : found = all := h.eq

theorem kidsL_len (S : List Slt) (i : Int) : (kidsL S i).length ≤ 32 := by
  unfold kidsL
  split
  · exact allL_len S _
  · simp

theorem Amid.old {S : List Slt} {all found r : List Nat} {x : Nat} (h : Amid S all found (r ++ [x])) (hx : x ∈ found) : Amid S all found r := by
  obtain ⟨h1, h2, h3, h4, h5⟩ := h
  refine ⟨h1, h2, fun y hy => h3 y (List.mem_append_left _ hy), by simp at h4; omega, ?_⟩
  rw [List.reverse_append, List.reverse_singleton, List.singleton_append, List.foldl_cons, und_one S x found (h3 x (by simp)) h1 h2, if_pos hx] at h5
  exact h5

theorem Amid.new {S : List Slt} {all found r : List Nat} {x : Nat} (h : Amid S all found (r ++ [x])) (hx : x ∉ found) : Amid S all (found ++ [x]) (r ++ (kidsL S x).reverse) := by
  obtain ⟨h1, h2, h3, h4, h5⟩ := h
  have hx32 : x < 32 := h3 x (by simp)
  refine ⟨List.nodup_append.2 ⟨h1, by simp, fun y hy z hz e => hx (by simp at hz; subst hz; exact e ▸ hy)⟩, fun y hy => ?_, fun y hy => ?_, ?_, ?_⟩
  · rcases List.mem_append.1 hy with hy | hy
    · exact h2 y hy
    · simp at hy
      omega
  · rcases List.mem_append.1 hy with hy | hy
    · exact h3 y (List.mem_append_left _ hy)
    · exact kidsL_in S x y (List.mem_reverse.1 hy)
  · have := kidsL_len S x
    simp at h4 ⊢
    omega
  · rw [List.reverse_append, List.reverse_singleton, List.singleton_append, List.foldl_cons, und_one S x found hx32 h1 h2, if_neg hx] at h5
    rw [List.reverse_append, List.reverse_reverse, List.foldl_append]
    exact h5
end Tr
end Go.Proofs.Ythabnombfbehkaa
