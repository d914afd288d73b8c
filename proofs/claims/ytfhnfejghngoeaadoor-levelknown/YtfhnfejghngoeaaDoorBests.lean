/- Plain facts on the best of a list. -/
import Derived.Test.YtfhnfejghngoeaaDoorBest
namespace Go.Proofs.YtfhnfejghngoeaaDoor
namespace Lv
set_option linter.unusedSimpArgs false
set_option linter.unusedVariables false

theorem better_iff {a b : Ses} : betterB a b = true ↔ (b.level < a.level ∨ a.level = b.level ∧ (b.deadline < a.deadline ∨ a.deadline = b.deadline ∧ a.birth < b.birth)) := by
  unfold betterB
  split
  · simp; omega
  · split
    · simp; omega
    · simp; omega

/-- The better one of two that may be missing; of equals the first. -/
def join : Option Ses → Option Ses → Option Ses
  | none, y => y
  | some x, none => some x
  | some x, some y => if betterB y x = true then some y else some x

def one (now : Int) (s : Ses) : Option Ses := if s.deadline ≤ now then none else some s

def bestR (now : Int) : List Ses → Option Ses
  | [] => none
  | s :: t => join (one now s) (bestR now t)

theorem join_none (x : Option Ses) : join x none = x := by cases x <;> rfl

theorem join_assoc (a b c : Option Ses) : join (join a b) c = join a (join b c) := by
  cases a with
  | none => rfl
  | some x =>
    cases b with
    | none => rfl
    | some y =>
      cases c with
      | none => rw [join_none, join_none]
      | some z =>
        by_cases h1 : betterB y x = true
        · by_cases h2 : betterB z y = true
          · have h3 : betterB z x = true := by rw [better_iff] at *; omega
            simp [join, h1, h2, h3]
          · simp [join, h1, h2]
        · by_cases h2 : betterB z y = true
          · simp [join, h1, h2]
          · have h3 : ¬ betterB z x = true := by rw [better_iff] at *; omega
            simp [join, h1, h2, h3]

theorem join_self (a : Option Ses) : join a a = a := by
  cases a with
  | none => rfl
  | some x =>
    have h : ¬ betterB x x = true := by rw [better_iff]; omega
    simp [join, h]

theorem bestR_append (now : Int) : ∀ a b : List Ses, bestR now (a ++ b) = join (bestR now a) (bestR now b)
  | [], b => rfl
  | s :: t, b => by
    show join (one now s) (bestR now (t ++ b)) = join (join (one now s) (bestR now t)) (bestR now b)
    rw [bestR_append now t b, join_assoc]

theorem bst_best (l : List Ses) (now : Int) : ∀ k, k ≤ l.length → (bst l now k).map (nth l) = bestR now (l.take k)
  | 0, _ => rfl
  | k + 1, h => by
    have ih := bst_best l now k (by omega)
    rw [List.take_succ_eq_append_getElem (by omega), bestR_append, ← ih]
    show _ = join _ (join (one now l[k]) none)
    rw [join_none, ← nth_eq (by omega)]
    unfold one
    rw [bst]
    split
    · rw [join_none]
    · cases hj : bst l now k with
      | none => rfl
      | some j =>
        simp only [Option.map_some, join]
        split <;> rfl

theorem best_all (l : List Ses) (now : Int) : (bst l now l.length).map (nth l) = bestR now l := by
  have := bst_best l now l.length (Nat.le_refl _)
  rwa [List.take_length] at this

theorem bestB_R (l : List Ses) (now : Int) : bestB l now = (bestR now l).isSome := by
  unfold bestB
  rw [← best_all]
  cases bst l now l.length <;> rfl

theorem bestS_R (l : List Ses) (now : Int) : bestS l now = (bestR now l).getD zs := by
  unfold bestS
  rw [← best_all]
  cases bst l now l.length <;> rfl

theorem bestR_mem (now : Int) : ∀ (l : List Ses) (x : Ses), bestR now l = some x → x ∈ l ∧ now < x.deadline
  | [], x, h => by cases h
  | s :: t, x, h => by
    have h' : join (one now s) (bestR now t) = some x := h
    unfold one at h'
    split at h'
    · have := bestR_mem now t x h'
      exact ⟨List.mem_cons_of_mem _ this.1, this.2⟩
    · rename_i hd
      cases ht : bestR now t with
      | none =>
        rw [ht, join_none] at h'
        obtain rfl := Option.some.inj h'
        exact ⟨List.mem_cons_self, by omega⟩
      | some y =>
        rw [ht] at h'
        have := bestR_mem now t y ht
        simp only [join] at h'
        split at h'
        · obtain rfl := Option.some.inj h'
          exact ⟨List.mem_cons_of_mem _ this.1, this.2⟩
        · obtain rfl := Option.some.inj h'
          exact ⟨List.mem_cons_self, by omega⟩

theorem join_level (x : Ses) (b : Option Ses) : ∃ y, join (some x) b = some y ∧ x.level ≤ y.level := by
  cases b with
  | none => exact ⟨x, rfl, Int.le_refl _⟩
  | some z =>
    by_cases h : betterB z x = true
    · exact ⟨z, by simp [join, h], by rw [better_iff] at h; omega⟩
    · exact ⟨x, by simp [join, h], Int.le_refl _⟩

theorem join_level2 (a : Option Ses) (x : Ses) : ∃ y, join a (some x) = some y ∧ x.level ≤ y.level := by
  cases a with
  | none => exact ⟨x, rfl, Int.le_refl _⟩
  | some z =>
    by_cases h : betterB x z = true
    · exact ⟨x, by simp [join, h], Int.le_refl _⟩
    · exact ⟨z, by simp [join, h], by rw [better_iff] at h; omega⟩

theorem bestR_most (now : Int) : ∀ (l : List Ses) (s : Ses), s ∈ l → now < s.deadline → ∃ x, bestR now l = some x ∧ s.level ≤ x.level
  | [], s, h, _ => by simp at h
  | t :: r, s, h, hd => by
    rcases List.mem_cons.1 h with rfl | h
    · show ∃ x, join (one now s) _ = some x ∧ _
      rw [one, if_neg (by omega)]
      exact join_level _ _
    · obtain ⟨x, hx, hl⟩ := bestR_most now r s h hd
      obtain ⟨y, hy, hl2⟩ := join_level2 (one now t) x
      refine ⟨y, ?_, by omega⟩
      show join (one now t) (bestR now r) = some y
      rw [hx, hy]

/-! ### What LevelMost asks -/

theorem most_none {l : List Ses} {now : Int} (h : bestB l now = false) : bestS l now = zs ∧ ∀ s ∈ l, s.deadline ≤ now := by
  rw [bestB_R] at h
  have hn : bestR now l = none := by
    cases q : bestR now l with
    | none => rfl
    | some x => rw [q] at h; cases h
  refine ⟨by rw [bestS_R, hn]; rfl, fun s hs => ?_⟩
  rcases Int.lt_or_le now s.deadline with k | k
  · obtain ⟨x, hx, _⟩ := bestR_most now l s hs k
    rw [hn] at hx; cases hx
  · exact k

theorem most_some {l : List Ses} {now : Int} (h : bestB l now = true) : bestS l now ∈ l ∧ now < (bestS l now).deadline ∧ ∀ s ∈ l, now < s.deadline → s.level ≤ (bestS l now).level := by
  rw [bestB_R] at h
  obtain ⟨x, hx⟩ := Option.isSome_iff_exists.1 h
  have e : bestS l now = x := by rw [bestS_R, hx]; rfl
  rw [e]
  have := bestR_mem now l x hx
  refine ⟨this.1, this.2, fun s hs hd => ?_⟩
  obtain ⟨y, hy, hl⟩ := bestR_most now l s hs hd
  rw [hx] at hy
  obtain rfl := Option.some.inj hy
  exact hl

theorem most_twice (l : List Ses) (now : Int) : bestS (l ++ l) now = bestS l now ∧ bestB (l ++ l) now = bestB l now := by
  rw [bestS_R, bestS_R, bestB_R, bestB_R, bestR_append, join_self]
  exact ⟨rfl, rfl⟩

theorem most_two (a b : List Ses) (now : Int) : bestB (a ++ b) now = (bestB a now || bestB b now) ∧ (bestB (a ++ b) now = true → (bestB a now = true ∧ bestS (a ++ b) now = bestS a now) ∨ (bestB b now = true ∧ bestS (a ++ b) now = bestS b now)) := by
  simp only [bestS_R, bestB_R, bestR_append]
  cases bestR now a with
  | none =>
    cases bestR now b with
    | none => exact ⟨rfl, fun h => by cases h⟩
    | some y => exact ⟨rfl, fun _ => .inr ⟨rfl, rfl⟩⟩
  | some x =>
    cases bestR now b with
    | none => exact ⟨rfl, fun _ => .inl ⟨rfl, rfl⟩⟩
    | some y =>
      by_cases h : betterB y x = true
      · simp [join, h]
      · simp [join, h]
end Lv
end Go.Proofs.YtfhnfejghngoeaaDoor
