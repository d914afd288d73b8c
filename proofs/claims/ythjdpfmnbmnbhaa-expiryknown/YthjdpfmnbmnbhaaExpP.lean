/- Entries, in their order: plain facts. No program is named here. -/
import Derived.Test.YthjdpfmnbmnbhaaHepP
namespace Go.Proofs.Ythjdpfmnbmnbhaa
namespace Ex
open Hh
set_option linter.unusedSimpArgs false
set_option linter.unusedVariables false

/-- A slot, a birth number, a deadline. -/
structure En where
  s : Int
  b : Int
  t : Int

/-- What the heap knows of it. -/
def En.it (x : En) : It := ⟨x.s, x.t⟩

def ehd (x y : En) : Bool := ahd x.it y.it

def dropE (L : List En) (s : Int) : List En := L.filter (fun x => !(x.s == s))

def setE (L : List En) (x : En) : List En := (dropE L x.s).takeWhile (fun y => ehd y x) ++ x :: (dropE L x.s).dropWhile (fun y => ehd y x)

def hasE (L : List En) (s : Int) : Bool := L.any (fun x => x.s == s)

@[reducible] def its (L : List En) : List It := L.map En.it

theorem its_drop (L : List En) (s : Int) : its (dropE L s) = dropH (its L) s := by
  unfold dropE dropH its
  rw [List.filter_map]
  rfl

theorem its_set (L : List En) (x : En) : its (setE L x) = setH (its L) x.s x.t := by
  unfold setE setH insH
  rw [← its_drop]
  unfold its
  rw [List.map_append, List.map_cons, List.takeWhile_map, List.dropWhile_map]
  rfl

theorem has_its (L : List En) (s : Int) : hasH (its L) s = hasE L s := by
  unfold hasH hasE its
  rw [List.any_map]
  rfl

theorem mem_dropE {L : List En} {s : Int} {x : En} : x ∈ dropE L s ↔ x ∈ L ∧ x.s ≠ s := by
  unfold dropE
  rw [List.mem_filter]
  simp

theorem mem_setE {L : List En} {x y : En} : y ∈ setE L x ↔ y = x ∨ (y ∈ L ∧ y.s ≠ x.s) := by
  unfold setE
  rw [List.mem_append, List.mem_cons, ← mem_dropE]
  conv => rhs; rw [← List.takeWhile_append_dropWhile (p := fun y => ehd y x) (l := dropE L x.s), List.mem_append]
  constructor
  · rintro (h | h | h)
    · exact .inr (.inl h)
    · exact .inl h
    · exact .inr (.inr h)
  · rintro (h | h | h)
    · exact .inr (.inl h)
    · exact .inl h
    · exact .inr (.inr h)

/-- May it be an entry? -/
def okE (x : En) : Prop := (0 ≤ x.s ∧ x.s < 32) ∧ (1 ≤ x.b ∧ x.b ≤ 1048576) ∧ (0 ≤ x.t ∧ x.t ≤ 1099511627776)

/-- What holds of all entries of an expiry. -/
structure Ge (L : List En) : Prop where
  hk : Hk 32 (its L)
  ok : ∀ x ∈ L, okE x

theorem Ge.nil : Ge [] := ⟨Hk.nil 32, by simp⟩

theorem Ge.drop {L : List En} (h : Ge L) (s : Int) : Ge (dropE L s) := ⟨by rw [its_drop]; exact h.hk.drop s, fun x hx => h.ok x (mem_dropE.1 hx).1⟩

theorem Ge.set {L : List En} (h : Ge L) {x : En} (hx : okE x) : Ge (setE L x) := by
  refine ⟨by rw [its_set]; exact h.hk.set hx.1 _, fun y hy => ?_⟩
  rcases mem_setE.1 hy with rfl | hy
  · exact hx
  · exact h.ok y hy.1

theorem Ge.tail {x : En} {L : List En} (h : Ge (x :: L)) : Ge L := ⟨h.hk.tail, fun y hy => h.ok y (by simp [hy])⟩

theorem Ge.few {L : List En} (h : Ge L) : L.length ≤ 32 := by
  have := Hk.few (N := 32) h.hk
  simpa using this

/-- The first one, dropped. -/
theorem Ge.head {x : En} {L : List En} (h : Ge (x :: L)) : dropE (x :: L) x.s = L := by
  unfold dropE
  rw [List.filter_cons]
  simp only [beq_self_eq_true, Bool.not_true, Bool.false_eq_true, if_false]
  refine List.filter_eq_self.2 (fun y hy => ?_)
  have h1 := (List.pairwise_cons.1 h.hk.nd).1 y.it (List.mem_map.2 ⟨y, hy, rfl⟩)
  have h2 : x.s ≠ y.s := h1
  simp [Ne.symm h2]

theorem drop_len (L : List En) (s : Int) : (dropE L s).length ≤ L.length := List.length_filter_le _ _

theorem drop_lt {L : List En} {s : Int} : decide ((dropE L s).length < L.length) = hasE L s := by
  unfold dropE hasE
  induction L with
  | nil => rfl
  | cons x L ih =>
    rw [List.filter_cons, List.any_cons]
    by_cases e : x.s = s
    · have hb : (x.s == s) = true := by simpa using e
      rw [hb]
      simp only [Bool.not_true, Bool.false_eq_true, if_false, Bool.true_or, decide_eq_true_eq, List.length_cons]
      have := List.length_filter_le (fun x => !(x.s == s)) L
      omega
    · have hb : (x.s == s) = false := by simpa using e
      rw [hb]
      simp only [Bool.not_false, if_true, Bool.false_or, List.length_cons]
      rw [← ih]
      congr 1
      simp

/-- The first deadline. -/
def nextE : List En → Int
  | [] => 0
  | x :: _ => x.t

def snextE : List En → Bool
  | [] => false
  | _ :: _ => true

end Ex
end Go.Proofs.Ythjdpfmnbmnbhaa
