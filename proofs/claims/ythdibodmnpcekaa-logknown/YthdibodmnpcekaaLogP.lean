/- A log's state, and what its calls answer, in plain words; what is there behind an Append. No program is named here but a disk's state. -/
import Derived.Test.YthdibodmnpcekaaDiskP
import Derived.Test.YthdibodmnpcekaaRecQ
namespace Go.Proofs.Ythdibodmnpcekaa
set_option linter.ambiguousOpen false
open Go.RowKit
namespace Lo
open Sm Ft Dk Rc
set_option linter.unusedSimpArgs false
set_option linter.unusedVariables false

/-- A log. -/
structure Lg where
  at_ : Int
  n : Int
  ep : Nat
  used : Nat
  recs : Nat
  dead : Bool

/-- Its cells, on the disk at p. -/
@[reducible] def lgV (p : Nat) (l : Lg) : Array Value := #[ptr p, nu l.at_, nu l.n, .int .u32 (l.ep : Int), nu (l.used : Int), nu (l.recs : Int), .bool l.dead]

/-- May it lie there? -/
def may (d : Dsk) (a n : Int) : Bool := decide (0 ≤ a ∧ 1 ≤ n ∧ n ≤ d.n - a)

/-- The blocks k - 1 .. 0 of bs are written behind b, the last one first, as long as the power lasts. -/
def dn (b : Int) (bs : List (List UInt8)) : Nat → Dsk → Nat × Dsk
  | 0, d => (0, d)
  | k + 1, d => if wrN d (b + (k : Int)) (bs.getD k []) = 0 then dn b bs k (wrD d (b + (k : Int)) (bs.getD k [])) else (22, d)

/-- What Append answers, the disk and the log behind it. -/
def app (l : Lg) (d : Dsk) (p : List UInt8) : Nat × Dsk × Lg :=
  if l.dead = true then (22, d, l)
  else if 512 < p.length then (3, d, l)
  else if l.n - (l.used : Int) < ((blocks l.ep p).length : Int) then (19, d, l)
  else if (dn (l.at_ + (l.used : Int)) (blocks l.ep p) (blocks l.ep p).length d).1 = 0 then (0, (dn (l.at_ + (l.used : Int)) (blocks l.ep p) (blocks l.ep p).length d).2, { l with used := l.used + (blocks l.ep p).length, recs := l.recs + 1 })
  else (22, (dn (l.at_ + (l.used : Int)) (blocks l.ep p) (blocks l.ep p).length d).2, { l with dead := true })

/-- A log that lies on a disk, with numbers that are small. -/
structure Fit (l : Lg) (d : Dsk) : Prop where
  a0 : 0 ≤ l.at_
  n1 : 1 ≤ l.n
  an : l.at_ + l.n ≤ d.n
  dn : d.n ≤ 4096
  us : (l.used : Int) ≤ l.n
  ep : l.ep < 4294967296
  lo : -1 ≤ d.left
  hi : d.left ≤ 9223372036854775807

theorem dn_n (b : Int) (bs : List (List UInt8)) (k : Nat) (d : Dsk) : (dn b bs k d).2.n = d.n ∧ (dn b bs k d).2.tr.length ≤ d.tr.length + k ∧ (dn b bs k d).1 ≤ 22 ∧ ((-1 ≤ d.left ∧ d.left ≤ 9223372036854775807) → -1 ≤ (dn b bs k d).2.left ∧ (dn b bs k d).2.left ≤ 9223372036854775807) := by
  induction k generalizing d with
  | zero => exact ⟨rfl, Nat.le_refl _, Nat.zero_le _, fun h => h⟩
  | succ k ih =>
    rw [dn]
    split
    · obtain ⟨h1, h2, h3, h4⟩ := ih (wrD d (b + (k : Int)) (bs.getD k []))
      have h5 := wrD_tr d (b + (k : Int)) (bs.getD k [])
      exact ⟨h1.trans (wrD_n _ _ _), by omega, h3, fun h => h4 (wrD_left _ _ _ h)⟩
    · exact ⟨rfl, Nat.le_add_right _ _, Nat.le_refl _, fun h => h⟩

theorem app_le (l : Lg) (d : Dsk) (p : List UInt8) : (app l d p).1 ≤ 24 := by
  unfold app
  repeat' split
  all_goals first | decide | omega

theorem blocks_len3 (ep : Nat) (p : List UInt8) (h : ¬ 512 < p.length) : 1 ≤ (blocks ep p).length ∧ (blocks ep p).length ≤ 3 := by
  rw [blocks_len]
  omega

/-- What stays so behind an Append. -/
theorem app_fit {l : Lg} {d : Dsk} (h : Fit l d) (p : List UInt8) : Fit (app l d p).2.2 (app l d p).2.1 ∧ (app l d p).2.1.tr.length ≤ d.tr.length + 3 ∧ (app l d p).2.2.recs ≤ l.recs + 1 ∧ (app l d p).2.2.at_ = l.at_ ∧ (app l d p).2.2.n = l.n ∧ (app l d p).2.2.ep = l.ep ∧ (app l d p).2.1.n = d.n := by
  by_cases h1 : l.dead = true
  · rw [app, if_pos h1]
    exact ⟨h, Nat.le_add_right _ _, Nat.le_add_right _ _, rfl, rfl, rfl, rfl⟩
  by_cases h2 : 512 < p.length
  · rw [app, if_neg h1, if_pos h2]
    exact ⟨h, Nat.le_add_right _ _, Nat.le_add_right _ _, rfl, rfl, rfl, rfl⟩
  by_cases h3 : l.n - (l.used : Int) < ((blocks l.ep p).length : Int)
  · rw [app, if_neg h1, if_neg h2, if_pos h3]
    exact ⟨h, Nat.le_add_right _ _, Nat.le_add_right _ _, rfl, rfl, rfl, rfl⟩
  obtain ⟨e1, e2, e3, e4⟩ := dn_n (l.at_ + (l.used : Int)) (blocks l.ep p) (blocks l.ep p).length d
  have e5 := e4 ⟨h.lo, h.hi⟩
  have hb := blocks_len3 l.ep p h2
  rw [app, if_neg h1, if_neg h2, if_neg h3]
  split
  · refine ⟨⟨h.a0, h.n1, ?_, ?_, ?_, h.ep, e5.1, e5.2⟩, by simp only; omega, Nat.le_refl _, rfl, rfl, rfl, e1⟩
    · simp only [e1]; exact h.an
    · simp only [e1]; exact h.dn
    · simp only; omega
  · refine ⟨⟨h.a0, h.n1, ?_, ?_, h.us, h.ep, e5.1, e5.2⟩, by simp only; omega, by simp only; omega, rfl, rfl, rfl, e1⟩
    · simp only [e1]; exact h.an
    · simp only [e1]; exact h.dn

/-- No text is longer than a block. -/
def Small (d : Dsk) : Prop := ∀ r ∈ d.tr, r.2.length ≤ 256

theorem Small.wr {d : Dsk} (h : Small d) (i : Int) (s : List UInt8) : Small (wrD d i s) := by
  unfold wrD
  split
  · rename_i hw
    intro r hr
    simp only [List.mem_append, List.mem_singleton] at hr
    rcases hr with hr | rfl
    · exact h r hr
    · unfold wrN at hw
      show s.length ≤ 256
      split at hw
      · split at hw
        · simp at hw
        · omega
      · simp at hw
  · exact h

theorem Small.dn (b : Int) (bs : List (List UInt8)) (k : Nat) : ∀ {d : Dsk}, Small d → Small (dn b bs k d).2 := by
  induction k with
  | zero => exact fun h => h
  | succ k ih =>
    intro d h
    rw [Lo.dn]
    split
    · exact ih (h.wr _ _)
    · exact h

theorem Small.app {d : Dsk} (h : Small d) (l : Lg) (p : List UInt8) : Small (app l d p).2.1 := by
  unfold Lo.app
  repeat' split
  · exact h
  · exact h
  · exact h
  · exact h.dn _ _ _
  · exact h.dn _ _ _

theorem Small.left {d : Dsk} (h : Small d) (m : Int) : Small ⟨d.n, m, d.tr⟩ := h

theorem small_last (i : Int) (l : List Raw) (h : ∀ r ∈ l, r.2.length ≤ 256) (k : Nat) : (lastK i l k).length ≤ 256 := by
  induction k with
  | zero => exact Nat.zero_le _
  | succ k ih =>
    rw [lastK]
    cases hk : l[k]? with
    | none => exact ih
    | some r =>
      simp only
      split
      · exact h r (List.mem_of_getElem? hk)
      · exact ih

theorem Small.read {d : Dsk} (h : Small d) (i : Int) : (rdT d i).length ≤ 256 := by
  unfold rdT
  split
  · exact small_last i d.tr h _
  · exact Nat.zero_le _

/-- The texts of a log's blocks. -/
def texts (d : Dsk) (a : Int) (n : Nat) : List (List UInt8) := (List.range n).map fun j : Nat => rdT d (a + (j : Int))

theorem texts_len (d : Dsk) (a : Int) (n : Nat) : (texts d a n).length = n := by simp [texts]

theorem texts_at (d : Dsk) (a : Int) (n k : Nat) (h : k < n) : (texts d a n)[k]? = some (rdT d (a + (k : Int))) := by
  rw [texts, List.getElem?_map, List.getElem?_range h]
  rfl

theorem texts_small {d : Dsk} (h : Small d) (a : Int) (n : Nat) : ∀ t ∈ texts d a n, t.length ≤ 256 := fun t ht => by
  obtain ⟨j, _, rfl⟩ := List.mem_map.1 ht
  exact h.read _

theorem texts_succ (d : Dsk) (a : Int) (n : Nat) : texts d a (n + 1) = texts d a n ++ [rdT d (a + (n : Int))] := by
  simp [texts, List.range_succ]

end Lo
end Go.Proofs.Ythdibodmnpcekaa
