/- Plain facts on lists of bytes: pieces between dots, names, dotted names, the order of pieces. No program is named here. -/
import Derived.Lib.Bytealg
namespace Go.Proofs.YtbgggekkkcefcabDoor
namespace Nm

def letterB (c : UInt8) : Bool := decide (97 ≤ c.toNat) && decide (c.toNat ≤ 122)
def moreB (c : UInt8) : Bool := (decide (48 ≤ c.toNat) && decide (c.toNat ≤ 57)) || (c.toNat == 45) || (c.toNat == 95)
def innerB (c : UInt8) : Bool := letterB c || moreB c
def wordB : List UInt8 → Bool
  | [] => true
  | c :: l => letterB c && l.all innerB
def nameB (l : List UInt8) : Bool := decide (1 ≤ l.length) && decide (l.length ≤ 32) && wordB l

def pieces : List UInt8 → List (List UInt8)
  | [] => [[]]
  | c :: l => if c = 46 then [] :: pieces l else ((c :: (pieces l).headD []) :: (pieces l).tail)

def hd : List UInt8 → List UInt8
  | [] => []
  | c :: l => if c = 46 then [] else c :: hd l
def tl : List UInt8 → List UInt8
  | [] => []
  | c :: l => if c = 46 then l else tl l
def dotB : List UInt8 → Bool
  | [] => false
  | c :: l => if c = 46 then true else dotB l

theorem pieces_dot (l : List UInt8) : pieces (46 :: l) = [] :: pieces l := by rw [pieces]; simp
theorem pieces_nodot {c : UInt8} (h : c ≠ 46) (l : List UInt8) : pieces (c :: l) = (c :: (pieces l).headD []) :: (pieces l).tail := by rw [pieces, if_neg h]

theorem pieces_ne (l : List UInt8) : pieces l ≠ [] := by
  cases l with
  | nil => simp [pieces]
  | cons c l => unfold pieces; split <;> simp

theorem pieces_pos (l : List UInt8) : 1 ≤ (pieces l).length := by
  have := pieces_ne l
  cases h : pieces l with
  | nil => exact absurd h this
  | cons a b => simp

theorem pieces_len (l : List UInt8) : (pieces l).length ≤ l.length + 1 := by
  induction l with
  | nil => simp [pieces]
  | cons c l ih =>
    unfold pieces
    have := pieces_pos l
    split <;> simp <;> omega

theorem pieces_eq (l : List UInt8) : pieces l = hd l :: (if dotB l then pieces (tl l) else []) := by
  induction l with
  | nil => rfl
  | cons c l ih =>
    by_cases h : c = 46
    · subst h; rw [pieces_dot]; simp [hd, dotB, tl]
    · rw [pieces_nodot h, hd, dotB, tl, if_neg h, if_neg h, if_neg h]
      generalize pieces l = q at *
      subst ih
      rfl

theorem tl_lt (l : List UInt8) (h : dotB l = true) : (tl l).length < l.length := by
  induction l with
  | nil => simp [dotB] at h
  | cons c l ih =>
    by_cases hc : c = 46
    · simp [tl, hc]
    · have h' : dotB l = true := by simpa [dotB, hc] using h
      have := ih h'
      simp [tl, hc]; omega

theorem hd_le (l : List UInt8) : (hd l).length ≤ l.length := by
  induction l with
  | nil => simp [hd]
  | cons c l ih => unfold hd; split <;> simp <;> omega

theorem piece_le (l : List UInt8) : ∀ p ∈ pieces l, p.length ≤ l.length := by
  induction l with
  | nil => simp [pieces]
  | cons c l ih =>
    intro p hp
    by_cases h : c = 46
    · subst h
      rw [pieces_dot, List.mem_cons] at hp
      rcases hp with rfl | hp
      · simp
      · have := ih p hp; simp; omega
    · rw [pieces_nodot h, List.mem_cons] at hp
      rcases hp with rfl | hp
      · have h1 : ((pieces l).headD []).length ≤ l.length := by
          cases h : pieces l with
          | nil => exact absurd h (pieces_ne l)
          | cons a b => exact ih a (by rw [h]; simp)
        simp only [List.length_cons]; omega
      · have := ih p (List.mem_of_mem_tail hp); simp; omega

/-- Behind k bytes without a dot. -/
theorem hd_at (l : List UInt8) (k : Nat) (hk : k < l.length) (h : ∀ j (hj : j < k), l[j]'(by omega) ≠ 46) (hd46 : l[k] = 46) :
    hd l = l.take k ∧ tl l = l.drop (k + 1) ∧ dotB l = true := by
  induction l generalizing k with
  | nil => simp at hk
  | cons c l ih =>
    cases k with
    | zero =>
      simp at hd46
      simp [hd, tl, dotB, hd46]
    | succ k =>
      have h0 : c ≠ 46 := by have := h 0 (by omega); simpa using this
      have := ih k (by simpa using hk) (fun j hj => by have := h (j + 1) (by omega); simpa using this) (by simpa using hd46)
      simp [hd, tl, dotB, h0] at this ⊢
      exact this

theorem hd_none (l : List UInt8) (h : ∀ j (hj : j < l.length), l[j] ≠ 46) : hd l = l ∧ tl l = [] ∧ dotB l = false := by
  induction l with
  | nil => exact ⟨rfl, rfl, rfl⟩
  | cons c l ih =>
    have h0 : c ≠ 46 := by have := h 0 (by simp); simpa using this
    have := ih (fun j hj => by have := h (j + 1) (by simpa using hj); simpa using this)
    simp [hd, tl, dotB, h0, this]

/-! dotted names -/
def dotN (n : Nat) (l : List UInt8) : Bool := decide ((pieces l).length ≤ n) && (pieces l).all nameB
def dottedB (l : List UInt8) : Bool := dotN 4 l

theorem dotN_zero (l : List UInt8) : dotN 0 l = false := by
  have := pieces_pos l
  simp [dotN]; intro h; rw [h] at this; simp at this

theorem dotN_bad (n : Nat) (l : List UInt8) (h : nameB (hd l) = false) : dotN n l = false := by
  rw [dotN, pieces_eq]; simp [h]

theorem dotN_end (n : Nat) (l : List UInt8) (h : nameB (hd l) = true) (hd : dotB l = false) : dotN (n + 1) l = true := by
  rw [dotN, pieces_eq]; simp [h, hd]

theorem dotN_go (n : Nat) (l : List UInt8) (h : nameB (hd l) = true) (hd : dotB l = true) : dotN (n + 1) l = dotN n (tl l) := by
  rw [dotN, pieces_eq]; simp [h, hd, dotN]

def partsL (l : List UInt8) : List (List UInt8) := if dottedB l then pieces l else []

theorem dotted_count {l : List UInt8} (h : dottedB l = true) : (pieces l).length ≤ 4 := by
  simp [dottedB, dotN] at h; exact h.1

theorem parts_count (l : List UInt8) : (partsL l).length ≤ 4 := by
  unfold partsL; split
  · exact dotted_count ‹_›
  · simp

theorem parts_pos {l : List UInt8} (h : dottedB l = true) : 1 ≤ (partsL l).length := by
  unfold partsL; rw [if_pos h]; exact pieces_pos l

theorem parts_dotted (l : List UInt8) : dottedB l = decide (0 < (partsL l).length) := by
  by_cases h : dottedB l = true
  · have := parts_pos h; simp [h]; omega
  · simp [partsL, h]

theorem part_le (l : List UInt8) : ∀ p ∈ partsL l, p.length ≤ l.length := by
  unfold partsL; split
  · exact piece_le l
  · simp

def underB (a b : List UInt8) : Bool := decide (0 < (partsL b).length) && decide ((partsL b).length ≤ (partsL a).length) && ((partsL a).take (partsL b).length == partsL b)

/-! the order of pieces -/
def cmpP : List (List UInt8) → List (List UInt8) → Int
  | [], [] => 0
  | [], _ :: _ => -1
  | _ :: _, [] => 1
  | p :: ps, q :: qs => if Lib.compareBytes p q = 0 then cmpP ps qs else Lib.compareBytes p q

def cmpT (a b : List UInt8) : Int := cmpP (pieces a) (pieces b)

end Nm
end Go.Proofs.YtbgggekkkcefcabDoor
