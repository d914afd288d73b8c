/- Plain, Cut, Parts, Under, Same, in one text. -/
import Derived.Lib.Bytealg
import Derived.Test.YthdibodmnpcekaaGreatDoorRows
import Derived.WalkKit
import Derived.WalkSpells
import Derived.WalkLawsBesides
import Derived.BigQuiet
import Derived.Test.YthdibodmnpcekaaGreatDoorShelf
/- Plain facts on lists of bytes: pieces between dots, names, dotted names, the order of pieces. No program is named here. -/
namespace Go.Proofs.YthdibodmnpcekaaGreatDoor
namespace Nm

def letterB (c : UInt8) : Bool := decide (97 ≤ c.toNat) && decide (c.toNat ≤ 122)
def moreB (c : UInt8) : Bool := (decide (48 ≤ c.toNat) && decide (c.toNat ≤ 57)) || (c.toNat == 45) || (c.toNat == 95)
def innerB (c : UInt8) : Bool := letterB c || moreB c
def wordB : List UInt8 → Bool
  | [] => true
  | c :: l => letterB c && l.all innerB
def nameB (l : List UInt8) : Bool := decide (1 ≤ l.length) && decide (l.length ≤ 32) && wordB l

def pieces : List UInt8 → List (List UInt8)
  | [] => [[]]
  | c :: l => if c = 46 then [] :: pieces l else ((c :: (pieces l).headD []) :: (pieces l).tail)

def hd : List UInt8 → List UInt8
  | [] => []
  | c :: l => if c = 46 then [] else c :: hd l
def tl : List UInt8 → List UInt8
  | [] => []
  | c :: l => if c = 46 then l else tl l
def dotB : List UInt8 → Bool
  | [] => false
  | c :: l => if c = 46 then true else dotB l

theorem pieces_dot (l : List UInt8) : pieces (46 :: l) = [] :: pieces l := by rw [pieces]; simp
theorem pieces_nodot {c : UInt8} (h : c ≠ 46) (l : List UInt8) : pieces (c :: l) = (c :: (pieces l).headD []) :: (pieces l).tail := by rw [pieces, if_neg h]

theorem pieces_ne (l : List UInt8) : pieces l ≠ [] := by
  cases l with
  | nil => simp [pieces]
  | cons c l => unfold pieces; split <;> simp

theorem pieces_pos (l : List UInt8) : 1 ≤ (pieces l).length := by
  have := pieces_ne l
  cases h : pieces l with
  | nil => exact absurd h this
  | cons a b => simp

theorem pieces_len (l : List UInt8) : (pieces l).length ≤ l.length + 1 := by
  induction l with
  | nil => simp [pieces]
  | cons c l ih =>
    unfold pieces
    have := pieces_pos l
    split <;> simp <;> omega

theorem pieces_eq (l : List UInt8) : pieces l = hd l :: (if dotB l then pieces (tl l) else []) := by
  induction l with
  | nil => rfl
  | cons c l ih =>
    by_cases h : c = 46
    · subst h; rw [pieces_dot]; simp [hd, dotB, tl]
    · rw [pieces_nodot h, hd, dotB, tl, if_neg h, if_neg h, if_neg h]
      generalize pieces l = q at *
      subst ih
      rfl

theorem tl_lt (l : List UInt8) (h : dotB l = true) : (tl l).length < l.length := by
  induction l with
  | nil => simp [dotB] at h
  | cons c l ih =>
    by_cases hc : c = 46
    · simp [tl, hc]
    · have h' : dotB l = true := by simpa [dotB, hc] using h
      have := ih h'
      simp [tl, hc]; omega

theorem hd_le (l : List UInt8) : (hd l).length ≤ l.length := by
  induction l with
  | nil => simp [hd]
  | cons c l ih => unfold hd; split <;> simp <;> omega

theorem piece_le (l : List UInt8) : ∀ p ∈ pieces l, p.length ≤ l.length := by
  induction l with
  | nil => simp [pieces]
  | cons c l ih =>
    intro p hp
    by_cases h : c = 46
    · subst h
      rw [pieces_dot, List.mem_cons] at hp
      rcases hp with rfl | hp
      · simp
      · have := ih p hp; simp; omega
    · rw [pieces_nodot h, List.mem_cons] at hp
      rcases hp with rfl | hp
      · have h1 : ((pieces l).headD []).length ≤ l.length := by
          cases h : pieces l with
          | nil => exact absurd h (pieces_ne l)
          | cons a b => exact ih a (by rw [h]; simp)
        simp only [List.length_cons]; omega
      · have := ih p (List.mem_of_mem_tail hp); simp; omega

/-- Behind k bytes without a dot. -/
theorem hd_at (l : List UInt8) (k : Nat) (hk : k < l.length) (h : ∀ j (hj : j < k), l[j]'(by omega) ≠ 46) (hd46 : l[k] = 46) :
    hd l = l.take k ∧ tl l = l.drop (k + 1) ∧ dotB l = true := by
  induction l generalizing k with
  | nil => simp at hk
  | cons c l ih =>
    cases k with
    | zero =>
      simp at hd46
      simp [hd, tl, dotB, hd46]
    | succ k =>
      have h0 : c ≠ 46 := by have := h 0 (by omega); simpa using this
      have := ih k (by simpa using hk) (fun j hj => by have := h (j + 1) (by omega); simpa using this) (by simpa using hd46)
      simp [hd, tl, dotB, h0] at this ⊢
      exact this

theorem hd_none (l : List UInt8) (h : ∀ j (hj : j < l.length), l[j] ≠ 46) : hd l = l ∧ tl l = [] ∧ dotB l = false := by
  induction l with
  | nil => exact ⟨rfl, rfl, rfl⟩
  | cons c l ih =>
    have h0 : c ≠ 46 := by have := h 0 (by simp); simpa using this
    have := ih (fun j hj => by have := h (j + 1) (by simpa using hj); simpa using this)
    simp [hd, tl, dotB, h0, this]

/-! dotted names -/
def dotN (n : Nat) (l : List UInt8) : Bool := decide ((pieces l).length ≤ n) && (pieces l).all nameB
def dottedB (l : List UInt8) : Bool := dotN 4 l

theorem dotN_zero (l : List UInt8) : dotN 0 l = false := by
  have := pieces_pos l
  simp [dotN]; intro h; rw [h] at this; simp at this

theorem dotN_bad (n : Nat) (l : List UInt8) (h : nameB (hd l) = false) : dotN n l = false := by
  rw [dotN, pieces_eq]; simp [h]

theorem dotN_end (n : Nat) (l : List UInt8) (h : nameB (hd l) = true) (hd : dotB l = false) : dotN (n + 1) l = true := by
  rw [dotN, pieces_eq]; simp [h, hd]

theorem dotN_go (n : Nat) (l : List UInt8) (h : nameB (hd l) = true) (hd : dotB l = true) : dotN (n + 1) l = dotN n (tl l) := by
  rw [dotN, pieces_eq]; simp [h, hd, dotN]

def partsL (l : List UInt8) : List (List UInt8) := if dottedB l then pieces l else []

theorem dotted_count {l : List UInt8} (h : dottedB l = true) : (pieces l).length ≤ 4 := by
  simp [dottedB, dotN] at h; exact h.1

theorem parts_count (l : List UInt8) : (partsL l).length ≤ 4 := by
  unfold partsL; split
  · exact dotted_count ‹_›
  · simp

theorem parts_pos {l : List UInt8} (h : dottedB l = true) : 1 ≤ (partsL l).length := by
  unfold partsL; rw [if_pos h]; exact pieces_pos l

theorem parts_dotted (l : List UInt8) : dottedB l = decide (0 < (partsL l).length) := by
  by_cases h : dottedB l = true
  · have := parts_pos h; simp [h]; omega
  · simp [partsL, h]

theorem part_le (l : List UInt8) : ∀ p ∈ partsL l, p.length ≤ l.length := by
  unfold partsL; split
  · exact piece_le l
  · simp

def underB (a b : List UInt8) : Bool := decide (0 < (partsL b).length) && decide ((partsL b).length ≤ (partsL a).length) && ((partsL a).take (partsL b).length == partsL b)

/-! the order of pieces -/
def cmpP : List (List UInt8) → List (List UInt8) → Int
  | [], [] => 0
  | [], _ :: _ => -1
  | _ :: _, [] => 1
  | p :: ps, q :: qs => if Lib.compareBytes p q = 0 then cmpP ps qs else Lib.compareBytes p q

def cmpT (a b : List UInt8) : Int := cmpP (pieces a) (pieces b)

end Nm
end Go.Proofs.YthdibodmnpcekaaGreatDoor
/- The calls cut, opens, follows and Name of package names, each as a plain function of the text's bytes. -/
namespace Go.Proofs.YthdibodmnpcekaaGreatDoor
open Go.RowKit
namespace Nm

def B (l : List UInt8) : ByteArray := ⟨l.toArray⟩
theorem B_list (l : List UInt8) : (B l).data.toList = l := rfl
theorem B_self (s : ByteArray) : B s.data.toList = s := rfl
theorem B_size (l : List UInt8) : (B l).size = l.length := rfl
theorem size_list (s : ByteArray) : s.data.toList.length = s.size := rfl
theorem get_list (s : ByteArray) (j : Nat) (h : j < s.size) : s.data.toList[j]'h = s[j] := rfl

theorem get!_list (s : ByteArray) (j : Nat) (h : j < s.size) : s.get! j = s.data.toList[j]'h := by
  exact get_at s j h

theorem decode_wide (s : ByteArray) (pos : Nat) (h : pos < s.size) (ha : 128 ≤ (s.data.toList[pos]'h).toNat) :
    pos + (Utf8.decode s pos).2 ≤ s.size ∧ ∀ j (hj : j < s.size), pos ≤ j → j < pos + (Utf8.decode s pos).2 → s.data.toList[j]'hj ≠ 46 := by
  have ha' : 128 ≤ (s.get! (pos + 0)).toNat := by rw [get_at s pos h]; exact ha
  have key : ∀ n, (∀ k, k < n → pos + k < s.size ∧ 128 ≤ (s.get! (pos + k)).toNat) → pos + n ≤ s.size + (if n = 0 then 1 else 0) ∧ ∀ j (hj : j < s.size), pos ≤ j → j < pos + n → s.data.toList[j]'hj ≠ 46 := by
    intro n hn
    refine ⟨?_, ?_⟩
    · cases n with
      | zero => simp; omega
      | succ n => have := (hn n (by omega)).1; simp; omega
    · intro j hj h1 h2 e
      obtain ⟨k, rfl⟩ := Nat.exists_eq_add_of_le h1
      have := (hn k (by omega)).2
      rw [get!_list s (pos + k) hj, e] at this
      exact absurd this (by decide)
  have n1 := key 1 (by intro k hk; have : k = 0 := by omega
                       subst this; exact ⟨by omega, ha'⟩)
  have hn : ¬ (s.get! (pos + 0)).toNat < 128 := by omega
  simp only [Utf8.decode, hn, if_false]
  split
  · rename_i h2
    simp only [Bool.and_eq_true, decide_eq_true_eq, beq_iff_eq] at h2
    have n2 := key 2 (by
      intro k hk
      rcases (by omega : k = 0 ∨ k = 1) with rfl | rfl
      · exact ⟨by omega, ha'⟩
      · exact ⟨by omega, by omega⟩)
    split
    · simpa using n2
    · simpa using n1
  · split
    · rename_i h2
      simp only [Bool.and_eq_true, decide_eq_true_eq, beq_iff_eq] at h2
      have n3 := key 3 (by
        intro k hk
        rcases (by omega : k = 0 ∨ k = 1 ∨ k = 2) with rfl | rfl | rfl
        · exact ⟨by omega, ha'⟩
        · exact ⟨by omega, by omega⟩
        · exact ⟨by omega, by omega⟩)
      split
      · simpa using n3
      · simpa using n1
    · split
      · rename_i h2
        simp only [Bool.and_eq_true, decide_eq_true_eq, beq_iff_eq] at h2
        have n4 := key 4 (by
          intro k hk
          rcases (by omega : k = 0 ∨ k = 1 ∨ k = 2 ∨ k = 3) with rfl | rfl | rfl | rfl
          · exact ⟨by omega, ha'⟩
          · exact ⟨by omega, by omega⟩
          · exact ⟨by omega, by omega⟩
          · exact ⟨by omega, by omega⟩)
        split
        · simpa using n4
        · simpa using n1
      · simpa using n1

theorem iter_below (w : World) (s : ByteArray) (pos : Nat) : Below w.heap.size w (w.iter s pos) := (Below.refl _ _).alloc (Nat.le_refl _) _

theorem extract_head (s : ByteArray) (k : Nat) (h : k < s.size) (hn : ∀ j (hj : j < k), s.data.toList[j]'(by rw [size_list]; omega) ≠ 46) (e : s.data.toList[k]'h = 46) :
    s.extract 0 k = B (hd s.data.toList) ∧ s.extract (k + 1) s.size = B (tl s.data.toList) ∧ dotB s.data.toList = true := by
  obtain ⟨h1, h2, h3⟩ := hd_at s.data.toList k h (fun j hj => hn j hj) e
  refine ⟨?_, ?_, h3⟩
  · rw [h1]
    apply ByteArray.ext
    apply Array.ext'
    simp [B, ByteArray.data_extract, List.extract_eq_take_drop]
  · rw [h2]
    apply ByteArray.ext
    apply Array.ext'
    rw [ByteArray.data_extract]
    simp only [B, List.extract_eq_take_drop, Array.toList_extract]
    rw [List.take_of_length_le (by simp)]

theorem letterB_high (c : UInt8) (h : 128 ≤ c.toNat) : letterB c = false := by unfold letterB; simp; omega
theorem moreB_high (c : UInt8) (h : 128 ≤ c.toNat) : moreB c = false := by unfold moreB; simp; omega
theorem ret_bool {a b : Bool} (h : a = b) : Ending.returned (.bool a) = .returned (.bool b) := by rw [h]

def opensB (r : Int) : Bool := decide (97 ≤ r) && decide (r ≤ 122)
def followsB (r : Int) : Bool := (decide (48 ≤ r) && decide (r ≤ 57)) || (r == 45) || (r == 95)

theorem opensB_byte (c : UInt8) : opensB (c.toNat : Int) = letterB c := by
  unfold opensB letterB
  rw [Bool.eq_iff_iff]; simp; omega
theorem followsB_byte (c : UInt8) : followsB (c.toNat : Int) = moreB c := by
  unfold followsB moreB
  rw [Bool.eq_iff_iff]; simp; omega
theorem opensB_high (r : Int) (h : 128 ≤ r) : opensB r = false := by unfold opensB; simp; omega
theorem followsB_high (r : Int) (h : 128 ≤ r) : followsB r = false := by unfold followsB; simp; omega

theorem wordB_iff (l : List UInt8) : wordB l = true ↔ ∀ j (hj : j < l.length), letterB l[j] = true ∨ (j ≠ 0 ∧ moreB l[j] = true) := by
  cases l with
  | nil => simp [wordB]
  | cons c l =>
    simp only [wordB, Bool.and_eq_true, List.all_eq_true, innerB, Bool.or_eq_true]
    constructor
    · rintro ⟨h1, h2⟩ j hj
      cases j with
      | zero => left; simpa using h1
      | succ j =>
        rcases h2 (l[j]'(by simpa using hj)) (List.getElem_mem _) with h | h
        · left; simpa using h
        · right; exact ⟨by omega, by simpa using h⟩
    · intro h
      refine ⟨?_, ?_⟩
      · rcases h 0 (by simp) with h | h
        · simpa using h
        · exact absurd rfl h.1
      · intro x hx
        obtain ⟨j, hj, rfl⟩ := List.mem_iff_getElem.1 hx
        rcases h (j + 1) (by simpa using hj) with h | h
        · left; simpa using h
        · right; simpa using h.2

theorem nameB_no {l : List UInt8} (j : Nat) (hj : j < l.length) (h1 : letterB l[j] = false) (h2 : j = 0 ∨ moreB l[j] = false) : nameB l = false := by
  unfold nameB
  rw [Bool.and_eq_false_iff]
  right
  rw [Bool.eq_false_iff]
  intro h
  rcases (wordB_iff l).1 h j hj with h | h
  · rw [h1] at h; cases h
  · rcases h2 with h2 | h2
    · exact h.1 h2
    · rw [h2] at h; exact Bool.noConfusion h.2

end Nm
end Go.Proofs.YthdibodmnpcekaaGreatDoor
/- The calls Dotted, Clone and Parts of package names, each as a plain function of the text's bytes. -/
namespace Go.Proofs.YthdibodmnpcekaaGreatDoor
open Go.RowKit
namespace Nm

theorem Tryz.info9 : (Tryz.prog.info? 9).map (fun i => (i.zero, i.size, i.bytes)) = some (some (.string ⟨#[]⟩), 1, 16) := by kernel_rfl

/-- What the call owns stays owned where nothing that was there turns. -/
theorem own_below {w w' : World} {base : Nat} {e : TypeId} {size : Nat} {v : Value} {n : Nat} {xs : List Value} (h : w.ownsRow base e size v n xs) (hb : Below w.heap.size w w') : w'.ownsRow base e size v n xs := by
  refine ⟨h.1, ?_⟩
  rcases h.2 with hn | ⟨g, cap, cur, rfl, hbg, hgg, rest⟩
  · exact .inl hn
  · refine .inr ⟨g, cap, cur, rfl, hbg, ?_, rest⟩
    rw [hb.block g (Array.getElem?_eq_some_iff.1 hgg).1]
    exact hgg

def lenOf : Value → Nat
  | .string s => s.size
  | _ => 0

def txt (p : List UInt8) : Value := .string (B p)

theorem below_then {w a b : World} (h : Below w.heap.size w a) (k : Below a.heap.size a b) : Below w.heap.size w b := h.trans (k.mono h.size)

theorem tl_le (l : List UInt8) : (tl l).length ≤ l.length := by
  induction l with
  | nil => simp [tl]
  | cons c l ih => unfold tl; split <;> simp <;> omega

set_option maxHeartbeats 400000 in
theorem clone_l (l : List UInt8) (w : World) (h : l.length ≤ 65536) :
    Calls Tryz.prog 38 #[.string (B l)] w fun e w' => e = .returned (.string (B l)) ∧ Below w.heap.size w w' := by
  go_enter Tryz.func38, Tryz.ntmps38
  go_wp2_with (go_at_call 59; refine (Tryz.stringslite_Clone _ _ (by exact Nat.le_trans h (by decide))).mono ?_; rintro e w1 ⟨rfl, hb1⟩)
  go_ret
  exact ⟨rfl, hb1⟩

theorem dotted_short {l : List UInt8} (h : dottedB l = true) : ∀ p ∈ pieces l, p.length ≤ 32 := by
  intro p hp
  simp only [dottedB, dotN, Bool.and_eq_true, List.all_eq_true] at h
  have := h.2 p hp
  simp only [nameB, Bool.and_eq_true, decide_eq_true_eq] at this
  exact this.1.2

theorem hd_mem (l : List UInt8) : hd l ∈ pieces l := by rw [pieces_eq]; simp

end Nm
end Go.Proofs.YthdibodmnpcekaaGreatDoor
/- The calls Under and Compare of package names, each as a plain function of the texts' bytes. -/
namespace Go.Proofs.YthdibodmnpcekaaGreatDoor
open Go.RowKit
namespace Nm

/-- An owned row of texts, as a slice value with its cells. -/
theorem own_slice {w : World} {base : Nat} {v : Value} {ps : List (List UInt8)} (h : w.ownsRow base 9 1 v ps.length (ps.map txt)) :
    ∃ a cap, v = .slice a ps.length cap ∧ ps.length ≤ cap ∧ cap ≤ maxLen ∧ (0 < ps.length → ∃ g, a = some ⟨g, 0, none⟩ ∧ base ≤ g ∧ g < w.heap.size ∧ ∀ j (hj : j < ps.length), w.cell? ⟨g, j, none⟩ = some (.string (B ps[j]))) := by
  rcases h.2 with ⟨rfl, hn⟩ | ⟨g, cap, cur, rfl, hbg, hgg, h1, h2, h3, h4⟩
  · exact ⟨none, 0, by rw [hn], by omega, by decide, fun h => by omega⟩
  · refine ⟨_, cap, rfl, h1, h2, fun _ => ⟨g, rfl, hbg, (Array.getElem?_eq_some_iff.1 hgg).1, fun j hj => ?_⟩⟩
    have e : cur.toList[j]? = some (txt ps[j]) := by
      have := congrArg (fun l => l[j]?) h4
      simp only [Nat.mul_one] at this
      rw [List.getElem?_take_of_lt hj] at this
      rw [this]
      simp [hj]
    have e2 : cur[j]? = some (txt ps[j]) := by rw [← Array.getElem?_toList]; exact e
    simp [World.cell?, hgg, e2, txt]

theorem B_inj {a b : List UInt8} (h : B a = B b) : a = b := by
  have := congrArg (fun s => s.data.toList) h
  exact this

theorem mapB_inj {a b : List (List UInt8)} : a.map B = b.map B ↔ a = b := by
  constructor
  · intro h
    induction a generalizing b with
    | nil => cases b with
      | nil => rfl
      | cons y b => simp at h
    | cons x a ih => cases b with
      | nil => simp at h
      | cons y b =>
        simp only [List.map_cons, List.cons.injEq] at h
        rw [B_inj h.1, ih h.2]
  · rintro rfl; rfl

theorem getD_map (ps : List (List UInt8)) (j : Nat) (hj : j < (ps.map B).length) : (ps.map B).getD j ByteArray.empty = B (ps[j]'(by simpa using hj)) := by
  have hj' : j < ps.length := by simpa using hj
  simp [List.getD, hj']

theorem under_is {a b : List UInt8} {pa pb : List (List UInt8)} (h1 : partsL a = pa) (h2 : partsL b = pb) (h3 : 0 < pb.length) (h4 : pb.length ≤ pa.length) :
    decide (List.take pb.length (List.map B pa) = List.take pb.length (List.map B pb)) = underB a b := by
  have e : (List.take pb.length (List.map B pa) = List.take pb.length (List.map B pb)) ↔ (pa.take pb.length = pb) := by
    rw [← List.map_take, ← List.map_take, mapB_inj, List.take_length]
  rw [Bool.eq_iff_iff, decide_eq_true_eq, e]
  unfold underB
  rw [h1, h2]
  simp [h3, h4]

/-! Compare -/
theorem ret_int {k : IntKind} {a b : Int} (h : a = b) : Ending.returned (.int k a) = .returned (.int k b) := by rw [h]

theorem cmp_neq (a b : List UInt8) (h : Lib.compareBytes (hd a) (hd b) ≠ 0) : cmpT a b = Lib.compareBytes (hd a) (hd b) := by
  unfold cmpT; rw [pieces_eq a, pieces_eq b]; simp [cmpP, h]
theorem cmp_eq (a b : List UInt8) (h : Lib.compareBytes (hd a) (hd b) = 0) : cmpT a b = cmpP (if dotB a then pieces (tl a) else []) (if dotB b then pieces (tl b) else []) := by
  unfold cmpT; rw [pieces_eq a, pieces_eq b]; simp [cmpP, h]
theorem cmp_ff (a b : List UInt8) (h : Lib.compareBytes (hd a) (hd b) = 0) (ha : dotB a = false) (hb : dotB b = false) : cmpT a b = 0 := by
  rw [cmp_eq a b h, ha, hb]; rfl
theorem cmp_ft (a b : List UInt8) (h : Lib.compareBytes (hd a) (hd b) = 0) (ha : dotB a = false) (hb : dotB b = true) : cmpT a b = -1 := by
  rw [cmp_eq a b h, ha, hb]
  have := pieces_ne (tl b)
  cases hp : pieces (tl b) with
  | nil => exact absurd hp this
  | cons x y => rfl
theorem cmp_tf (a b : List UInt8) (h : Lib.compareBytes (hd a) (hd b) = 0) (ha : dotB a = true) (hb : dotB b = false) : cmpT a b = 1 := by
  rw [cmp_eq a b h, ha, hb]
  have := pieces_ne (tl a)
  cases hp : pieces (tl a) with
  | nil => exact absurd hp this
  | cons x y => rfl
theorem cmp_tt (a b : List UInt8) (h : Lib.compareBytes (hd a) (hd b) = 0) (ha : dotB a = true) (hb : dotB b = true) : cmpT a b = cmpT (tl a) (tl b) := by
  rw [cmp_eq a b h, ha, hb]; rfl

end Nm
end Go.Proofs.YthdibodmnpcekaaGreatDoor
/- SameTexts tells whether two lists of texts are the same. -/
namespace Go.Proofs.YthdibodmnpcekaaGreatDoor
open Go.RowKit
namespace Nm

/-- The value v reads, in w, as the list of texts ps. -/
def Rd (w : World) (v : Value) (ps : List (List UInt8)) : Prop :=
  ∃ a cap, v = .slice a ps.length cap ∧ ps.length ≤ cap ∧ cap ≤ maxLen ∧ (0 < ps.length → ∃ g o, a = some ⟨g, o, none⟩ ∧ g < w.heap.size ∧ ∀ j (hj : j < ps.length), w.cell? ⟨g, o + j, none⟩ = some (.string (B ps[j])))

theorem rd_own {w : World} {base : Nat} {v : Value} {ps : List (List UInt8)} (h : w.ownsRow base 9 1 v ps.length (ps.map txt)) : Rd w v ps := by
  obtain ⟨a, cap, h1, h2, h3, h4⟩ := own_slice h
  refine ⟨a, cap, h1, h2, h3, fun h0 => ?_⟩
  obtain ⟨g, e1, _, e2, e3⟩ := h4 h0
  exact ⟨g, 0, e1, e2, fun j hj => by rw [Nat.zero_add]; exact e3 j hj⟩

theorem Rd.below {w w' : World} {v : Value} {ps : List (List UInt8)} (h : Rd w v ps) (hb : Below w.heap.size w w') : Rd w' v ps := by
  obtain ⟨a, cap, h1, h2, h3, h4⟩ := h
  refine ⟨a, cap, h1, h2, h3, fun h0 => ?_⟩
  obtain ⟨g, o, e1, e2, e3⟩ := h4 h0
  exact ⟨g, o, e1, Nat.lt_of_lt_of_le e2 hb.size, fun j hj => (hb.cell (p := ⟨g, o + j, none⟩) e2).trans (e3 j hj)⟩

theorem rd_one (w : World) (p : List UInt8) : Rd (w.alloc (.cells #[.string (B p)] 9)) (.slice (some ⟨w.heap.size, 0, none⟩) 1 1) [p] := by
  refine ⟨_, 1, rfl, Nat.le_refl _, by decide, fun _ => ⟨w.heap.size, 0, rfl, by simp, fun j hj => ?_⟩⟩
  have : j = 0 := by simpa using hj
  subst this
  simp

set_option maxRecDepth 1000000 in
set_option maxHeartbeats 1000000 in
theorem same_l (v1 v2 : Value) (ps qs : List (List UInt8)) (w : World) (h1 : Rd w v1 ps) (h2 : Rd w v2 qs) :
    Calls Tryz.prog 82 #[v1, v2] w fun e w' => e = .returned (.bool (decide (ps = qs))) ∧ ∃ n, w' = w.drewN n := by
  obtain ⟨a1, cap1, rfl, hc1, hm1, hcell1⟩ := h1
  obtain ⟨a2, cap2, rfl, hc2, hm2, hcell2⟩ := h2
  unfold maxLen at hm1 hm2
  by_cases hlen : ps.length = qs.length
  · have hlb : ((ps.length : Int) != (qs.length : Int)) = false := by rw [bne_eq_false_iff_eq]; omega
    have HLEN : Hid (ps.length = qs.length) := hlen
    clear hlen
    have HC1 : Hid (0 < ps.length → ∃ g o, a1 = some ⟨g, o, none⟩ ∧ g < w.heap.size ∧ ∀ j (hj : j < ps.length), w.cell? ⟨g, o + j, none⟩ = some (.string (B ps[j]))) := hcell1
    have HC2 : Hid (0 < qs.length → ∃ g o, a2 = some ⟨g, o, none⟩ ∧ g < w.heap.size ∧ ∀ j (hj : j < qs.length), w.cell? ⟨g, o + j, none⟩ = some (.string (B qs[j]))) := hcell2
    clear hcell1 hcell2
    go_enter Tryz.func82, Tryz.ntmps82
    go_wp2
    go_loopw [5] (fun i wr => ∃ k n : Nat, k ≤ ps.length ∧ i = .int .i64 k ∧ Hid (wr = w.drewN n) ∧ Hid (∀ j (hj : j < ps.length) (hj2 : j < qs.length), j < k → ps[j] = qs[j])) (fun i _ => ps.length - (intOf i).toNat)
    case atStart => exact ⟨0, 0, Nat.zero_le _, rfl, rfl, fun j _ _ h => by omega⟩
    case round =>
      obtain ⟨k, n, hk, rfl, hwr, hok⟩ := hrel
      by_cases hp : k < ps.length
      · have hp2 : k < qs.length := by have := HLEN.out; omega
        obtain ⟨g1, o1, rfl, _, hx1⟩ := HC1.out (by omega)
        obtain ⟨g2, o2, rfl, _, hx2⟩ := HC2.out (by omega)
        have hcx1 : wr.cell? ⟨g1, o1 + k, none⟩ = some (.string (B ps[k])) := by rw [hwr.out]; exact hx1 k hp
        have hcx2 : wr.cell? ⟨g2, o2 + k, none⟩ = some (.string (B qs[k])) := by rw [hwr.out]; exact hx2 k hp2
        clear hx1 hx2 HC1 HC2
        by_cases he : ps[k] = qs[k]
        · rw [← he] at hcx2
          have HE : Hid (ps[k] = qs[k]) := he
          clear he
          generalize hgx : B ps[k] = x at hcx1 hcx2
          clear hgx
          go_wp2
          go_quiet (fail)
          go_wp2
          go_roundw
          case rel =>
            refine ⟨k + 1, _, by omega, by go_num, by rw [hwr.out, World.drewN_drewN]; exact rfl, fun j hj hj2 h => ?_⟩
            rcases Nat.lt_or_ge j k with h' | h'
            · exact hok.out j hj hj2 h'
            · have : j = k := by omega
              subst this; exact HE.out
          case measure => simp [intOf]; omega
        · have hne : ((B ps[k]).toList == (B qs[k]).toList) = false := by
            rw [beq_eq_false_iff_ne, ByteArray.toList_eq, ByteArray.toList_eq]; exact he
          have HF : Hid (decide (ps = qs) = false) := by
            show decide (ps = qs) = false
            rw [decide_eq_false_iff_not]
            rintro rfl; exact he rfl
          clear he
          generalize B ps[k] = x at *
          generalize B qs[k] = y at *
          go_wp2
          go_quiet (fail)
          go_wp2
          go_ret
          exact ⟨ret_bool HF.out.symm, _, by rw [hwr.out, World.drewN_drewN]⟩
      · have HF : Hid (decide (ps = qs) = true) := by
          show decide (ps = qs) = true
          rw [decide_eq_true_eq]
          have hl := HLEN.out
          exact List.ext_getElem hl (fun i h1 h2 => hok.out i h1 h2 (by omega))
        clear HC1 HC2
        go_wp2
        go_ret
        exact ⟨ret_bool HF.out.symm, _, hwr.out⟩
  · have hlb : ((ps.length : Int) != (qs.length : Int)) = true := by rw [bne_iff_ne]; omega
    have HF : Hid (decide (ps = qs) = false) := by
      show decide (ps = qs) = false
      rw [decide_eq_false_iff_not]
      rintro rfl; exact hlen rfl
    clear hcell1 hcell2 hlen
    go_enter Tryz.func82, Tryz.ntmps82
    go_wp2
    go_ret
    exact ⟨ret_bool HF.out.symm, 0, rfl⟩
end Nm
end Go.Proofs.YthdibodmnpcekaaGreatDoor
