/- The calls cut, opens, follows and Name of package names, each as a plain function of the text's bytes. -/
import Derived.Test.YthdibodmnpcekaaRows
import Derived.Test.YthdibodmnpcekaaPlain
import Derived.WalkKit
import Derived.WalkSpells
import Derived.WalkLawsBesides
import Derived.BigQuiet
namespace Go.Proofs.Ythdibodmnpcekaa
open Go.RowKit
namespace Nm

def B (l : List UInt8) : ByteArray := ⟨l.toArray⟩
theorem B_list (l : List UInt8) : (B l).data.toList = l := rfl
theorem B_self (s : ByteArray) : B s.data.toList = s := rfl
theorem B_size (l : List UInt8) : (B l).size = l.length := rfl
theorem size_list (s : ByteArray) : s.data.toList.length = s.size := rfl
theorem get_list (s : ByteArray) (j : Nat) (h : j < s.size) : s.data.toList[j]'h = s[j] := rfl

theorem get!_list (s : ByteArray) (j : Nat) (h : j < s.size) : s.get! j = s.data.toList[j]'h := by
  exact get_at s j h

theorem decode_wide (s : ByteArray) (pos : Nat) (h : pos < s.size) (ha : 128 ≤ (s.data.toList[pos]'h).toNat) :
    pos + (Utf8.decode s pos).2 ≤ s.size ∧ ∀ j (hj : j < s.size), pos ≤ j → j < pos + (Utf8.decode s pos).2 → s.data.toList[j]'hj ≠ 46 := by
  have ha' : 128 ≤ (s.get! (pos + 0)).toNat := by rw [get_at s pos h]; exact ha
  have key : ∀ n, (∀ k, k < n → pos + k < s.size ∧ 128 ≤ (s.get! (pos + k)).toNat) → pos + n ≤ s.size + (if n = 0 then 1 else 0) ∧ ∀ j (hj : j < s.size), pos ≤ j → j < pos + n → s.data.toList[j]'hj ≠ 46 := by
    intro n hn
    refine ⟨?_, ?_⟩
    · cases n with
      | zero => simp; omega
      | succ n => have := (hn n (by omega)).1; simp; omega
    · intro j hj h1 h2 e
      obtain ⟨k, rfl⟩ := Nat.exists_eq_add_of_le h1
      have := (hn k (by omega)).2
      rw [get!_list s (pos + k) hj, e] at this
      exact absurd this (by decide)
  have n1 := key 1 (by intro k hk; have : k = 0 := by omega
                       subst this; exact ⟨by omega, ha'⟩)
  have hn : ¬ (s.get! (pos + 0)).toNat < 128 := by omega
  simp only [Utf8.decode, hn, if_false]
  split
  · rename_i h2
    simp only [Bool.and_eq_true, decide_eq_true_eq, beq_iff_eq] at h2
    have n2 := key 2 (by
      intro k hk
      rcases (by omega : k = 0 ∨ k = 1) with rfl | rfl
      · exact ⟨by omega, ha'⟩
      · exact ⟨by omega, by omega⟩)
    split
    · simpa using n2
    · simpa using n1
  · split
    · rename_i h2
      simp only [Bool.and_eq_true, decide_eq_true_eq, beq_iff_eq] at h2
      have n3 := key 3 (by
        intro k hk
        rcases (by omega : k = 0 ∨ k = 1 ∨ k = 2) with rfl | rfl | rfl
        · exact ⟨by omega, ha'⟩
        · exact ⟨by omega, by omega⟩
        · exact ⟨by omega, by omega⟩)
      split
      · simpa using n3
      · simpa using n1
    · split
      · rename_i h2
        simp only [Bool.and_eq_true, decide_eq_true_eq, beq_iff_eq] at h2
        have n4 := key 4 (by
          intro k hk
          rcases (by omega : k = 0 ∨ k = 1 ∨ k = 2 ∨ k = 3) with rfl | rfl | rfl | rfl
          · exact ⟨by omega, ha'⟩
          · exact ⟨by omega, by omega⟩
          · exact ⟨by omega, by omega⟩
          · exact ⟨by omega, by omega⟩)
        split
        · simpa using n4
        · simpa using n1
      · simpa using n1

theorem iter_below (w : World) (s : ByteArray) (pos : Nat) : Below w.heap.size w (w.iter s pos) := (Below.refl _ _).alloc (Nat.le_refl _) _

theorem extract_head (s : ByteArray) (k : Nat) (h : k < s.size) (hn : ∀ j (hj : j < k), s.data.toList[j]'(by rw [size_list]; omega) ≠ 46) (e : s.data.toList[k]'h = 46) :
    s.extract 0 k = B (hd s.data.toList) ∧ s.extract (k + 1) s.size = B (tl s.data.toList) ∧ dotB s.data.toList = true := by
  obtain ⟨h1, h2, h3⟩ := hd_at s.data.toList k h (fun j hj => hn j hj) e
  refine ⟨?_, ?_, h3⟩
  · rw [h1]
    apply ByteArray.ext
    apply Array.ext'
    simp [B, ByteArray.data_extract, List.extract_eq_take_drop]
  · rw [h2]
    apply ByteArray.ext
    apply Array.ext'
    rw [ByteArray.data_extract]
    simp only [B, List.extract_eq_take_drop, Array.toList_extract]
    rw [List.take_of_length_le (by simp)]

theorem letterB_high (c : UInt8) (h : 128 ≤ c.toNat) : letterB c = false := by unfold letterB; simp; omega
theorem moreB_high (c : UInt8) (h : 128 ≤ c.toNat) : moreB c = false := by unfold moreB; simp; omega
theorem ret_bool {a b : Bool} (h : a = b) : Ending.returned (.bool a) = .returned (.bool b) := by rw [h]

def opensB (r : Int) : Bool := decide (97 ≤ r) && decide (r ≤ 122)
def followsB (r : Int) : Bool := (decide (48 ≤ r) && decide (r ≤ 57)) || (r == 45) || (r == 95)

theorem opensB_byte (c : UInt8) : opensB (c.toNat : Int) = letterB c := by
  unfold opensB letterB
  rw [Bool.eq_iff_iff]; simp; omega
theorem followsB_byte (c : UInt8) : followsB (c.toNat : Int) = moreB c := by
  unfold followsB moreB
  rw [Bool.eq_iff_iff]; simp; omega
theorem opensB_high (r : Int) (h : 128 ≤ r) : opensB r = false := by unfold opensB; simp; omega
theorem followsB_high (r : Int) (h : 128 ≤ r) : followsB r = false := by unfold followsB; simp; omega

theorem wordB_iff (l : List UInt8) : wordB l = true ↔ ∀ j (hj : j < l.length), letterB l[j] = true ∨ (j ≠ 0 ∧ moreB l[j] = true) := by
  cases l with
  | nil => simp [wordB]
  | cons c l =>
    simp only [wordB, Bool.and_eq_true, List.all_eq_true, innerB, Bool.or_eq_true]
    constructor
    · rintro ⟨h1, h2⟩ j hj
      cases j with
      | zero => left; simpa using h1
      | succ j =>
        rcases h2 (l[j]'(by simpa using hj)) (List.getElem_mem _) with h | h
        · left; simpa using h
        · right; exact ⟨by omega, by simpa using h⟩
    · intro h
      refine ⟨?_, ?_⟩
      · rcases h 0 (by simp) with h | h
        · simpa using h
        · exact absurd rfl h.1
      · intro x hx
        obtain ⟨j, hj, rfl⟩ := List.mem_iff_getElem.1 hx
        rcases h (j + 1) (by simpa using hj) with h | h
        · left; simpa using h
        · right; simpa using h.2

theorem nameB_no {l : List UInt8} (j : Nat) (hj : j < l.length) (h1 : letterB l[j] = false) (h2 : j = 0 ∨ moreB l[j] = false) : nameB l = false := by
  unfold nameB
  rw [Bool.and_eq_false_iff]
  right
  rw [Bool.eq_false_iff]
  intro h
  rcases (wordB_iff l).1 h j hj with h | h
  · rw [h1] at h; cases h
  · rcases h2 with h2 | h2
    · exact h.1 h2
    · rw [h2] at h; exact Bool.noConfusion h.2

end Nm
end Go.Proofs.Ythdibodmnpcekaa
