/- The calls cut, opens, follows and Name of package names, each as a plain function of the text's bytes. -/
import Derived.Test.YtbgggekkkcefcabDoorRows
import Derived.Test.YtbgggekkkcefcabDoorPlain
import Derived.WalkKit
import Derived.WalkSpells
import Derived.WalkLawsBesides
import Derived.BigQuiet
namespace Go.Proofs.YtbgggekkkcefcabDoor
open Go.RowKit
namespace Nm

def B (l : List UInt8) : ByteArray := ⟨l.toArray⟩
theorem B_list (l : List UInt8) : (B l).data.toList = l := rfl
theorem B_self (s : ByteArray) : B s.data.toList = s := rfl
theorem B_size (l : List UInt8) : (B l).size = l.length := rfl
theorem size_list (s : ByteArray) : s.data.toList.length = s.size := rfl
theorem get_list (s : ByteArray) (j : Nat) (h : j < s.size) : s.data.toList[j]'h = s[j] := rfl

theorem get!_list (s : ByteArray) (j : Nat) (h : j < s.size) : s.get! j = s.data.toList[j]'h := by
  exact get_at s j h

theorem decode_wide (s : ByteArray) (pos : Nat) (h : pos < s.size) (ha : 128 ≤ (s.data.toList[pos]'h).toNat) :
    pos + (Utf8.decode s pos).2 ≤ s.size ∧ ∀ j (hj : j < s.size), pos ≤ j → j < pos + (Utf8.decode s pos).2 → s.data.toList[j]'hj ≠ 46 := by
  have ha' : 128 ≤ (s.get! (pos + 0)).toNat := by rw [get_at s pos h]; exact ha
  have key : ∀ n, (∀ k, k < n → pos + k < s.size ∧ 128 ≤ (s.get! (pos + k)).toNat) → pos + n ≤ s.size + (if n = 0 then 1 else 0) ∧ ∀ j (hj : j < s.size), pos ≤ j → j < pos + n → s.data.toList[j]'hj ≠ 46 := by
    intro n hn
    refine ⟨?_, ?_⟩
    · cases n with
      | zero => simp; omega
      | succ n => have := (hn n (by omega)).1; simp; omega
    · intro j hj h1 h2 e
      obtain ⟨k, rfl⟩ := Nat.exists_eq_add_of_le h1
      have := (hn k (by omega)).2
      rw [get!_list s (pos + k) hj, e] at this
      exact absurd this (by decide)
  have n1 := key 1 (by intro k hk; have : k = 0 := by omega
                       subst this; exact ⟨by omega, ha'⟩)
  have hn : ¬ (s.get! (pos + 0)).toNat < 128 := by omega
  simp only [Utf8.decode, hn, if_false]
  split
  · rename_i h2
    simp only [Bool.and_eq_true, decide_eq_true_eq, beq_iff_eq] at h2
    have n2 := key 2 (by
      intro k hk
      rcases (by omega : k = 0 ∨ k = 1) with rfl | rfl
      · exact ⟨by omega, ha'⟩
      · exact ⟨by omega, by omega⟩)
    split
    · simpa using n2
    · simpa using n1
  · split
    · rename_i h2
      simp only [Bool.and_eq_true, decide_eq_true_eq, beq_iff_eq] at h2
      have n3 := key 3 (by
        intro k hk
        rcases (by omega : k = 0 ∨ k = 1 ∨ k = 2) with rfl | rfl | rfl
        · exact ⟨by omega, ha'⟩
        · exact ⟨by omega, by omega⟩
        · exact ⟨by omega, by omega⟩)
      split
      · simpa using n3
      · simpa using n1
    · split
      · rename_i h2
        simp only [Bool.and_eq_true, decide_eq_true_eq, beq_iff_eq] at h2
        have n4 := key 4 (by
          intro k hk
          rcases (by omega : k = 0 ∨ k = 1 ∨ k = 2 ∨ k = 3) with rfl | rfl | rfl | rfl
          · exact ⟨by omega, ha'⟩
          · exact ⟨by omega, by omega⟩
          · exact ⟨by omega, by omega⟩
          · exact ⟨by omega, by omega⟩)
        split
        · simpa using n4
        · simpa using n1
      · simpa using n1

theorem iter_below (w : World) (s : ByteArray) (pos : Nat) : Below w.heap.size w (w.iter s pos) := (Below.refl _ _).alloc (Nat.le_refl _) _

theorem extract_head (s : ByteArray) (k : Nat) (h : k < s.size) (hn : ∀ j (hj : j < k), s.data.toList[j]'(by rw [size_list]; omega) ≠ 46) (e : s.data.toList[k]'h = 46) :
    s.extract 0 k = B (hd s.data.toList) ∧ s.extract (k + 1) s.size = B (tl s.data.toList) ∧ dotB s.data.toList = true := by
  obtain ⟨h1, h2, h3⟩ := hd_at s.data.toList k h (fun j hj => hn j hj) e
  refine ⟨?_, ?_, h3⟩
  · rw [h1]
    apply ByteArray.ext
    apply Array.ext'
    simp [B, ByteArray.data_extract, List.extract_eq_take_drop]
  · rw [h2]
    apply ByteArray.ext
    apply Array.ext'
    rw [ByteArray.data_extract]
    simp only [B, List.extract_eq_take_drop, Array.toList_extract]
    rw [List.take_of_length_le (by simp)]

theorem letterB_high (c : UInt8) (h : 128 ≤ c.toNat) : letterB c = false := by unfold letterB; simp; omega
theorem moreB_high (c : UInt8) (h : 128 ≤ c.toNat) : moreB c = false := by unfold moreB; simp; omega
theorem ret_bool {a b : Bool} (h : a = b) : Ending.returned (.bool a) = .returned (.bool b) := by rw [h]

def opensB (r : Int) : Bool := decide (97 ≤ r) && decide (r ≤ 122)
def followsB (r : Int) : Bool := (decide (48 ≤ r) && decide (r ≤ 57)) || (r == 45) || (r == 95)

theorem opensB_byte (c : UInt8) : opensB (c.toNat : Int) = letterB c := by
  unfold opensB letterB
  rw [Bool.eq_iff_iff]; simp; omega
theorem followsB_byte (c : UInt8) : followsB (c.toNat : Int) = moreB c := by
  unfold followsB moreB
  rw [Bool.eq_iff_iff]; simp; omega
theorem opensB_high (r : Int) (h : 128 ≤ r) : opensB r = false := by unfold opensB; simp; omega
theorem followsB_high (r : Int) (h : 128 ≤ r) : followsB r = false := by unfold followsB; simp; omega

set_option maxHeartbeats 400000 in
theorem opens_any (r : Int) (w : World) : Calls Tryd.prog 52 #[.int .i32 r] w fun e w' => e = .returned (.bool (opensB r)) ∧ w' = w := by
  by_cases h1 : 97 ≤ r
  · by_cases h2 : r ≤ 122
    all_goals
      go_enter Tryd.func52, Tryd.ntmps52
      go_wp2
      go_ret
      exact ⟨ret_bool (by unfold opensB; rw [Bool.eq_iff_iff]; simp; omega), rfl⟩
  · go_enter Tryd.func52, Tryd.ntmps52
    go_wp2
    go_ret
    exact ⟨ret_bool (by unfold opensB; rw [Bool.eq_iff_iff]; simp; omega), rfl⟩

set_option maxHeartbeats 400000 in
theorem follows_any (r : Int) (w : World) : Calls Tryd.prog 53 #[.int .i32 r] w fun e w' => e = .returned (.bool (followsB r)) ∧ w' = w := by
  go_enter Tryd.func53, Tryd.ntmps53
  go_wp2
  all_goals go_ret
  all_goals exact ⟨ret_bool (by unfold followsB; rw [Bool.eq_iff_iff]; simp <;> omega), rfl⟩

theorem wordB_iff (l : List UInt8) : wordB l = true ↔ ∀ j (hj : j < l.length), letterB l[j] = true ∨ (j ≠ 0 ∧ moreB l[j] = true) := by
  cases l with
  | nil => simp [wordB]
  | cons c l =>
    simp only [wordB, Bool.and_eq_true, List.all_eq_true, innerB, Bool.or_eq_true]
    constructor
    · rintro ⟨h1, h2⟩ j hj
      cases j with
      | zero => left; simpa using h1
      | succ j =>
        rcases h2 (l[j]'(by simpa using hj)) (List.getElem_mem _) with h | h
        · left; simpa using h
        · right; exact ⟨by omega, by simpa using h⟩
    · intro h
      refine ⟨?_, ?_⟩
      · rcases h 0 (by simp) with h | h
        · simpa using h
        · exact absurd rfl h.1
      · intro x hx
        obtain ⟨j, hj, rfl⟩ := List.mem_iff_getElem.1 hx
        rcases h (j + 1) (by simpa using hj) with h | h
        · left; simpa using h
        · right; simpa using h.2

theorem nameB_no {l : List UInt8} (j : Nat) (hj : j < l.length) (h1 : letterB l[j] = false) (h2 : j = 0 ∨ moreB l[j] = false) : nameB l = false := by
  unfold nameB
  rw [Bool.and_eq_false_iff]
  right
  rw [Bool.eq_false_iff]
  intro h
  rcases (wordB_iff l).1 h j hj with h | h
  · rw [h1] at h; cases h
  · rcases h2 with h2 | h2
    · exact h.1 h2
    · rw [h2] at h; exact Bool.noConfusion h.2

set_option maxRecDepth 1000000 in
set_option maxHeartbeats 1000000 in
theorem name_any (s : ByteArray) (w : World) (hs : s.size ≤ maxLen) :
    Calls Tryd.prog 37 #[.string s] w fun e w' => e = .returned (.bool (nameB s.data.toList)) ∧ Below w.heap.size w w' := by
  unfold maxLen at hs
  by_cases h0 : s.size = 0
  · have hl : s.data.toList = [] := List.length_eq_zero_iff.1 h0
    have he : s.toList = [] := by rw [ByteArray.toList_eq]; exact hl
    have hn : nameB s.data.toList = false := by rw [hl]; rfl
    have HN : Hid (nameB s.data.toList = false) := hn
    clear hn hl
    go_enter Tryd.func37, Tryd.ntmps37
    go_wp2
    go_ret
    exact ⟨ret_bool HN.out.symm, Below.refl _ _⟩
  · have he : ¬ s.toList = [] := by
      rw [ByteArray.toList_eq]; intro h; exact h0 (by rw [← size_list, h]; rfl)
    have he2 : s.toList.isEmpty = false := by rw [← Bool.not_eq_true, List.isEmpty_iff]; exact he
    by_cases h32 : 32 < s.size
    · have HN : Hid (nameB s.data.toList = false) := by
        show nameB s.data.toList = false
        have : s.data.toList.length = s.size := rfl
        unfold nameB; simp; omega
      have h32' : (32 : Int) < (s.size : Int) := by omega
      go_enter Tryd.func37, Tryd.ntmps37
      go_wp2
      go_ret
      exact ⟨ret_bool HN.out.symm, Below.refl _ _⟩
    · go_enter Tryd.func37, Tryd.ntmps37
      go_wp2
      go_loopw [3] (fun _ w' => ∃ pos : Nat, pos ≤ s.size ∧ w' = w.iter s pos ∧ Hid (∀ j (hj : j < s.size), j < pos → letterB (s.data.toList[j]'hj) = true ∨ (j ≠ 0 ∧ moreB (s.data.toList[j]'hj) = true))) (fun _ w' => s.size - w'.iterPos w.heap.size)
      case atStart => exact ⟨0, Nat.zero_le _, rfl, fun j hj h => by omega⟩
      case round =>
        obtain ⟨pos, hpos, rfl, hok⟩ := hrel
        by_cases hp : pos < s.size
        · by_cases ha : (s.data.toList[pos]'hp).toNat < 128
          · have hnx : ∀ ty, (Instr.next (.pointer (some ⟨w.heap.size, 0, none⟩)) true ty).run Tryd.prog (w.iter s pos) = _ := fun ty => run_next_ascii w s pos ty hp ha
            have e1 : opensB ((s[pos]'hp).toNat : Int) = letterB (s.data.toList[pos]'hp) := opensB_byte _
            have e2 : followsB ((s[pos]'hp).toNat : Int) = moreB (s.data.toList[pos]'hp) := followsB_byte _
            cases hL : letterB (s.data.toList[pos]'hp) with
            | true =>
              have HL : Hid (letterB (s.data.toList[pos]'hp) = true) := hL
              rw [hL] at e1
              clear hL e2
              go_wp2_with (first | (go_at_call 52; refine (opens_any _ _).mono ?_; rintro e w' ⟨rfl, rfl⟩) | (go_at_call 53; refine (follows_any _ _).mono ?_; rintro e w' ⟨rfl, rfl⟩))
              go_roundw
              case rel =>
                refine ⟨pos + 1, by omega, rfl, fun j hj h => ?_⟩
                rcases Nat.lt_or_ge j pos with h' | h'
                · exact hok.out j hj h'
                · have : j = pos := by omega
                  subst this; exact Or.inl HL.out
              case measure => simp; omega
            | false =>
              have HL : Hid (letterB (s.data.toList[pos]'hp) = false) := hL
              rw [hL] at e1
              clear hL
              by_cases hz : pos = 0
              · have hzb : ((pos : Int) == 0) = true := by rw [beq_iff_eq]; omega
                have HN : Hid (nameB s.data.toList = false) := nameB_no pos hp HL.out (Or.inl hz)
                clear e2 hz
                go_wp2_with (first | (go_at_call 52; refine (opens_any _ _).mono ?_; rintro e w' ⟨rfl, rfl⟩) | (go_at_call 53; refine (follows_any _ _).mono ?_; rintro e w' ⟨rfl, rfl⟩))
                go_ret
                exact ⟨ret_bool HN.out.symm, iter_below _ _ _⟩
              · have hzb : ((pos : Int) == 0) = false := by rw [beq_eq_false_iff_ne]; omega
                cases hM : moreB (s.data.toList[pos]'hp) with
                | true =>
                  have HM : Hid (pos ≠ 0 ∧ moreB (s.data.toList[pos]'hp) = true) := ⟨hz, hM⟩
                  rw [hM] at e2
                  clear hM hz
                  go_wp2_with (first | (go_at_call 52; refine (opens_any _ _).mono ?_; rintro e w' ⟨rfl, rfl⟩) | (go_at_call 53; refine (follows_any _ _).mono ?_; rintro e w' ⟨rfl, rfl⟩))
                  go_roundw
                  case rel =>
                    refine ⟨pos + 1, by omega, rfl, fun j hj h => ?_⟩
                    rcases Nat.lt_or_ge j pos with h' | h'
                    · exact hok.out j hj h'
                    · have : j = pos := by omega
                      subst this; exact Or.inr HM.out
                  case measure => simp; omega
                | false =>
                  have HN : Hid (nameB s.data.toList = false) := nameB_no pos hp HL.out (Or.inr hM)
                  rw [hM] at e2
                  clear hM hz
                  go_wp2_with (first | (go_at_call 52; refine (opens_any _ _).mono ?_; rintro e w' ⟨rfl, rfl⟩) | (go_at_call 53; refine (follows_any _ _).mono ?_; rintro e w' ⟨rfl, rfl⟩))
                  go_ret
                  exact ⟨ret_bool HN.out.symm, iter_below _ _ _⟩
          · have hnx : ∀ ty, (Instr.next (.pointer (some ⟨w.heap.size, 0, none⟩)) true ty).run Tryd.prog (w.iter s pos) = _ := fun ty => run_next_any w s pos ty hp
            have hhi := decode_high s pos hp (by exact Nat.le_of_not_lt ha)
            have e1 : opensB ((Utf8.decode s pos).1 : Int) = false := opensB_high _ (by omega)
            have e2 : followsB ((Utf8.decode s pos).1 : Int) = false := followsB_high _ (by omega)
            have HN : Hid (nameB s.data.toList = false) := by
              have g1 : letterB (s.data.toList[pos]'hp) = false := letterB_high _ (by omega)
              have g2 : moreB (s.data.toList[pos]'hp) = false := moreB_high _ (by omega)
              exact nameB_no pos hp g1 (Or.inr g2)
            by_cases hz : pos = 0
            · have hzb : ((pos : Int) == 0) = true := by rw [beq_iff_eq]; omega
              clear e2 hz
              go_wp2_with (first | (go_at_call 52; refine (opens_any _ _).mono ?_; rintro e w' ⟨rfl, rfl⟩) | (go_at_call 53; refine (follows_any _ _).mono ?_; rintro e w' ⟨rfl, rfl⟩))
              go_ret
              exact ⟨ret_bool HN.out.symm, iter_below _ _ _⟩
            · have hzb : ((pos : Int) == 0) = false := by rw [beq_eq_false_iff_ne]; omega
              clear hz
              go_wp2_with (first | (go_at_call 52; refine (opens_any _ _).mono ?_; rintro e w' ⟨rfl, rfl⟩) | (go_at_call 53; refine (follows_any _ _).mono ?_; rintro e w' ⟨rfl, rfl⟩))
              go_ret
              exact ⟨ret_bool HN.out.symm, iter_below _ _ _⟩
        · have hnx : ∀ ty, (Instr.next (.pointer (some ⟨w.heap.size, 0, none⟩)) true ty).run Tryd.prog (w.iter s pos) = _ := fun ty => run_next_end w s pos ty hp
          have HN : Hid (nameB s.data.toList = true) := by
            have g := (wordB_iff s.data.toList).2 (fun j hj => hok.out j hj (Nat.lt_of_lt_of_le hj (Nat.le_of_not_lt hp)))
            have : s.data.toList.length = s.size := rfl
            show nameB s.data.toList = true
            unfold nameB; rw [g]; simp; omega
          go_wp2
          go_ret
          exact ⟨ret_bool HN.out.symm, iter_below _ _ _⟩
end Nm
end Go.Proofs.YtbgggekkkcefcabDoor
