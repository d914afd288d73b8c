/- Plain facts: what is printed is read as it was. -/
import Derived.Test.YtmgddocninihoabDoorPrint
import Derived.Test.YtmgddocninihoabDoorParse
namespace Go.Proofs.YtmgddocninihoabDoor
set_option linter.ambiguousOpen false
open Nm
namespace Sc
set_option linter.unusedSimpArgs false
set_option linter.unusedVariables false

/-- A byte of a dotted name. -/
def okB (c : UInt8) : Bool := innerB c || c == 46
theorem inner_of_name {q : List UInt8} (h : nameB q = true) : ∀ c ∈ q, innerB c = true := by
  cases q with
  | nil => intro c hc; simp at hc
  | cons a r =>
    simp only [nameB, wordB, Bool.and_eq_true, List.all_eq_true] at h
    intro c hc
    rcases List.mem_cons.1 hc with rfl | hc
    · simp [innerB, h.2.1]
    · exact h.2.2 c hc

theorem ok_of_pieces : ∀ l : List UInt8, (∀ q ∈ pieces l, ∀ c ∈ q, innerB c = true) → ∀ c ∈ l, okB c = true
  | [], _, c, hc => by simp at hc
  | a :: l, h, c, hc => by
    by_cases ha : a = 46
    · subst ha
      rw [pieces_dot] at h
      rcases List.mem_cons.1 hc with rfl | hc
      · rfl
      · exact ok_of_pieces l (fun q hq => h q (List.mem_cons_of_mem _ hq)) c hc
    · rw [pieces_nodot ha] at h
      have h0 : ∀ q ∈ pieces l, ∀ c ∈ q, innerB c = true := by
        cases hp : pieces l with
        | nil => exact absurd hp (pieces_ne l)
        | cons x y =>
          rw [hp] at h
          intro q hq c hc
          rcases List.mem_cons.1 hq with rfl | hq
          · exact h (a :: q) (by simp) c (List.mem_cons_of_mem _ hc)
          · exact h q (by simp [hq]) c hc
      rcases List.mem_cons.1 hc with rfl | hc
      · have := h (c :: (pieces l).headD []) (by simp) c (by simp)
        simp [okB, this]
      · exact ok_of_pieces l h0 c hc

theorem dotted_bytes {p : List UInt8} (h : dottedB p = true) : ∀ c ∈ p, okB c = true := by
  have h2 : (pieces p).all nameB = true := by simp only [dottedB, dotN, Bool.and_eq_true] at h; exact h.2
  exact ok_of_pieces p (fun q hq => inner_of_name (List.all_eq_true.1 h2 q hq))

theorem ok_ne {c : UInt8} (h : okB c = true) : c ≠ 32 ∧ c ≠ 42 := by
  constructor
  · rintro rfl; revert h; decide
  · rintro rfl; revert h; decide

theorem dotted_ne {p : List UInt8} (h : dottedB p = true) : p ≠ [] := by
  rintro rfl
  revert h; decide

/-- A dotted name as a word. -/
theorem read_name {l : List (List UInt8)} (hn : l.Nodup) (hd : ∀ p ∈ l, dottedB p = true) (h64 : l.length ≤ 64) {i : Nat} (hi : i < l.length) : readG l l[i] = (Bt.pw i, 0) := by
  have hb := dotted_bytes (hd _ (List.getElem_mem hi))
  have h42 : l[i] ≠ [42] := fun e => (ok_ne (hb 42 (by rw [e]; simp))).2 rfl
  have hst : starred l[i] = false := by
    unfold starred Lib.hasSuffix
    cases hs : [46, 42].isSuffixOf l[i] with
    | false => rfl
    | true =>
      have := List.isSuffixOf_iff_suffix.1 hs
      exact absurd rfl (ok_ne (hb 42 (this.subset (by simp)))).2
  have hbr : bare l[i] = l[i] := by
    unfold bare Lib.trimSuffix
    have : Lib.hasSuffix l[i] [46, 42] = false := hst
    rw [this]; simp
  have hz : Bt.pw i ≠ 0 := Nat.ne_of_gt (Nat.pow_pos (by decide))
  unfold readG
  rw [if_neg h42, hbr, hd _ (List.getElem_mem hi), hst]
  simp [named_in hn hi, hz]

theorem hb_name {p r : List UInt8} (h : ∀ c ∈ p, okB c = true) : hb (p ++ 32 :: r) = p ∧ hb p = p := by
  have hall : ∀ x ∈ p, (x != 32) = true := fun x hx => by have := (ok_ne (h x hx)).1; simpa using this
  constructor
  · unfold hb
    rw [List.takeWhile_append_of_pos hall]; simp
  · have := List.takeWhile_append_of_pos (l₂ := []) hall
    simpa [hb] using this

theorem words_last {p : List UInt8} (h : ∀ c ∈ p, okB c = true) (h0 : p ≠ []) (k : Nat) : wordsL k p = [(k, p)] := by
  rw [wordsL_step k p h0, (hb_name (r := []) h).2, if_neg h0]
  have : p.drop (p.length + 1) = [] := List.drop_eq_nil_of_le (by omega)
  rw [this, wordsL_nil]; rfl
theorem words_next {p r : List UInt8} (h : ∀ c ∈ p, okB c = true) (h0 : p ≠ []) (k : Nat) : wordsL k (p ++ 32 :: r) = (k, p) :: wordsL (k + p.length + 1) r := by
  rw [wordsL_step k _ (by simp), (hb_name h).1, if_neg h0]
  have : (p ++ 32 :: r).drop (p.length + 1) = r := by
    rw [List.drop_append]
    simp
  rw [this]; rfl

/-- The names behind the first, each with a blank ahead. -/
def tailP (l : List (List UInt8)) : List Nat → List UInt8
  | [] => []
  | i :: r => 32 :: (l.getD i [] ++ tailP l r)

theorem outP_tail (l : List (List UInt8)) : ∀ (ns : List Nat) (acc : List UInt8), acc ≠ [] → ns.foldl (fun acc i => addP acc (l.getD i [])) acc = acc ++ tailP l ns
  | [], acc, _ => by simp [tailP]
  | i :: r, acc, h => by
    simp only [List.foldl_cons, tailP]
    rw [outP_tail l r _ (by simp [addP, h])]
    simp [addP, h]

theorem outP_cons (l : List (List UInt8)) (i : Nat) (r : List Nat) (h : l.getD i [] ≠ []) : outP l (i :: r) = l.getD i [] ++ tailP l r := by
  simp only [outP, List.foldl_cons]
  have : addP [] (l.getD i []) = l.getD i [] := by simp [addP]
  rw [this, outP_tail l r _ h]

/-- Some numbers as a set. -/
def setN (s : Nat) (ns : List Nat) : Nat := ns.foldl (fun s i => s ||| Bt.pw i) s

theorem parse_names {l : List (List UInt8)} (hn : l.Nodup) (hd : ∀ p ∈ l, dottedB p = true) (h64 : l.length ≤ 64) : ∀ (r : List Nat) (i k s : Nat), i < l.length → (∀ j ∈ r, j < l.length) →
    parseG l s (wordsL k (l.getD i [] ++ tailP l r)) = (setN s (i :: r), 0, 0)
  | [], i, k, s, hi, _ => by
    have hb := dotted_bytes (hd _ (List.getElem_mem hi))
    have h0 := dotted_ne (hd _ (List.getElem_mem hi))
    rw [getD_at l i hi]
    simp only [tailP, List.append_nil]
    rw [words_last hb h0]
    simp only [parseG, read_name hn hd h64 hi]
    simp [setN]
  | j :: r, i, k, s, hi, hr => by
    have hb := dotted_bytes (hd _ (List.getElem_mem hi))
    have h0 := dotted_ne (hd _ (List.getElem_mem hi))
    rw [getD_at l i hi]
    simp only [tailP]
    rw [words_next hb h0]
    simp only [parseG, read_name hn hd h64 hi]
    rw [if_pos trivial, parse_names hn hd h64 r j _ _ (hr j (by simp)) (fun x hx => hr x (by simp [hx]))]
    simp [setN]

theorem setN_bit (ns : List Nat) : ∀ (s i : Nat), (setN s ns).testBit i = (s.testBit i || decide (i ∈ ns)) := by
  induction ns with
  | nil => intro s i; simp [setN]
  | cons a r ih =>
    intro s i
    have : setN s (a :: r) = setN (s ||| Bt.pw a) r := rfl
    rw [this, ih, Nat.testBit_or]
    simp only [Bt.pw, Nat.testBit_two_pow]
    by_cases h : i = a
    · subst h; simp
    · have h2 : ¬ a = i := fun e => h e.symm
      simp [h, h2]

theorem setN_nums (s : Nat) (hs : s < 18446744073709551616) : setN 0 (Bt.numsL s 64) = s := by
  refine Nat.eq_of_testBit_eq fun i => ?_
  rw [setN_bit]
  simp only [Nat.zero_testBit, Bool.false_or, Bt.numsL_mem]
  rcases Nat.lt_or_ge i 64 with h | h
  · cases hb : s.testBit i <;> simp [h]
  · have : s.testBit i = false := Nat.testBit_lt_two_pow (Nat.lt_of_lt_of_le hs (Nat.pow_le_pow_right (n := 2) (by decide) h))
    rw [this]; simp

/-- What is printed is read as it was. -/
theorem parse_print {l : List (List UInt8)} (hn : l.Nodup) (hd : ∀ p ∈ l, dottedB p = true) (h64 : l.length ≤ 64) (s : Nat) (hs : s < 18446744073709551616) (hw : Bt.less s (allS l.length) = 0) :
    parseG l 0 (wordsL 0 (printL l s)) = (s, 0, 0) := by
  have hmem : ∀ j ∈ Bt.numsL s 64, j < l.length := fun j hj => by
    obtain ⟨h1, h2⟩ := Bt.numsL_mem.1 hj
    exact within_lt hw hs h64 h1 h2
  have key := setN_nums s hs
  unfold printL
  cases hns : Bt.numsL s 64 with
  | nil =>
    rw [hns] at key
    have : outP l [] = [] := rfl
    rw [this, wordsL_nil]
    simpa [parseG, setN] using key
  | cons i r =>
    rw [hns] at key hmem
    have hi := hmem i (by simp)
    have h0 : l.getD i [] ≠ [] := by rw [getD_at l i hi]; exact dotted_ne (hd _ (List.getElem_mem hi))
    rw [outP_cons l i r h0, parse_names hn hd h64 r i 0 0 hi (fun j hj => hmem j (by simp [hj])), key]

theorem readG_bits (l : List (List UInt8)) (h : List UInt8) (i : Nat) (hb : (readG l h).1.testBit i = true) : i < l.length := by
  have hA : (allS l.length).testBit i = true → i < l.length := fun h => by simpa [allS, Nat.testBit_two_pow_sub_one] using h
  have hN : ∀ p, (namedS l p).testBit i = true → i < l.length := fun p h => by rw [namedS, mask_bit] at h; simp at h; exact h.1
  have hL : ∀ p, (belowS l p).testBit i = true → i < l.length := fun p h => by rw [belowS, mask_bit] at h; simp at h; exact h.1
  have hx : (if starred h then belowS l (bare h) else namedS l (bare h)).testBit i = true → i < l.length := by
    split
    · exact hL _
    · exact hN _
  unfold readG at hb
  generalize (if starred h then belowS l (bare h) else namedS l (bare h)) = x at *
  split at hb
  · exact hA hb
  · split at hb
    · simp at hb
    · split at hb
      · simp at hb
      · exact hx hb

theorem parseG_bits (l : List (List UInt8)) (i : Nat) : ∀ (r : List (Nat × List UInt8)) (s : Nat), (s.testBit i = true → i < l.length) → (parseG l s r).1.testBit i = true → i < l.length
  | [], s, h, hb => h hb
  | x :: r, s, h, hb => by
    simp only [parseG] at hb
    split at hb
    · refine parseG_bits l i r _ (fun h2 => ?_) hb
      rw [Nat.testBit_or, Bool.or_eq_true] at h2
      rcases h2 with h2 | h2
      · exact h h2
      · exact readG_bits l x.2 i h2
    · simp at hb

theorem parse_within (l : List (List UInt8)) (h64 : l.length ≤ 64) (r : List (Nat × List UInt8)) : Bt.less (parseG l 0 r).1 (allS l.length) = 0 := by
  refine (Bt.less_zero (parseG_lt l h64 r 0 (by decide)) (allS_lt _ h64)).2 fun i hi => ?_
  have := parseG_bits l i r 0 (by simp) hi
  simpa [allS, Nat.testBit_two_pow_sub_one] using this
end Sc
end Go.Proofs.YtmgddocninihoabDoor
