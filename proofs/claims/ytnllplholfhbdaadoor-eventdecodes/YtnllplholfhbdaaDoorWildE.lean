import Derived.Test.YtnllplholfhbdaaDoorEvP
/- The program's own way of reading: a number that doesn't fit comes out below 0, where no field may be. No program is named here. -/
namespace Go.Proofs.YtnllplholfhbdaaDoor
open Go.RowKit
namespace Ev
namespace Pe
open Pk
set_option linter.unusedVariables false
set_option linter.unusedSimpArgs false

/-- A number of 64 bits as an int; as the document takes it. -/
def asI (n : Nat) : Int := if 9223372036854775807 < n then (n : Int) - 18446744073709551616 else n

def clip (n : Nat) : Int := if 9223372036854775807 < n then 0 else n

/-- What is left, and the error: the number that is taken next, the text, and what is left behind them. -/
def N (s : List UInt8 × Nat) : Nat := (numT ⟨s.1, s.2, false⟩).1
def M (s : List UInt8 × Nat) : List UInt8 × Nat := ((numT ⟨s.1, s.2, false⟩).2.left, (numT ⟨s.1, s.2, false⟩).2.no)
def X (s : List UInt8 × Nat) : List UInt8 := (txtT ⟨s.1, s.2, false⟩).1
def Y (s : List UInt8 × Nat) : List UInt8 × Nat := ((txtT ⟨s.1, s.2, false⟩).2.left, (txtT ⟨s.1, s.2, false⟩).2.no)

theorem num_g (s : List UInt8 × Nat) (g : Bool) : numT ⟨s.1, s.2, g⟩ = (N s, ⟨(M s).1, (M s).2, g⟩) := by
  unfold N M numT
  simp only
  split
  · rfl
  · split
    · rfl
    · rfl

theorem txt_g (s : List UInt8 × Nat) (g : Bool) : txtT ⟨s.1, s.2, g⟩ = (X s, ⟨(Y s).1, (Y s).2, g⟩) := by
  unfold X Y txtT
  simp only
  split
  · rfl
  · split
    · rfl
    · rfl

theorem int_g (s : List UInt8 × Nat) (g : Bool) : intT ⟨s.1, s.2, g⟩ = (clip (N s), ⟨(M s).1, (M s).2, g || decide (9223372036854775807 < N s)⟩) := by
  unfold intT clip
  rw [num_g]
  simp only
  split
  · rename_i h
    simp [h]
  · rename_i h
    simp [h]

theorem N_lt (s : List UInt8 × Nat) : N s < 18446744073709551616 := by
  unfold N numT
  split
  · exact (by decide : 0 < 18446744073709551616)
  · split
    · exact (by decide : 0 < 18446744073709551616)
    · rename_i h0 h
      simp only at h ⊢
      have hn : (num s.1).2.2 = 0 := by
        by_cases h1 : (num s.1).2.2 = 0
        · exact h1
        · exact absurd h1 h
      exact (num_back s.1 (num s.1).1 (num s.1).2.1 (by rw [← hn])).1

/-- What the reader tells and keeps is what is taken. -/
theorem num_ok (l : List UInt8) : N (l, 0) = (num l).1 ∧ M (l, 0) = (l.drop (num l).2.1, (num l).2.2) := by
  unfold N M numT
  simp only
  rw [if_neg (by simp)]
  rcases numG_no 10 0 0 l with h | ⟨h1, h2, h3⟩
  · have h' : (num l).2.2 = 0 := h
    rw [if_neg (by simp [h'])]
    simp [h']
  · have h1' : (num l).1 = 0 := h1
    have h2' : (num l).2.1 = 0 := h2
    have h3' : (num l).2.2 ≠ 0 := by
      show (numG 10 0 0 l).2.2 ≠ 0
      omega
    rw [if_pos h3']
    simp [h1', h2']

theorem txt_ok (l : List UInt8) : X (l, 0) = (taken l 32).1 ∧ Y (l, 0) = (l.drop (taken l 32).2.1, (taken l 32).2.2) := by
  have hno : (taken l 32).2.2 = 0 ∨ ((taken l 32).1 = [] ∧ (taken l 32).2.1 = 0 ∧ (taken l 32).2.2 ≠ 0) := by
    unfold taken
    split
    · rename_i h
      exact .inr ⟨rfl, rfl, by simpa using h⟩
    · split
      · exact .inr ⟨rfl, rfl, by decide⟩
      · split
        · exact .inr ⟨rfl, rfl, by decide⟩
        · exact .inl rfl
  unfold X Y txtT
  simp only
  rw [if_neg (by simp)]
  rcases hno with h | ⟨h1, h2, h3⟩
  · rw [if_neg (by simp [h])]
    simp [h]
  · rw [if_pos h3]
    simp [h1, h2]

theorem num_stuck (l : List UInt8) (no : Nat) (h : no ≠ 0) : N (l, no) = 0 ∧ M (l, no) = (l, no) := by
  unfold N M
  rw [numT_stuck l no false h]
  exact ⟨rfl, rfl⟩

theorem txt_stuck (l : List UInt8) (no : Nat) (h : no ≠ 0) : X (l, no) = [] ∧ Y (l, no) = (l, no) := by
  unfold X Y
  rw [txtT_stuck l no false h]
  exact ⟨rfl, rfl⟩

/-- A birth, as the program reads it. -/
def wildS (s : List UInt8 × Nat) : Sn :=
  ⟨asI (N s), asI (N (M s)), asI (N (M (M s))), asI (N (M (M (M s)))), asI (N (M (M (M (M s))))), X (M (M (M (M (M s))))), X (Y (M (M (M (M (M s)))))), (N (Y (Y (M (M (M (M (M s))))))) : Nat), asI (N (M (Y (Y (M (M (M (M (M s))))))))), asI (N (M (M (Y (Y (M (M (M (M (M s)))))))))), asI (N (M (M (M (Y (Y (M (M (M (M (M s))))))))))), asI (N (M (M (M (M (Y (Y (M (M (M (M (M s)))))))))))) ⟩

def wildM (s : List UInt8 × Nat) : List UInt8 × Nat := M (M (M (M (M (Y (Y (M (M (M (M (M s)))))))))))

/-- What the program tells at the end. -/
def tell (e : Evt) (s : List UInt8 × Nat) : Evt × Nat :=
  if s.2 ≠ 0 then (Evt.zero, s.2) else if s.1 ≠ [] then (Evt.zero, 3) else if mayE e then (e, 0) else (Evt.zero, 1)

theorem asI_clip (n : Nat) (h : ¬ 9223372036854775807 < n) : asI n = clip n := by rw [asI, clip, if_neg h, if_neg h]

theorem asI_pos (n : Nat) (hl : n < 18446744073709551616) (h : 0 ≤ asI n) : ¬ 9223372036854775807 < n := by
  intro hn
  rw [asI, if_pos hn] at h
  omega

theorem end_big (e : Evt) (s : List UInt8 × Nat) (g : Bool) (e' : Evt) (hb : g = false → e = e') (ht : g = true → mayE e' = false) : endT (e, ⟨s.1, s.2, g⟩) = tell e' s := by
  unfold endT tell
  simp only
  split
  · rfl
  · split
    · rfl
    · cases g with
      | true => simp [ht rfl]
      | false =>
        rw [hb rfl]
        cases mayE e' <;> simp

seal M N X Y clip asI

theorem born_wild (s : List UInt8 × Nat) : endT (⟨0, (bornT ⟨s.1, s.2, false⟩).1, 0, 0⟩, (bornT ⟨s.1, s.2, false⟩).2) = tell ⟨0, wildS s, 0, 0⟩ (wildM s) := by
  unfold bornT
  simp only [int_g, num_g, txt_g]
  refine end_big _ (wildM s) _ _ ?_ ?_
  · intro h
    simp only [Bool.or_eq_false_iff, decide_eq_false_iff_not, Bool.false_or] at h
    obtain ⟨⟨⟨⟨⟨⟨⟨⟨h1, h2⟩, h3⟩, h4⟩, h5⟩, h6⟩, h7⟩, h8⟩, h9⟩ := h
    unfold wildS
    rw [asI_clip _ h1, asI_clip _ h2, asI_clip _ h3, asI_clip _ h4, asI_clip _ h5, asI_clip _ h6, asI_clip _ h7, asI_clip _ h8, asI_clip _ h9]
  · intro h
    by_cases hm : mayE ⟨0, wildS s, 0, 0⟩ = true
    · exfalso
      have hs : mayS (wildS s) = true := by
        unfold mayE at hm
        simpa using hm
      have ok := mayS_ok _ hs ⟨Int.natCast_nonneg _, by have := N_lt (Y (Y (M (M (M (M (M s))))))); exact Int.ofNat_lt.2 this⟩
      have h1 := asI_pos _ (N_lt _) ok.slot.1
      have h2 := asI_pos _ (N_lt _) ok.birth.1
      have h3 := asI_pos _ (N_lt _) ok.us.1
      have h4 := asI_pos _ (N_lt _) ok.ub.1
      have h5 := asI_pos _ (N_lt _) ok.kind.1
      have h6 := asI_pos _ (N_lt _) ok.level.1
      have h7 := asI_pos _ (N_lt _) ok.born.1
      have h8 := asI_pos _ (N_lt _) ok.deadline.1
      have h9 := asI_pos _ (N_lt _) ok.depth.1
      simp [h1, h2, h3, h4, h5, h6, h7, h8, h9] at h
    · simpa using hm

theorem one_wild (s : List UInt8 × Nat) : endT (⟨1, Sn.zero, (intT ⟨s.1, s.2, false⟩).1, 0⟩, (intT ⟨s.1, s.2, false⟩).2) = tell ⟨1, Sn.zero, asI (N s), 0⟩ (M s) := by
  rw [int_g]
  refine end_big _ (M s) _ _ ?_ ?_
  · intro h
    simp only [decide_eq_false_iff_not, Bool.false_or] at h
    rw [asI_clip _ h]
  · intro h
    simp only [Bool.false_or, decide_eq_true_eq] at h
    have hl := N_lt s
    have hn : asI (N s) < 0 := by
      rw [asI, if_pos h]
      omega
    unfold mayE
    simp only
    rw [if_neg (by decide), if_pos trivial]
    have : inI (asI (N s)) 1 1048576 = false := by
      rw [Bool.eq_false_iff, ne_eq, inI_iff]
      omega
    rw [this]
    simp

theorem two_wild (s : List UInt8 × Nat) : endT (⟨2, Sn.zero, 0, (intT ⟨s.1, s.2, false⟩).1⟩, (intT ⟨s.1, s.2, false⟩).2) = tell ⟨2, Sn.zero, 0, asI (N s)⟩ (M s) := by
  rw [int_g]
  refine end_big _ (M s) _ _ ?_ ?_
  · intro h
    simp only [decide_eq_false_iff_not, Bool.false_or] at h
    rw [asI_clip _ h]
  · intro h
    simp only [Bool.false_or, decide_eq_true_eq] at h
    have hl := N_lt s
    have hn : asI (N s) < 0 := by
      rw [asI, if_pos h]
      omega
    unfold mayE
    simp only
    rw [if_neg (by decide), if_neg (by decide), if_pos trivial]
    have : inI (asI (N s)) 1 1073741824 = false := by
      rw [Bool.eq_false_iff, ne_eq, inI_iff]
      omega
    rw [this]
    simp

unseal M N X Y clip asI

/-- What a row tells, as the program reads it: the kind, and what stands behind it. -/
def happT (b : List UInt8) : Evt × (List UInt8 × Nat) :=
  if N (b, 0) = 0 then (⟨0, wildS (M (b, 0)), 0, 0⟩, wildM (M (b, 0)))
  else if N (b, 0) = 1 then (⟨1, Sn.zero, asI (N (M (b, 0))), 0⟩, M (M (b, 0)))
  else if N (b, 0) = 2 then (⟨2, Sn.zero, 0, asI (N (M (b, 0)))⟩, M (M (b, 0)))
  else (Evt.zero, ((M (b, 0)).1, 1))

theorem M_keep (s : List UInt8 × Nat) (h : s.2 ≠ 0) : M s = s := (num_stuck s.1 s.2 h).2

theorem Y_keep (s : List UInt8 × Nat) (h : s.2 ≠ 0) : Y s = s := (txt_stuck s.1 s.2 h).2

theorem wild_keep (s : List UInt8 × Nat) (h : s.2 ≠ 0) : wildM s = s := by
  unfold wildM
  simp only [M_keep s h, Y_keep s h]

theorem dec_wild (b : List UInt8) : decE b = tell (happT b).1 (happT b).2 := by
  unfold decE
  rw [show numT ⟨b, 0, false⟩ = (N (b, 0), ⟨(M (b, 0)).1, (M (b, 0)).2, false⟩) from num_g (b, 0) false]
  simp only
  by_cases h : (M (b, 0)).2 ≠ 0
  · rw [if_pos h]
    have hN : N (b, 0) = 0 := by
      have := num_ok b
      rw [this.2] at h
      rcases numG_no 10 0 0 b with h' | ⟨h1, h2, h3⟩
      · exact absurd h' h
      · rw [this.1]
        exact h1
    unfold happT
    rw [if_pos hN]
    simp only
    rw [wild_keep _ h, tell, if_pos h]
  · rw [if_neg h]
    by_cases h2 : 2 < N (b, 0)
    · rw [if_pos h2]
      unfold happT
      rw [if_neg (by omega), if_neg (by omega), if_neg (by omega)]
      rfl
    · rw [if_neg h2]
      unfold happT restT
      by_cases k0 : N (b, 0) = 0
      · rw [if_pos k0, if_pos k0]
        exact born_wild _
      · rw [if_neg k0, if_neg k0]
        by_cases k1 : N (b, 0) = 1
        · rw [if_pos k1, if_pos k1]
          exact one_wild _
        · rw [if_neg k1, if_neg k1, if_pos (by omega)]
          exact two_wild _
end Pe
end Ev
end Go.Proofs.YtnllplholfhbdaaDoor
