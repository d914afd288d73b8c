import Derived.Test.YthabnombfbehkaaRgP
/- Links that are turned one by one, in any order. No program is named here. -/
namespace Go.Proofs.Ythabnombfbehkaa
set_option linter.ambiguousOpen false
open Go.RowKit
namespace Rg
open An
set_option linter.unusedSimpArgs false
set_option linter.unusedVariables false

/-- Both links of a slot. -/
def both (S : List Slt) (i p n : Int) : List Slt := S.set i.toNat { S.getD i.toNat bare with prev := p, next := n }

theorem both_len (S : List Slt) (i p n : Int) : (both S i p n).length = S.length := by simp [both]

theorem getD_set_ne {S : List Slt} {i j : Nat} (x : Slt) (h : j ≠ i) : (S.set i x).getD j bare = S.getD j bare := by
  rw [List.getD_eq_getElem?_getD, List.getD_eq_getElem?_getD, List.getElem?_set, if_neg (fun e => h e.symm)]

theorem getD_set_eq {S : List Slt} {i : Nat} (x : Slt) (h : i < S.length) : (S.set i x).getD i bare = x := by
  rw [List.getD_eq_getElem?_getD, List.getElem?_set, if_pos rfl, if_pos h]
  rfl

theorem setN_setN (S : List Slt) (i j p n : Int) (hi : there i) (hj : there j) (h : i ≠ j) : setN (setN S i p) j n = setN (setN S j n) i p := by
  have h' : i.toNat ≠ j.toNat := by omega
  unfold setN
  rw [getD_set_ne _ (fun e => h' e.symm), getD_set_ne _ h', List.set_comm _ _ h']

theorem both_next (S : List Slt) (i n : Int) : both S i (pv S i) n = setN S i n := rfl

theorem both_prev (S : List Slt) (i p : Int) : both S i p (nx S i) = setP S i p := rfl

section
variable {S : List Slt} (hl : S.length = 32)
include hl

theorem setN_setP (i j p n : Int) (hi : there i) (hj : there j) : setN (setP S i p) j n = setP (setN S j n) i p := by
  unfold setN setP
  by_cases h : i.toNat = j.toNat
  · rw [h, getD_set_eq _ (by omega), getD_set_eq _ (by omega), List.set_set, List.set_set]
  · rw [getD_set_ne _ (fun e => h e.symm), getD_set_ne _ h, List.set_comm _ _ h]

theorem both_eq (i p n : Int) (hi : there i) : both S i p n = setN (setP S i p) i n := by
  unfold both setN setP
  rw [getD_set_eq _ (by omega), List.set_set]

/-- A slot that is alone. -/
theorem both_self (i : Int) (hi : there i) : both S i i i = link S i i := by
  rw [both_eq hl i i i hi, setN_setP hl i i i i hi hi]
  rfl

/-- A slot behind the last one. -/
theorem both_push (i last first : Int) (hi : there i) (hla : there last) (hne : i ≠ last) : setP (setN (both S i last first) last i) first i = link (link S last i) i first := by
  rw [both_eq hl i last first hi]
  unfold link
  have h1 : (setP S i last).length = 32 := by rw [setP_len, hl]
  rw [setN_setN _ i last first i hi hla hne, setN_setP hl i last last i hi hla]
end

/-- What a slot's links are; those of what is no slot. -/
def pvN (S : List Slt) (i : Int) : Int := if there i then pv S i else -1

def nxN (S : List Slt) (i : Int) : Int := if there i then nx S i else -1

theorem pvN_in {S : List Slt} {i : Int} (h : there i) : pvN S i = pv S i := if_pos h

theorem nxN_in {S : List Slt} {i : Int} (h : there i) : nxN S i = nx S i := if_pos h

theorem well_back {S : List Slt} {i : Int} (hi : there i) : well S i ↔ (pvN S (nxN S i) = i ∧ nxN S (pvN S i) = i) := by
  rw [nxN_in hi, pvN_in hi]
  unfold well pvN nxN
  constructor
  · rintro ⟨_, h2, h3, h4, h5⟩
    rw [if_pos h3, if_pos h2]
    exact ⟨h5, h4⟩
  · rintro ⟨h1, h2⟩
    have h3 : there (nx S i) := by
      by_cases h : there (nx S i)
      · exact h
      · rw [if_neg h] at h1
        omega
    have h4 : there (pv S i) := by
      by_cases h : there (pv S i)
      · exact h
      · rw [if_neg h] at h2
        omega
    rw [if_pos h3] at h1
    rw [if_pos h4] at h2
    exact ⟨hi, h4, h3, h2, h1⟩
end Rg
end Go.Proofs.Ythabnombfbehkaa
