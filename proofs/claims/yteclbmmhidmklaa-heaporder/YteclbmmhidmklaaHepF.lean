/- What one act does to both heaps. -/
import Derived.Test.YteclbmmhidmklaaHepE
namespace Go.Proofs.Yteclbmmhidmklaa
set_option linter.ambiguousOpen false
open Go.RowKit
namespace Hh
open Ft
set_option linter.unusedSimpArgs false
set_option linter.unusedVariables false
attribute [local go_sem] Oper.semAt_some

@[reducible] def I64 (x : Int) : Prop := -9223372036854775808 ≤ x ∧ x ≤ 9223372036854775807

theorem ret_nuH {a b : Int} (h : a = b) : Ending.returned (nu a) = Ending.returned (nu b) := by rw [h]

theorem pickH (k : Int) (n : Nat) (w : World) (hn : 0 < n) (hn2 : n ≤ 4611686018427387904) (hk : -9223372036854775808 ≤ k ∧ k ≤ 9223372036854775807) :
    Calls Try.prog 15 #[nu k, nu n] w fun e w' => e = .returned (nu (k % (n : Int))) ∧ w' = w := by
  have d1 : (decide ((n : Int) < 1)) = false := by simp; omega
  have e1 := Int.emod_add_mul_ediv k n
  have e2 := Int.emod_nonneg k (b := (n : Int)) (by omega)
  have e3 := Int.emod_lt_of_pos k (b := (n : Int)) (by omega)
  have te : k.tmod n = k % (n : Int) ∨ k.tmod n = k % (n : Int) - n := by
    rw [Int.tmod_eq_emod]
    split
    · left; omega
    · right; simp
  clear e1
  by_cases h : k.tmod n < 0
  · have HT : Hid (k.tmod n + n = k % (n : Int)) := by
      show _ = _
      omega
    have b1 : -(n : Int) ≤ k.tmod n := by omega
    clear te e2 e3
    go_enter Try.func15, Try.ntmps15
    go_wp2
    go_ret
    exact ⟨ret_nuH HT.out, rfl⟩
  · have HT : Hid (k.tmod n = k % (n : Int)) := by
      show _ = _
      omega
    clear te e2 e3
    go_enter Try.func15, Try.ntmps15
    go_wp2
    go_ret
    exact ⟨ret_nuH HT.out, rfl⟩

/-- One thing that is done. -/
structure Hact where
  k : Int
  i : Int
  key : Int

def Hact.fits (x : Hact) : Prop := I64 x.k ∧ I64 x.key

@[reducible] def Hact.cells (x : Hact) : List Value := [nu x.k, nu x.i, nu x.key]

/-- A list of them. -/
def RdA (w : World) (v : Value) (L : List Hact) : Prop :=
  ∃ a cap, v = .slice a L.length cap ∧ L.length ≤ cap ∧ cap ≤ maxLen ∧ (0 < L.length → ∃ g o, a = some ⟨g, o, none⟩ ∧ g < w.heap.size ∧ ∀ n x, L[n]? = some x → w.rangeAt g (o + n * 3) x.cells)

theorem range_belH {w w' : World} {B g o : Nat} {cs : List Value} (h : w.rangeAt g o cs) (hb : Below B w w') (hg : g < B) : w'.rangeAt g o cs := fun j v hv => (hb.cell (p := ⟨g, o + j, none⟩) hg).trans (h j v hv)

section
variable {R : RepHT} {base : Nat} {w0 w w' : World} {p t : Nat} {N : Int} {k : Nat} {fv wv : Value} {M : List It}

variable {wb : World} {F0 G0 : Nat → Prop} {L L1 L2 : List It}

/-- What Set answers, and what it leaves. -/
def setNo (N i : Int) : Nat := if 0 ≤ i ∧ i < N then 0 else 1

def setL (N : Int) (L : List It) (i key : Int) : List It := if 0 ≤ i ∧ i < N then setH L i key else L

theorem setL_len (N : Int) (L : List It) (i key : Int) : (setL N L i key).length ≤ L.length + 1 := by
  unfold setL
  split
  · exact set_len L i key
  · omega

theorem setNo_le (N i : Int) : setNo N i ≤ 24 := by
  unfold setNo
  split <;> omega

end
end Hh
end Go.Proofs.Yteclbmmhidmklaa
