import Derived.Test.YthabnombfbehkaaSwpC
/- Both sides' garbage side by side; an act. -/
namespace Go.Proofs.Ythabnombfbehkaa
set_option linter.ambiguousOpen false
open Go.RowKit
namespace Sw
open An Rg Ft Lv
set_option linter.unusedSimpArgs false
set_option linter.unusedVariables false

section
variable {Rep : World → Nat → (Nat → Prop) → Arn → Prop} {R : RepTy} {base : Nat} {w0 wb w w' : World} {p q t g : Nat} {F0 G0 F G : Nat → Prop} {A1 A2 A' : Arn} {l1 l2 l' : Int}

end


/-! ### An act -/

/-- An act, told by its cells. -/
def actG (k n : Int) (x : Slt) : List Value := [nu k, nu n, .bool x.used, .bool x.dead, nu x.kids, nu x.prev, nu x.next, nu x.s.slot, nu x.s.birth, nu x.s.us, nu x.s.ub, nu x.s.kind, .string x.s.user, .string x.s.label, .int .u64 x.s.scopes, nu x.s.level, nu x.s.born, nu x.s.deadline, nu x.s.depth]

@[reducible] def actGV (k n : Int) (x : Slt) : Value := .agg (actG k n x).toArray

theorem ret_nuT {a b : Int} (h : a = b) : Ending.returned (nu a) = Ending.returned (nu b) := by rw [h]

theorem pickG (k : Int) (n : Nat) (w : World) (hn : 0 < n) (hn2 : n ≤ 4611686018427387904) (hk : -9223372036854775808 ≤ k ∧ k ≤ 9223372036854775807) :
    Calls Try.prog 7 #[nu k, nu n] w fun e w' => e = .returned (nu (k % (n : Int))) ∧ w' = w := by
  have d1 : (decide ((n : Int) < 1)) = false := by simp; omega
  have e1 := Int.emod_add_mul_ediv k n
  have e2 := Int.emod_nonneg k (b := (n : Int)) (by omega)
  have e3 := Int.emod_lt_of_pos k (b := (n : Int)) (by omega)
  have te : k.tmod n = k % (n : Int) ∨ k.tmod n = k % (n : Int) - n := by
    rw [Int.tmod_eq_emod]
    split
    · left; omega
    · right; simp
  clear e1
  by_cases h : k.tmod n < 0
  · have HT : Hid (k.tmod n + n = k % (n : Int)) := by
      show _ = _
      omega
    have b1 : -(n : Int) ≤ k.tmod n := by omega
    clear te e2 e3
    go_enter Try.func7, Try.ntmps7
    go_wp2
    go_ret
    exact ⟨ret_nuT HT.out, rfl⟩
  · have HT : Hid (k.tmod n = k % (n : Int)) := by
      show _ = _
      omega
    clear te e2 e3
    go_enter Try.func7, Try.ntmps7
    go_wp2
    go_ret
    exact ⟨ret_nuT HT.out, rfl⟩
end Sw
end Go.Proofs.Ythabnombfbehkaa
