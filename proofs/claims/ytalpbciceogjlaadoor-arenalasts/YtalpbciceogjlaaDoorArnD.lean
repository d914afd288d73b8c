/- One act, on the program's arena and as the document has it. -/
import Derived.Test.YtalpbciceogjlaaDoorArnA
namespace Go.Proofs.YtalpbciceogjlaaDoor
set_option linter.ambiguousOpen false
open Go.RowKit
namespace An
open Ft Lv
set_option linter.unusedSimpArgs false
set_option linter.unusedVariables false

theorem ret_nu {a b : Int} (h : a = b) : Ending.returned (nu a) = Ending.returned (nu b) := by rw [h]

theorem pick_any (k : Int) (n : Nat) (w : World) (hn : 0 < n) (hn2 : n ≤ 4611686018427387904) (hk : -9223372036854775808 ≤ k ∧ k ≤ 9223372036854775807) :
    Calls Tryd.prog 7 #[nu k, nu n] w fun e w' => e = .returned (nu (k % (n : Int))) ∧ w' = w := by
  have d1 : (decide ((n : Int) < 1)) = false := by simp; omega
  have e1 := Int.emod_add_mul_ediv k n
  have e2 := Int.emod_nonneg k (b := (n : Int)) (by omega)
  have e3 := Int.emod_lt_of_pos k (b := (n : Int)) (by omega)
  have te : k.tmod n = k % (n : Int) ∨ k.tmod n = k % (n : Int) - n := by
    rw [Int.tmod_eq_emod]
    split
    · left; omega
    · right; simp
  clear e1
  by_cases h : k.tmod n < 0
  · have HT : Hid (k.tmod n + n = k % (n : Int)) := by
      show _ = _
      omega
    have b1 : -(n : Int) ≤ k.tmod n := by omega
    clear te e2 e3
    go_enter Tryd.func7, Tryd.ntmps7
    go_wp2
    go_ret
    exact ⟨ret_nu HT.out, rfl⟩
  · have HT : Hid (k.tmod n = k % (n : Int)) := by
      show _ = _
      omega
    clear te e2 e3
    go_enter Tryd.func7, Tryd.ntmps7
    go_wp2
    go_ret
    exact ⟨ret_nu HT.out, rfl⟩

/-- An act, told by its cells. -/
def actL (k n : Int) (x : Slt) : List Value := [nu k, nu n, .bool x.used, .bool x.dead, nu x.kids, nu x.prev, nu x.next, nu x.s.slot, nu x.s.birth, nu x.s.us, nu x.s.ub, nu x.s.kind, .string x.s.user, .string x.s.label, .int .u64 x.s.scopes, nu x.s.level, nu x.s.born, nu x.s.deadline, nu x.s.depth]

@[reducible] def actV (k n : Int) (x : Slt) : Value := .agg (actL k n x).toArray

/-- The slot's cells, spelt out. -/
@[reducible] def Slt.arr (x : Slt) : Array Value := #[.bool x.used, .bool x.dead, nu x.kids, nu x.prev, nu x.next, nu x.s.slot, nu x.s.birth, nu x.s.us, nu x.s.ub, nu x.s.kind, .string x.s.user, .string x.s.label, .int .u64 x.s.scopes, nu x.s.level, nu x.s.born, nu x.s.deadline, nu x.s.depth]

theorem Slt.arr_v (x : Slt) : x.v = .agg x.arr := rfl

def LoneA (w : World) (b : Nat) (k n : Int) (x : Slt) : Prop := w.heap[b]? = some (.cells (actL k n x).toArray 38)

theorem LoneA.cells {w : World} {b : Nat} {k n : Int} {x : Slt} (h : LoneA w b k n x) : w.cell? ⟨b, 0, none⟩ = some (nu k) ∧ w.cell? ⟨b, 1, none⟩ = some (nu n) ∧ w.cell? ⟨b, 2, none⟩ = some (.bool x.used) ∧ w.cell? ⟨b, 3, none⟩ = some (.bool x.dead) ∧ w.cell? ⟨b, 4, none⟩ = some (nu x.kids) ∧ w.cell? ⟨b, 5, none⟩ = some (nu x.prev) ∧ w.cell? ⟨b, 6, none⟩ = some (nu x.next) ∧ w.cell? ⟨b, 7, none⟩ = some (nu x.s.slot) ∧ w.cell? ⟨b, 8, none⟩ = some (nu x.s.birth) ∧ w.cell? ⟨b, 9, none⟩ = some (nu x.s.us) ∧ w.cell? ⟨b, 10, none⟩ = some (nu x.s.ub) ∧ w.cell? ⟨b, 11, none⟩ = some (nu x.s.kind) ∧ w.cell? ⟨b, 12, none⟩ = some (.string x.s.user) ∧ w.cell? ⟨b, 13, none⟩ = some (.string x.s.label) ∧ w.cell? ⟨b, 14, none⟩ = some (.int .u64 x.s.scopes) ∧ w.cell? ⟨b, 15, none⟩ = some (nu x.s.level) ∧ w.cell? ⟨b, 16, none⟩ = some (nu x.s.born) ∧ w.cell? ⟨b, 17, none⟩ = some (nu x.s.deadline) ∧ w.cell? ⟨b, 18, none⟩ = some (nu x.s.depth) := by
  unfold LoneA actL at h
  simp [World.cell?, h]

/-- The arena behind an act. -/
def step (A : Arn) (k n : Int) (s : Slt) : Arn := if k % 7 = 1 then (A.put n s).2 else if k % 7 = 2 ∨ k % 7 = 3 then A.take.2.2 else if k % 7 = 4 then (A.place n).2 else if k % 7 = 5 then (A.free n).2 else A

theorem step_wr (A : Arn) (k n : Int) (s : Slt) : (step A k n s).wr ≤ A.wr + 1 := by
  unfold step
  split
  · exact put_wr A n s
  · split
    · rw [take_wr]; omega
    · split
      · rw [place_wr]; omega
      · split
        · exact free_wr A n
        · omega

theorem KeepC.refA (base : Nat) : KeepC (RepA base) := ⟨fun h hk hn => h.keep hk hn, fun h k hk => (h.lt k hk).2⟩

section
variable {Rep RepR : World → Nat → (Nat → Prop) → Arn → Prop} {w0 wb w w' : World} {p g : Nat} {F0 G0 F G : Nat → Prop} {A1 A2 : Arn}

theorem Dn.from (h : Dn Rep RepR w0 wb w' p g F0 G0 F G A1 A2) (hb : Below w.heap.size w wb) : Dn Rep RepR w0 w w' p g F0 G0 F G A1 A2 :=
  ⟨h.pr, (Keep.of_below hb).trans h.kp (fun _ _ h => h), fun k hk => (h.gf k hk).imp id (fun h => Nat.le_trans hb.size h), fun k hk => (h.gg k hk).imp id (fun h => Nat.le_trans hb.size h)⟩

theorem Dn.act (h : Dn Rep RepR w0 wb w' p g F0 G0 F G A1 A2) {X : Nat} {k n : Int} {x : Slt} (ha : LoneA wb X k n x) (hX : ¬ F0 X ∧ ¬ G0 X) : LoneA w' X k n x :=
  (h.kp.block X (Array.getElem?_eq_some_iff.1 ha).1 (fun e => e.elim hX.1 hX.2)).trans ha
end
end An
end Go.Proofs.YtalpbciceogjlaaDoor
