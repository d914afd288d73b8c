/- Appending a text's bytes to an owned row, and where the row lies then; rows of bytes: the same?, a copy. -/
import Derived.Test.YtlgjnefieflmbaaDoorRefV
import Derived.Lib.AppendStr
import Derived.Maps.AppendAt
import Derived.Deep.RegionHeld3
namespace Go.Proofs.YtlgjnefieflmbaaDoor
set_option linter.ambiguousOpen false
open Go.RowKit
namespace Pk
open Sm
set_option linter.unusedSimpArgs false
set_option linter.unusedVariables false

theorem strCells_tx (l : List UInt8) : Lib.strCells (tx l) = l.map by1 := rfl

theorem append_text {w : World} {base n : Nat} {v : Value} {xs : List Value} (hown : w.ownsRow base 5 1 v n xs) (l : List UInt8) (hb : n + l.length ≤ 140737488355328) (hbase : base ≤ w.heap.size) (ty : TypeId) :
    ∃ v' w', (Builtin.append_ #[33, 9] ty #[v, .string (tx l)]).run Tryd.prog w = .ok v' w' ∧ w'.ownsRow base 5 1 v' (n + l.length) (xs ++ l.map by1) ∧ w.grownBy w' v.ownBlock ∧ (v'.ownBlock = v.ownBlock ∨ v'.ownBlock = some w.heap.size) := by
  obtain ⟨i0, hi, hz0, hz1, hz2⟩ := info_parts info_byte
  have hs : (tx l).size = l.length := rfl
  obtain ⟨v', w', hr, h2, h3, h4⟩ := Lib.run_append_own_string (P := Tryd.prog) w base 33 9 ty 5 i0 Tryd.underlying33 Tryd.underlying9 hi hz0 hz1 hz2 v n xs hown (tx l) (by unfold maxLen; omega) (by omega) hbase
  refine ⟨v', w', hr, h2, h3, ?_⟩
  rcases hown.2 with ⟨rfl, rfl⟩ | ⟨g, cap, cur, rfl, hbg, hg, hnc, hcm, hcs, htake⟩
  · by_cases hm : l.length = 0
    · left
      rw [h4.2 ⟨rfl, by omega⟩]
    · right
      have hr2 := run_append_nil_string (P := Tryd.prog) w 33 9 ty 5 i0 (.int .u8 0) Tryd.underlying33 Tryd.underlying9 hi hz0 (tx l) (by omega) (by omega) (by rw [hz2]; omega)
      rw [(Result.ok.inj (hr.symm.trans hr2)).1]
      rfl
  · by_cases hroom : n + l.length ≤ cap
    · left
      have hr2 := Lib.run_append_room_string (P := Tryd.prog) w 33 9 ty 5 i0 Tryd.underlying33 Tryd.underlying9 hi hz1 g n cap cur hg (tx l) hroom (by omega)
      rw [(Result.ok.inj (hr.symm.trans hr2)).1]
      rfl
    · right
      have hxl : xs.length = n := by simpa using hown.1
      have hr2 := Lib.run_append_grow_string (P := Tryd.prog) w 33 9 ty 5 i0 (.int .u8 0) Tryd.underlying33 Tryd.underlying9 hi hz0 ⟨g, 0, none⟩ n cap xs (by rw [hz1]; simpa using hxl) (hown.cells (g := g) rfl) (tx l) (by omega) (by omega) (by rw [hz2]; exact growslice_fits (by omega) (by omega))
      rw [(Result.ok.inj (hr.symm.trans hr2)).1]
      rfl

theorem wpList_append_text {w : World} {ops : Array Oper} {rest : List Oper} {o : Oper} {a : Act} {Q : Exit → Act → World → Prop} (hgd : o.guard = none) (s x : Operand)
    (ho : o.op = .call { callee := .builtin .append, args := #[s, x], argTypes := #[33, 9] })
    (base n : Nat) (v : Value) (f : ByteArray) (xs : List Value) (l : List UInt8) (hs : a.eval s = v) (hx : a.eval x = .string f) (hf : f = tx l) (hown : w.ownsRow base 5 1 v n xs) (hb : n + l.length ≤ 140737488355328) (hbase : base ≤ w.heap.size)
    (h : ∀ v' w', w'.ownsRow base 5 1 v' (n + l.length) (xs ++ l.map by1) → w.grownBy w' v.ownBlock → (v'.ownBlock = v.ownBlock ∨ v'.ownBlock = some w.heap.size) → wpList Tryd.prog ops Q rest (a.put o.dst v') w') : wpList Tryd.prog ops Q (o :: rest) a w := by
  subst hf
  refine wpList_plain hgd fun K hK => ?_
  obtain ⟨v', w', hr, h1, h2, h3⟩ := append_text hown l hb hbase o.type
  unfold Oper.wp execOp
  simp only [ho, resolve, invoke, builtin, Sem.run_bind, Sem.run_pure, Result.andThen_ok, List.map_toArray, List.map_cons, List.map_nil, hs, hx, hr]
  exact hK _ _ (h v' w' h1 h2 h3)

end Pk
end Go.Proofs.YtlgjnefieflmbaaDoor
