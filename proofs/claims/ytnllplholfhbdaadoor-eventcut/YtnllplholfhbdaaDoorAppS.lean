import Derived.Test.YtnllplholfhbdaaDoorRefV
import Derived.Lib.AppendStr
import Derived.Maps.AppendAt
import Derived.Deep.RegionHeld3
/- Appending a text's bytes to an owned row, and where the row lies then; rows of bytes: the same?, a copy. -/
namespace Go.Proofs.YtnllplholfhbdaaDoor
set_option linter.ambiguousOpen false
open Go.RowKit
namespace Pk
open Sm
set_option linter.unusedSimpArgs false
set_option linter.unusedVariables false

theorem strCells_tx (l : List UInt8) : Lib.strCells (tx l) = l.map by1 := rfl

theorem append_text {w : World} {base n : Nat} {v : Value} {xs : List Value} (hown : w.ownsRow base 5 1 v n xs) (l : List UInt8) (hb : n + l.length ≤ 140737488355328) (hbase : base ≤ w.heap.size) (ty : TypeId) :
    ∃ v' w', (Builtin.append_ #[30, 9] ty #[v, .string (tx l)]).run Tryd.prog w = .ok v' w' ∧ w'.ownsRow base 5 1 v' (n + l.length) (xs ++ l.map by1) ∧ w.grownBy w' v.ownBlock ∧ (v'.ownBlock = v.ownBlock ∨ v'.ownBlock = some w.heap.size) := by
  obtain ⟨i0, hi, hz0, hz1, hz2⟩ := info_parts info_byte
  have hs : (tx l).size = l.length := rfl
  obtain ⟨v', w', hr, h2, h3, h4⟩ := Lib.run_append_own_string (P := Tryd.prog) w base 30 9 ty 5 i0 Tryd.underlying30 Tryd.underlying9 hi hz0 hz1 hz2 v n xs hown (tx l) (by unfold maxLen; omega) (by omega) hbase
  refine ⟨v', w', hr, h2, h3, ?_⟩
  rcases hown.2 with ⟨rfl, rfl⟩ | ⟨g, cap, cur, rfl, hbg, hg, hnc, hcm, hcs, htake⟩
  · by_cases hm : l.length = 0
    · left
      rw [h4.2 ⟨rfl, by omega⟩]
    · right
      have hr2 := run_append_nil_string (P := Tryd.prog) w 30 9 ty 5 i0 (.int .u8 0) Tryd.underlying30 Tryd.underlying9 hi hz0 (tx l) (by omega) (by omega) (by rw [hz2]; omega)
      rw [(Result.ok.inj (hr.symm.trans hr2)).1]
      rfl
  · by_cases hroom : n + l.length ≤ cap
    · left
      have hr2 := Lib.run_append_room_string (P := Tryd.prog) w 30 9 ty 5 i0 Tryd.underlying30 Tryd.underlying9 hi hz1 g n cap cur hg (tx l) hroom (by omega)
      rw [(Result.ok.inj (hr.symm.trans hr2)).1]
      rfl
    · right
      have hxl : xs.length = n := by simpa using hown.1
      have hr2 := Lib.run_append_grow_string (P := Tryd.prog) w 30 9 ty 5 i0 (.int .u8 0) Tryd.underlying30 Tryd.underlying9 hi hz0 ⟨g, 0, none⟩ n cap xs (by rw [hz1]; simpa using hxl) (hown.cells (g := g) rfl) (tx l) (by omega) (by omega) (by rw [hz2]; exact growslice_fits (by omega) (by omega))
      rw [(Result.ok.inj (hr.symm.trans hr2)).1]
      rfl

theorem wpList_append_text {w : World} {ops : Array Oper} {rest : List Oper} {o : Oper} {a : Act} {Q : Exit → Act → World → Prop} (hgd : o.guard = none) (s x : Operand)
    (ho : o.op = .call { callee := .builtin .append, args := #[s, x], argTypes := #[30, 9] })
    (base n : Nat) (v : Value) (f : ByteArray) (xs : List Value) (l : List UInt8) (hs : a.eval s = v) (hx : a.eval x = .string f) (hf : f = tx l) (hown : w.ownsRow base 5 1 v n xs) (hb : n + l.length ≤ 140737488355328) (hbase : base ≤ w.heap.size)
    (h : ∀ v' w', w'.ownsRow base 5 1 v' (n + l.length) (xs ++ l.map by1) → w.grownBy w' v.ownBlock → (v'.ownBlock = v.ownBlock ∨ v'.ownBlock = some w.heap.size) → wpList Tryd.prog ops Q rest (a.put o.dst v') w') : wpList Tryd.prog ops Q (o :: rest) a w := by
  subst hf
  refine wpList_plain hgd fun K hK => ?_
  obtain ⟨v', w', hr, h1, h2, h3⟩ := append_text hown l hb hbase o.type
  unfold Oper.wp execOp
  simp only [ho, resolve, invoke, builtin, Sem.run_bind, Sem.run_pure, Result.andThen_ok, List.map_toArray, List.map_cons, List.map_nil, hs, hx, hr]
  exact hK _ _ (h v' w' h1 h2 h3)

theorem text_ref (s : List UInt8) (w : World) (hs : s.length ≤ 140737488355000) :
    Calls Tryd.prog 43 #[.string (tx s)] w fun e w' => ∃ x, e = .returned x ∧ w'.ownsRow w.heap.size 5 1 x (txt s).length ((txt s).map by1) ∧ Below w.heap.size w w' := by
  have c1 := Hid.mk' (sevens_any s.length w (by omega))
  have hl := sev_len10 s.length (by omega)
  have hT : Hid ((txt s).length = (sev s.length).length + s.length ∧ (txt s).map by1 = (sev s.length).map by1 ++ s.map by1) := ⟨by simp [txt], by simp [txt]⟩
  have hz : (tx s).size = s.length := rfl
  obtain ⟨f, hf⟩ : ∃ f, f = tx s := ⟨_, rfl⟩
  rw [← hf] at hz ⊢
  have HF := Hid.mk' hf
  clear hf
  go_enter Tryd.func43, Tryd.ntmps43
  go_wp2_with fail
  refine c1.out.mono ?_
  rintro e w1 ⟨x, rfl, ho, hb⟩
  have HO := Hid.mk' ho
  have HB := Hid.mk' hb
  have HL := Hid.mk' hl
  obtain ⟨a, cap, rfl, _⟩ := Nm.own_shape ho
  clear ho hb c1 hl
  go_wp2_with (at_builtin; refine wpList_append_text rfl _ _ rfl w.heap.size _ _ _ _ s rfl rfl HF.out HO.out (by have := HL.out; omega) HB.out.size ?_; intro v' w4 ho4 hg4 _; have hB4 : Hid (Below w.heap.size w w4) := Below.grown HB.out hg4 HB.out.size (fun k hk => (HO.out.lt k hk).1); have hO4 := Hid.mk' ho4; clear ho4 hg4)
  go_wp2
  go_ret
  exact ⟨_, rfl, by rw [hT.out.1, hT.out.2]; exact hO4.out, hB4.out⟩
end Pk
end Go.Proofs.YtnllplholfhbdaaDoor
