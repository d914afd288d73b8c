import Derived.Test.YtnllplholfhbdaaDoorAppS
/- Appending a row of bytes (which may be nil) to an owned one, and where the row lies then. -/
namespace Go.Proofs.YtnllplholfhbdaaDoor
set_option linter.ambiguousOpen false
open Go.RowKit
namespace Pk
open Sm
set_option linter.unusedSimpArgs false
set_option linter.unusedVariables false

/-- Nothing, or a slice that lies somewhere. -/
def Nz (u : Value) : Prop := u = .slice none 0 0 ∨ ∃ ad m c, u = .slice (some ad) m c

theorem nz_own {w : World} {base n : Nat} {e : TypeId} {size : Nat} {v : Value} {xs : List Value} (h : w.ownsRow base e size v n xs) : Nz v := by
  rcases h.2 with ⟨rfl, _⟩ | ⟨g, cap, cur, rfl, _⟩
  · exact .inl rfl
  · exact .inr ⟨_, _, _, rfl⟩

theorem append_rowP {w : World} {base n : Nat} {v : Value} {xs : List Value} (hown : w.ownsRow base 5 1 v n xs) {u : Value} {l : List UInt8} (hR : RdB w u l) (hz : Nz u) (hb : n + l.length ≤ 140737488355328) (hbase : base ≤ w.heap.size) (ty : TypeId) :
    ∃ v' w', (Builtin.append_ #[30, 30] ty #[v, u]).run Tryd.prog w = .ok v' w' ∧ w'.ownsRow base 5 1 v' (n + l.length) (xs ++ l.map by1) ∧ w.grownBy w' v.ownBlock ∧ (v'.ownBlock = v.ownBlock ∨ v'.ownBlock = some w.heap.size) := by
  obtain ⟨i0, hi, hz0, hz1, hz2⟩ := info_parts info_byte
  obtain ⟨a, cap, rfl, h1, h2, h3⟩ := hR
  rcases hz with hz | ⟨ad, m, c, hz⟩
  · obtain ⟨rfl, h0, rfl⟩ : a = none ∧ l.length = 0 ∧ cap = 0 := by simpa using hz
    obtain rfl := List.eq_nil_of_length_eq_zero h0
    refine ⟨v, w, ?_, by simpa using hown, ⟨rfl, rfl, rfl, Nat.le_refl _, fun _ _ _ => rfl⟩, .inl rfl⟩
    exact run_append_owned_none w base 30 ty 5 i0 1 Tryd.underlying30 hi v n xs hown
  · obtain ⟨rfl, h0, rfl⟩ : a = some ad ∧ l.length = m ∧ cap = c := by simpa using hz
    have hn : ∀ j u, (l.map by1)[j]? = some u → w.cell? (ad.add j) = some u := fun j u hj => by
      have hj' : j < l.length := by
        have := (List.getElem?_eq_some_iff.1 hj).1
        simpa using this
      obtain ⟨g, o, e1, _, e3⟩ := h3 (by omega)
      cases e1
      rw [List.getElem?_map, List.getElem?_eq_getElem hj'] at hj
      rw [Addr.add_mid, e3 j hj']
      exact hj
    obtain ⟨v', w', hr, g1, g2, _, g4⟩ := run_append_own_at (P := Tryd.prog) w base 30 ty 5 i0 (.int .u8 0) 1 1 Tryd.underlying30 hi hz0 hz1 hz2 rfl (by decide) v n xs hown ad l.length cap (l.map by1) (by simp) hn (fun u hu => by
      obtain ⟨b, _, rfl⟩ := List.mem_map.1 hu
      rfl) (by unfold maxLen; omega) (by omega) hbase
    exact ⟨v', w', hr, g1, g2, g4⟩

theorem wpList_append_rowP {w : World} {ops : Array Oper} {rest : List Oper} {o : Oper} {a : Act} {Q : Exit → Act → World → Prop} (hgd : o.guard = none) (s x : Operand)
    (ho : o.op = .call { callee := .builtin .append, args := #[s, x], argTypes := #[30, 30] })
    (base n : Nat) (v u : Value) (xs : List Value) (l : List UInt8) (hs : a.eval s = v) (hx : a.eval x = u) (hown : w.ownsRow base 5 1 v n xs) (hR : RdB w u l) (hz : Nz u) (hb : n + l.length ≤ 140737488355328) (hbase : base ≤ w.heap.size)
    (h : ∀ v' w', w'.ownsRow base 5 1 v' (n + l.length) (xs ++ l.map by1) → w.grownBy w' v.ownBlock → (v'.ownBlock = v.ownBlock ∨ v'.ownBlock = some w.heap.size) → wpList Tryd.prog ops Q rest (a.put o.dst v') w') : wpList Tryd.prog ops Q (o :: rest) a w := by
  refine wpList_plain hgd fun K hK => ?_
  obtain ⟨v', w', hr, h1, h2, h3⟩ := append_rowP hown hR hz hb hbase o.type
  unfold Oper.wp execOp
  simp only [ho, resolve, invoke, builtin, Sem.run_bind, Sem.run_pure, Result.andThen_ok, List.map_toArray, List.map_cons, List.map_nil, hs, hx, hr]
  exact hK _ _ (h v' w' h1 h2 h3)

end Pk
end Go.Proofs.YtnllplholfhbdaaDoor
