import Derived.Test.YteclbmmhidmklaaDoorHepP
import Derived.Test.YteclbmmhidmklaaDoorFoot
import Derived.Test.YteclbmmhidmklaaDoorOwn
import Derived.Laws.AppendOwnNone
import Derived.Deep.MidRow
import Derived.Test.YteclbmmhidmklaaDoorProg
/- Rows of numbers with keys, in memory. -/
namespace Go.Proofs.YteclbmmhidmklaaDoor
set_option linter.ambiguousOpen false
open Go.RowKit
namespace Hh
open Ft
set_option linter.unusedSimpArgs false
set_option linter.unusedVariables false

theorem Hid.mk' {p : Prop} (h : p) : Hid p := h

@[reducible] def nu (i : Int) : Value := .int .i64 i

@[reducible] def nun (i : Nat) : Value := .int .i64 (i : Int)

@[reducible] def ptr (b : Nat) : Value := .pointer (some ⟨b, 0, none⟩)

@[reducible] def It.cells (x : It) : List Value := [.int .i64 x.i, .int .i64 x.k]

/-- A row of them lies there. -/
def RdI (w : World) (v : Value) (l : List It) : Prop :=
  ∃ a cap, v = .slice a l.length cap ∧ l.length ≤ cap ∧ cap ≤ maxLen ∧ (0 < l.length → ∃ g o, a = some ⟨g, o, none⟩ ∧ ∀ (i : Nat) (hi : i < l.length) (c : Nat) (v : Value), (l[i]).cells[c]? = some v → w.cell? ⟨g, o + i * 2 + c, none⟩ = some v)

theorem It.cells_len (s : It) : s.cells.length = 2 := rfl

theorem It.one (s : It) : ∀ u ∈ s.cells, u.oneCell' = true := by
  intro u hu
  simp only [It.cells, List.mem_cons, List.not_mem_nil, or_false] at hu
  rcases hu with rfl | rfl <;> rfl

theorem flat_lenI : ∀ L : List It, (L.flatMap It.cells).length = L.length * 2
  | [] => rfl
  | s :: t => by rw [List.flatMap_cons, List.length_append, flat_lenI t, It.cells_len, List.length_cons]; omega

theorem flat_atI : ∀ (L : List It) (i c : Nat) (hi : i < L.length) (hc : c < 2), (L.flatMap It.cells)[i * 2 + c]? = (L[i]).cells[c]?
  | [], i, c, hi, _ => by simp at hi
  | s :: t, 0, c, _, hc => by
    rw [List.flatMap_cons, List.getElem?_append_left (by rw [It.cells_len]; omega)]
    simp
  | s :: t, i + 1, c, hi, hc => by
    have ih := flat_atI t i c (by simpa using hi) hc
    rw [List.flatMap_cons, List.getElem?_append_right (by rw [It.cells_len]; omega), It.cells_len, show (i + 1) * 2 + c - 2 = i * 2 + c by omega, ih]
    simp

theorem one_flatI (L : List It) : ∀ u ∈ L.flatMap It.cells, u.oneCell' = true := fun u hu => by
  obtain ⟨s, _, h⟩ := List.mem_flatMap.1 hu
  exact It.one s u h

/-- A list that a call owns is a list of sessions that lies there. -/
theorem own_rdI {w : World} {base n : Nat} {v : Value} {L : List It} (h : w.ownsRow base 67 2 v n (L.flatMap It.cells)) (hn : n = L.length) : RdI w v L := by
  subst hn
  have h2 := h.2
  rcases h2 with ⟨rfl, h0⟩ | ⟨g, cap, cur, rfl, _, _, hc, hm, _⟩
  · have e : L = [] := List.eq_nil_of_length_eq_zero h0
    subst e
    exact ⟨none, 0, rfl, Nat.le_refl _, by unfold maxLen; omega, fun h => by simp at h⟩
  · refine ⟨_, cap, rfl, hc, hm, fun _ => ⟨g, 0, rfl, fun i hi c v hv => ?_⟩⟩
    have hc : c < 2 := (List.getElem?_eq_some_iff.1 hv).1
    have := h.cells (g := g) rfl (i * 2 + c) v ((flat_atI L i c hi hc).trans hv)
    rw [Addr.add_mid] at this
    rwa [← Nat.add_assoc] at this

theorem own_belowI {w w' : World} {base : Nat} {e : TypeId} {size : Nat} {v : Value} {n : Nat} {xs : List Value} (h : w.ownsRow base e size v n xs) (hb : Below w.heap.size w w') : w'.ownsRow base e size v n xs := by
  refine ⟨h.1, ?_⟩
  rcases h.2 with hn | ⟨g, cap, cur, rfl, hbg, hgg, rest⟩
  · exact .inl hn
  · refine .inr ⟨g, cap, cur, rfl, hbg, ?_, rest⟩
    rw [hb.block g (Array.getElem?_eq_some_iff.1 hgg).1]
    exact hgg

theorem rd_flatI {w : World} {ad : Addr} {cap : Nat} {l : List It} (h : RdI w (.slice (some ad) l.length cap) l) : ∀ j u, (l.flatMap It.cells)[j]? = some u → w.cell? (ad.add j) = some u := fun j u hu => by
  have hj : j < l.length * 2 := by
    have := (List.getElem?_eq_some_iff.1 hu).1
    rwa [flat_lenI] at this
  obtain ⟨a, c, e, _, _, hc⟩ := h
  obtain ⟨g, o, ha, hat⟩ := hc (by omega)
  injection e with e1 e2 e3
  rw [ha] at e1
  obtain rfl := Option.some.inj e1
  have hi : j / 2 < l.length := by omega
  have e4 := flat_atI l (j / 2) (j % 2) hi (Nat.mod_lt _ (by omega))
  rw [show j / 2 * 2 + j % 2 = j by omega, hu] at e4
  have := hat (j / 2) hi (j % 2) u e4.symm
  rw [Addr.add_mid]
  rwa [Nat.add_assoc, show j / 2 * 2 + j % 2 = j by omega] at this

theorem infoIt : (Tryd.prog.info? 67).map (fun i => (i.zero, i.size, i.bytes)) = some (some (.agg #[.int .i64 0, .int .i64 0]), 2, 16) := by kernel_rfl

/-- One list behind another that the call owns. -/
theorem wpList_append_it (w : World) {ops : Array Oper} {rest : List Oper} {o : Oper} {a : Act} {Q : Exit → Act → World → Prop} (hgd : o.guard = none) (s x : Operand)
    (ho : o.op = .call { callee := .builtin .append, args := #[s, x], argTypes := #[41, 41] })
    (base : Nat) (v : Value) (n : Nat) (L : List It) (hs : a.eval s = v) (hown : w.ownsRow base 67 2 v n (L.flatMap It.cells))
    (va : Value) (l : List It) (hx : a.eval x = va) (hR : RdI w va l) (hnil : ∀ m c, va = .slice none m c → c = 0)
    (hbytes : (n + l.length) * 16 ≤ 140737488355328) (hbase : base ≤ w.heap.size)
    (h : ∀ v' w', w'.ownsRow base 67 2 v' (n + l.length) ((L ++ l).flatMap It.cells) → w.grownBy w' v.ownBlock → wpList Tryd.prog ops Q rest (a.put o.dst v') w') : wpList Tryd.prog ops Q (o :: rest) a w := by
  obtain ⟨i0, hi, hz0, hz1, hz2⟩ := info_parts infoIt
  have hR' := hR
  obtain ⟨ad, cap, rfl, hc, hm, hcell⟩ := hR
  cases ad with
  | none =>
    obtain rfl := hnil _ _ rfl
    have e : l = [] := List.eq_nil_of_length_eq_zero (by omega)
    subst e
    refine wpList_append_own_none hgd s x 41 ho base 67 i0 2 Tryd.underlying41 hi v n _ hs hown hx ?_
    refine h v w ?_ ⟨rfl, rfl, rfl, Nat.le_refl _, fun _ _ _ => rfl⟩
    simpa using hown
  | some ad =>
    refine wpList_append_own w hgd s x 41 ho base 67 i0 (.agg #[.int .i64 0, .int .i64 0]) 2 16 Tryd.underlying41 hi hz0 hz1 hz2 rfl (by decide) v n _ hs hown ad l.length cap (l.flatMap It.cells) hx (flat_lenI l) (rd_flatI hR') (one_flatI l) (by unfold maxLen; omega) hbytes hbase ?_
    intro v' w' h1 h2 _
    refine h v' w' ?_ h2
    rw [List.flatMap_append]; exact h1
theorem size_it : (Tryd.prog.info? 67).map (·.size) = some 2 := by kernel_rfl

theorem add_atI (g j : Nat) : (⟨g, 0, none⟩ : Addr).add j = ⟨g, j, none⟩ := by
  simp only [Addr.add]
  split
  · rename_i h
    rw [h]
  · simp

theorem cell_two_new (w : World) (a b : Value) (t : TypeId) : ∀ (j : Nat) (u : Value), [a, b][j]? = some u → (w.alloc (.cells #[a, b] t)).cell? ((⟨w.heap.size, 0, none⟩ : Addr).add j) = some u := fun j u hu => by
  have hb := heap_alloc_new w (.cells #[a, b] t)
  rw [add_atI]
  unfold World.cell?
  simp only [hb]
  simpa using hu

theorem own_monoI {w : World} {b c : Nat} {e : TypeId} {size : Nat} {v : Value} {n : Nat} {xs : List Value} (h : w.ownsRow b e size v n xs) (hc : c ≤ b) : w.ownsRow c e size v n xs := by
  refine ⟨h.1, ?_⟩
  rcases h.2 with h0 | ⟨g, cap, cur, rfl, hbg, rest⟩
  · exact .inl h0
  · exact .inr ⟨g, cap, cur, rfl, Nat.le_trans hc hbg, rest⟩
end Hh
end Go.Proofs.YteclbmmhidmklaaDoor
