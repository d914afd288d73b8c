/- Layer 22: rows of refusals (a number and a function), in memory. -/
import Derived.Test.YtbgggekkkcefcabDoorGrP
import Derived.Test.YtbgggekkkcefcabDoorFoot
import Derived.Test.YtbgggekkkcefcabDoorOwn
import Derived.Laws.AppendOwnNone
import Derived.Deep.MidRow
import Derived.Test.YtbgggekkkcefcabDoorProg
namespace Go.Proofs.YtbgggekkkcefcabDoor
set_option linter.ambiguousOpen false
open Go.RowKit
namespace Gr
open Ft
set_option linter.unusedSimpArgs false
set_option linter.unusedVariables false

theorem Hid.mk' {p : Prop} (h : p) : Hid p := h

@[reducible] def fnV (f : Nat) : Value := .func (.func f) #[] #[]

/-- A refusal: its error's number, the function that tells. -/
structure Rf where
  no : Int
  f : Nat

@[reducible] def Rf.cells (x : Rf) : List Value := [.int .i64 x.no, fnV x.f]

/-- A row of them lies there. -/
def RdR (w : World) (v : Value) (l : List Rf) : Prop :=
  ∃ a cap, v = .slice a l.length cap ∧ l.length ≤ cap ∧ cap ≤ maxLen ∧ (0 < l.length → ∃ g o, a = some ⟨g, o, none⟩ ∧ ∀ (i : Nat) (hi : i < l.length) (c : Nat) (v : Value), (l[i]).cells[c]? = some v → w.cell? ⟨g, o + i * 2 + c, none⟩ = some v)

theorem Rf.cells_len (s : Rf) : s.cells.length = 2 := rfl

theorem Rf.one (s : Rf) : ∀ u ∈ s.cells, u.oneCell' = true := by
  intro u hu
  simp only [Rf.cells, List.mem_cons, List.not_mem_nil, or_false] at hu
  rcases hu with rfl | rfl <;> rfl

theorem flat_lenR : ∀ L : List Rf, (L.flatMap Rf.cells).length = L.length * 2
  | [] => rfl
  | s :: t => by rw [List.flatMap_cons, List.length_append, flat_lenR t, Rf.cells_len, List.length_cons]; omega

theorem flat_atR : ∀ (L : List Rf) (i c : Nat) (hi : i < L.length) (hc : c < 2), (L.flatMap Rf.cells)[i * 2 + c]? = (L[i]).cells[c]?
  | [], i, c, hi, _ => by simp at hi
  | s :: t, 0, c, _, hc => by
    rw [List.flatMap_cons, List.getElem?_append_left (by rw [Rf.cells_len]; omega)]
    simp
  | s :: t, i + 1, c, hi, hc => by
    have ih := flat_atR t i c (by simpa using hi) hc
    rw [List.flatMap_cons, List.getElem?_append_right (by rw [Rf.cells_len]; omega), Rf.cells_len, show (i + 1) * 2 + c - 2 = i * 2 + c by omega, ih]
    simp

theorem one_flatR (L : List Rf) : ∀ u ∈ L.flatMap Rf.cells, u.oneCell' = true := fun u hu => by
  obtain ⟨s, _, h⟩ := List.mem_flatMap.1 hu
  exact Rf.one s u h

/-- A list that a call owns is a list of sessions that lies there. -/
theorem own_rdR {w : World} {base n : Nat} {v : Value} {L : List Rf} (h : w.ownsRow base 52 2 v n (L.flatMap Rf.cells)) (hn : n = L.length) : RdR w v L := by
  subst hn
  have h2 := h.2
  rcases h2 with ⟨rfl, h0⟩ | ⟨g, cap, cur, rfl, _, _, hc, hm, _⟩
  · have e : L = [] := List.eq_nil_of_length_eq_zero h0
    subst e
    exact ⟨none, 0, rfl, Nat.le_refl _, by unfold maxLen; omega, fun h => by simp at h⟩
  · refine ⟨_, cap, rfl, hc, hm, fun _ => ⟨g, 0, rfl, fun i hi c v hv => ?_⟩⟩
    have hc : c < 2 := (List.getElem?_eq_some_iff.1 hv).1
    have := h.cells (g := g) rfl (i * 2 + c) v ((flat_atR L i c hi hc).trans hv)
    rw [Addr.add_mid] at this
    rwa [← Nat.add_assoc] at this

theorem own_belowR {w w' : World} {base : Nat} {e : TypeId} {size : Nat} {v : Value} {n : Nat} {xs : List Value} (h : w.ownsRow base e size v n xs) (hb : Below w.heap.size w w') : w'.ownsRow base e size v n xs := by
  refine ⟨h.1, ?_⟩
  rcases h.2 with hn | ⟨g, cap, cur, rfl, hbg, hgg, rest⟩
  · exact .inl hn
  · refine .inr ⟨g, cap, cur, rfl, hbg, ?_, rest⟩
    rw [hb.block g (Array.getElem?_eq_some_iff.1 hgg).1]
    exact hgg

theorem rd_flatR {w : World} {ad : Addr} {cap : Nat} {l : List Rf} (h : RdR w (.slice (some ad) l.length cap) l) : ∀ j u, (l.flatMap Rf.cells)[j]? = some u → w.cell? (ad.add j) = some u := fun j u hu => by
  have hj : j < l.length * 2 := by
    have := (List.getElem?_eq_some_iff.1 hu).1
    rwa [flat_lenR] at this
  obtain ⟨a, c, e, _, _, hc⟩ := h
  obtain ⟨g, o, ha, hat⟩ := hc (by omega)
  injection e with e1 e2 e3
  rw [ha] at e1
  obtain rfl := Option.some.inj e1
  have hi : j / 2 < l.length := by omega
  have e4 := flat_atR l (j / 2) (j % 2) hi (Nat.mod_lt _ (by omega))
  rw [show j / 2 * 2 + j % 2 = j by omega, hu] at e4
  have := hat (j / 2) hi (j % 2) u e4.symm
  rw [Addr.add_mid]
  rwa [Nat.add_assoc, show j / 2 * 2 + j % 2 = j by omega] at this

theorem infoRf : (Tryd.prog.info? 52).map (fun i => (i.zero, i.size, i.bytes)) = some (some (.agg #[.int .i64 0, .nilFunc]), 2, 16) := by kernel_rfl

/-- One list behind another that the call owns. -/
theorem wpList_append_rf (w : World) {ops : Array Oper} {rest : List Oper} {o : Oper} {a : Act} {Q : Exit → Act → World → Prop} (hgd : o.guard = none) (s x : Operand)
    (ho : o.op = .call { callee := .builtin .append, args := #[s, x], argTypes := #[53, 53] })
    (base : Nat) (v : Value) (n : Nat) (L : List Rf) (hs : a.eval s = v) (hown : w.ownsRow base 52 2 v n (L.flatMap Rf.cells))
    (va : Value) (l : List Rf) (hx : a.eval x = va) (hR : RdR w va l) (hnil : ∀ m c, va = .slice none m c → c = 0)
    (hbytes : (n + l.length) * 16 ≤ 140737488355328) (hbase : base ≤ w.heap.size)
    (h : ∀ v' w', w'.ownsRow base 52 2 v' (n + l.length) ((L ++ l).flatMap Rf.cells) → w.grownBy w' v.ownBlock → wpList Tryd.prog ops Q rest (a.put o.dst v') w') : wpList Tryd.prog ops Q (o :: rest) a w := by
  obtain ⟨i0, hi, hz0, hz1, hz2⟩ := info_parts infoRf
  have hR' := hR
  obtain ⟨ad, cap, rfl, hc, hm, hcell⟩ := hR
  cases ad with
  | none =>
    obtain rfl := hnil _ _ rfl
    have e : l = [] := List.eq_nil_of_length_eq_zero (by omega)
    subst e
    refine wpList_append_own_none hgd s x 53 ho base 52 i0 2 Tryd.underlying53 hi v n _ hs hown hx ?_
    refine h v w ?_ ⟨rfl, rfl, rfl, Nat.le_refl _, fun _ _ _ => rfl⟩
    simpa using hown
  | some ad =>
    refine wpList_append_own w hgd s x 53 ho base 52 i0 (.agg #[.int .i64 0, .nilFunc]) 2 16 Tryd.underlying53 hi hz0 hz1 hz2 rfl (by decide) v n _ hs hown ad l.length cap (l.flatMap Rf.cells) hx (flat_lenR l) (rd_flatR hR') (one_flatR l) (by unfold maxLen; omega) hbytes hbase ?_
    intro v' w' h1 h2 _
    refine h v' w' ?_ h2
    rw [List.flatMap_append]; exact h1
theorem size_rf : (Tryd.prog.info? 52).map (·.size) = some 2 := by kernel_rfl

theorem add_atR (g j : Nat) : (⟨g, 0, none⟩ : Addr).add j = ⟨g, j, none⟩ := by
  simp only [Addr.add]
  split
  · rename_i h
    rw [h]
  · simp

theorem cell_two_new (w : World) (a b : Value) (t : TypeId) : ∀ (j : Nat) (u : Value), [a, b][j]? = some u → (w.alloc (.cells #[a, b] t)).cell? ((⟨w.heap.size, 0, none⟩ : Addr).add j) = some u := fun j u hu => by
  have hb := heap_alloc_new w (.cells #[a, b] t)
  rw [add_atR]
  unfold World.cell?
  simp only [hb]
  simpa using hu

theorem own_monoR {w : World} {b c : Nat} {e : TypeId} {size : Nat} {v : Value} {n : Nat} {xs : List Value} (h : w.ownsRow b e size v n xs) (hc : c ≤ b) : w.ownsRow c e size v n xs := by
  refine ⟨h.1, ?_⟩
  rcases h.2 with h0 | ⟨g, cap, cur, rfl, hbg, rest⟩
  · exact .inl h0
  · exact .inr ⟨g, cap, cur, rfl, Nat.le_trans hc hbg, rest⟩
end Gr
end Go.Proofs.YtbgggekkkcefcabDoor
