/- Lists of sessions that a call owns; one list behind another. -/
import Derived.Test.YtfhnfejghngoeaaDoorBests
import Derived.Laws.AppendOwnNone
namespace Go.Proofs.YtfhnfejghngoeaaDoor
set_option linter.ambiguousOpen false
open Go.RowKit
namespace Lv
set_option linter.unusedSimpArgs false
set_option linter.unusedVariables false

theorem Ses.cells_len3 (s : Ses) : s.cells.length = 12 := rfl

theorem Ses.one3 (s : Ses) : ∀ u ∈ s.cells, u.oneCell' = true := by
  intro u hu
  simp only [Ses.cells, List.mem_cons, List.not_mem_nil, or_false] at hu
  rcases hu with rfl | rfl | rfl | rfl | rfl | rfl | rfl | rfl | rfl | rfl | rfl | rfl <;> rfl

theorem flat_len3 : ∀ L : List Ses, (L.flatMap Ses.cells).length = L.length * 12
  | [] => rfl
  | s :: t => by rw [List.flatMap_cons, List.length_append, flat_len3 t, Ses.cells_len3, List.length_cons]; omega

theorem flat_at3 : ∀ (L : List Ses) (i c : Nat) (hi : i < L.length) (hc : c < 12), (L.flatMap Ses.cells)[i * 12 + c]? = (L[i]).cells[c]?
  | [], i, c, hi, _ => by simp at hi
  | s :: t, 0, c, _, hc => by
    rw [List.flatMap_cons, List.getElem?_append_left (by rw [Ses.cells_len3]; omega)]
    simp
  | s :: t, i + 1, c, hi, hc => by
    have ih := flat_at3 t i c (by simpa using hi) hc
    rw [List.flatMap_cons, List.getElem?_append_right (by rw [Ses.cells_len3]; omega), Ses.cells_len3, show (i + 1) * 12 + c - 12 = i * 12 + c by omega, ih]
    simp

theorem one_flat3 (L : List Ses) : ∀ u ∈ L.flatMap Ses.cells, u.oneCell' = true := fun u hu => by
  obtain ⟨s, _, h⟩ := List.mem_flatMap.1 hu
  exact Ses.one3 s u h

/-- A list that a call owns is a list of sessions that lies there. -/
theorem own_rd {w : World} {base n : Nat} {v : Value} {L : List Ses} (h : w.ownsRow base 46 12 v n (L.flatMap Ses.cells)) (hn : n = L.length) : RdS w v L := by
  subst hn
  have h2 := h.2
  rcases h2 with ⟨rfl, h0⟩ | ⟨g, cap, cur, rfl, _, _, hc, hm, _⟩
  · have e : L = [] := List.eq_nil_of_length_eq_zero h0
    subst e
    exact ⟨none, 0, rfl, Nat.le_refl _, by unfold maxLen; omega, fun h => by simp at h⟩
  · refine ⟨_, cap, rfl, hc, hm, fun _ => ⟨g, 0, rfl, fun i hi c v hv => ?_⟩⟩
    have hc : c < 12 := (List.getElem?_eq_some_iff.1 hv).1
    have := h.cells (g := g) rfl (i * 12 + c) v ((flat_at3 L i c hi hc).trans hv)
    rw [Addr.add_mid] at this
    rwa [← Nat.add_assoc] at this

theorem own_below3 {w w' : World} {base : Nat} {e : TypeId} {size : Nat} {v : Value} {n : Nat} {xs : List Value} (h : w.ownsRow base e size v n xs) (hb : Below w.heap.size w w') : w'.ownsRow base e size v n xs := by
  refine ⟨h.1, ?_⟩
  rcases h.2 with hn | ⟨g, cap, cur, rfl, hbg, hgg, rest⟩
  · exact .inl hn
  · refine .inr ⟨g, cap, cur, rfl, hbg, ?_, rest⟩
    rw [hb.block g (Array.getElem?_eq_some_iff.1 hgg).1]
    exact hgg

theorem rd_flat {w : World} {ad : Addr} {cap : Nat} {l : List Ses} (h : RdS w (.slice (some ad) l.length cap) l) : ∀ j u, (l.flatMap Ses.cells)[j]? = some u → w.cell? (ad.add j) = some u := fun j u hu => by
  have hj : j < l.length * 12 := by
    have := (List.getElem?_eq_some_iff.1 hu).1
    rwa [flat_len3] at this
  obtain ⟨a, c, e, _, _, hc⟩ := h
  obtain ⟨g, o, ha, hat⟩ := hc (by omega)
  injection e with e1 e2 e3
  rw [ha] at e1
  obtain rfl := Option.some.inj e1
  have hi : j / 12 < l.length := by omega
  have e4 := flat_at3 l (j / 12) (j % 12) hi (Nat.mod_lt _ (by omega))
  rw [show j / 12 * 12 + j % 12 = j by omega, hu] at e4
  have := hat (j / 12) hi (j % 12) u e4.symm
  rw [Addr.add_mid]
  rwa [Nat.add_assoc, show j / 12 * 12 + j % 12 = j by omega] at this

theorem Tryd.infoSes3 : (Tryd.prog.info? 46).map (fun i => (i.zero, i.size, i.bytes)) = some (some (.agg zs.arr), 12, 112) := by kernel_rfl

theorem heap_new2 (w : World) (a b : Obj) : ((w.alloc a).alloc b).heap[w.heap.size + 1]? = some b := by
  have h := heap_alloc_new (w.alloc a) b
  have e : (w.alloc a).heap.size = w.heap.size + 1 := by simp
  rw [e] at h
  exact h

/-- One list behind another that the call owns. -/
theorem wpList_append_ses (w : World) {ops : Array Oper} {rest : List Oper} {o : Oper} {a : Act} {Q : Exit → Act → World → Prop} (hgd : o.guard = none) (s x : Operand)
    (ho : o.op = .call { callee := .builtin .append, args := #[s, x], argTypes := #[40, 40] })
    (base : Nat) (v : Value) (n : Nat) (L : List Ses) (hs : a.eval s = v) (hown : w.ownsRow base 46 12 v n (L.flatMap Ses.cells))
    (va : Value) (l : List Ses) (hx : a.eval x = va) (hR : RdS w va l) (hnil : ∀ m c, va = .slice none m c → c = 0)
    (hbytes : (n + l.length) * 112 ≤ 140737488355328) (hbase : base ≤ w.heap.size)
    (h : ∀ v' w', w'.ownsRow base 46 12 v' (n + l.length) ((L ++ l).flatMap Ses.cells) → w.grownBy w' v.ownBlock → wpList Tryd.prog ops Q rest (a.put o.dst v') w') : wpList Tryd.prog ops Q (o :: rest) a w := by
  obtain ⟨i0, hi, hz0, hz1, hz2⟩ := info_parts Tryd.infoSes3
  have hR' := hR
  obtain ⟨ad, cap, rfl, hc, hm, hcell⟩ := hR
  cases ad with
  | none =>
    obtain rfl := hnil _ _ rfl
    have e : l = [] := List.eq_nil_of_length_eq_zero (by omega)
    subst e
    refine wpList_append_own_none hgd s x 40 ho base 46 i0 12 Tryd.underlying40 hi v n _ hs hown hx ?_
    refine h v w ?_ ⟨rfl, rfl, rfl, Nat.le_refl _, fun _ _ _ => rfl⟩
    simpa using hown
  | some ad =>
    refine wpList_append_own w hgd s x 40 ho base 46 i0 (.agg zs.arr) 12 112 Tryd.underlying40 hi hz0 hz1 hz2 rfl (by decide) v n _ hs hown ad l.length cap (l.flatMap Ses.cells) hx (flat_len3 l) (rd_flat hR') (one_flat3 l) (by unfold maxLen; omega) hbytes hbase ?_
    intro v' w' h1 h2 _
    refine h v' w' ?_ h2
    rw [List.flatMap_append]; exact h1
end Lv
end Go.Proofs.YtfhnfejghngoeaaDoor
