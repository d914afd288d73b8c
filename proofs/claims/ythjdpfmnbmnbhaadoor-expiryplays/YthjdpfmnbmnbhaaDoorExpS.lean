/- Rows of entries, in memory. -/
import Derived.Test.YthjdpfmnbmnbhaaDoorExpP
import Derived.Test.YthjdpfmnbmnbhaaDoorHepS
import Derived.Test.YthjdpfmnbmnbhaaDoorFoot
import Derived.Test.YthjdpfmnbmnbhaaDoorOwn
import Derived.Laws.AppendOwnNone
import Derived.Deep.MidRow
import Derived.Test.YthjdpfmnbmnbhaaDoorProg
namespace Go.Proofs.YthjdpfmnbmnbhaaDoor
set_option linter.ambiguousOpen false
open Go.RowKit
namespace Ex
open Hh Ft
set_option linter.unusedSimpArgs false
set_option linter.unusedVariables false

@[reducible] def En.cells (x : En) : List Value := [.int .i64 x.s, .int .i64 x.b, .int .i64 x.t]

/-- A row of them lies there. -/
def RdEn (w : World) (v : Value) (l : List En) : Prop :=
  ∃ a cap, v = .slice a l.length cap ∧ l.length ≤ cap ∧ cap ≤ maxLen ∧ (0 < l.length → ∃ g o, a = some ⟨g, o, none⟩ ∧ ∀ (i : Nat) (hi : i < l.length) (c : Nat) (v : Value), (l[i]).cells[c]? = some v → w.cell? ⟨g, o + i * 3 + c, none⟩ = some v)

theorem En.cells_len (s : En) : s.cells.length = 3 := rfl

theorem En.one (s : En) : ∀ u ∈ s.cells, u.oneCell' = true := by
  intro u hu
  simp only [En.cells, List.mem_cons, List.not_mem_nil, or_false] at hu
  rcases hu with rfl | rfl | rfl <;> rfl

theorem flat_lenE : ∀ L : List En, (L.flatMap En.cells).length = L.length * 3
  | [] => rfl
  | s :: t => by rw [List.flatMap_cons, List.length_append, flat_lenE t, En.cells_len, List.length_cons]; omega

theorem flat_atE : ∀ (L : List En) (i c : Nat) (hi : i < L.length) (hc : c < 3), (L.flatMap En.cells)[i * 3 + c]? = (L[i]).cells[c]?
  | [], i, c, hi, _ => by simp at hi
  | s :: t, 0, c, _, hc => by
    rw [List.flatMap_cons, List.getElem?_append_left (by rw [En.cells_len]; omega)]
    simp
  | s :: t, i + 1, c, hi, hc => by
    have ih := flat_atE t i c (by simpa using hi) hc
    rw [List.flatMap_cons, List.getElem?_append_right (by rw [En.cells_len]; omega), En.cells_len, show (i + 1) * 3 + c - 3 = i * 3 + c by omega, ih]
    simp

theorem one_flatE (L : List En) : ∀ u ∈ L.flatMap En.cells, u.oneCell' = true := fun u hu => by
  obtain ⟨s, _, h⟩ := List.mem_flatMap.1 hu
  exact En.one s u h

/-- A list that a call owns is a list of sessions that lies there. -/
theorem own_rdEn {w : World} {base n : Nat} {v : Value} {L : List En} (h : w.ownsRow base 69 3 v n (L.flatMap En.cells)) (hn : n = L.length) : RdEn w v L := by
  subst hn
  have h2 := h.2
  rcases h2 with ⟨rfl, h0⟩ | ⟨g, cap, cur, rfl, _, _, hc, hm, _⟩
  · have e : L = [] := List.eq_nil_of_length_eq_zero h0
    subst e
    exact ⟨none, 0, rfl, Nat.le_refl _, by unfold maxLen; omega, fun h => by simp at h⟩
  · refine ⟨_, cap, rfl, hc, hm, fun _ => ⟨g, 0, rfl, fun i hi c v hv => ?_⟩⟩
    have hc : c < 3 := (List.getElem?_eq_some_iff.1 hv).1
    have := h.cells (g := g) rfl (i * 3 + c) v ((flat_atE L i c hi hc).trans hv)
    rw [Addr.add_mid] at this
    rwa [← Nat.add_assoc] at this

theorem rd_flatE {w : World} {ad : Addr} {cap : Nat} {l : List En} (h : RdEn w (.slice (some ad) l.length cap) l) : ∀ j u, (l.flatMap En.cells)[j]? = some u → w.cell? (ad.add j) = some u := fun j u hu => by
  have hj : j < l.length * 3 := by
    have := (List.getElem?_eq_some_iff.1 hu).1
    rwa [flat_lenE] at this
  obtain ⟨a, c, e, _, _, hc⟩ := h
  obtain ⟨g, o, ha, hat⟩ := hc (by omega)
  injection e with e1 e2 e3
  rw [ha] at e1
  obtain rfl := Option.some.inj e1
  have hi : j / 3 < l.length := by omega
  have e4 := flat_atE l (j / 3) (j % 3) hi (Nat.mod_lt _ (by omega))
  rw [show j / 3 * 3 + j % 3 = j by omega, hu] at e4
  have := hat (j / 3) hi (j % 3) u e4.symm
  rw [Addr.add_mid]
  rwa [Nat.add_assoc, show j / 3 * 3 + j % 3 = j by omega] at this

theorem infoEn : (Tryd.prog.info? 69).map (fun i => (i.zero, i.size, i.bytes)) = some (some (.agg #[.int .i64 0, .int .i64 0, .int .i64 0]), 3, 24) := by kernel_rfl

/-- One list behind another that the call owns. -/
theorem wpList_append_en (w : World) {ops : Array Oper} {rest : List Oper} {o : Oper} {a : Act} {Q : Exit → Act → World → Prop} (hgd : o.guard = none) (s x : Operand)
    (ho : o.op = .call { callee := .builtin .append, args := #[s, x], argTypes := #[26, 26] })
    (base : Nat) (v : Value) (n : Nat) (L : List En) (hs : a.eval s = v) (hown : w.ownsRow base 69 3 v n (L.flatMap En.cells))
    (va : Value) (l : List En) (hx : a.eval x = va) (hR : RdEn w va l) (hnil : ∀ m c, va = .slice none m c → c = 0)
    (hbytes : (n + l.length) * 24 ≤ 140737488355328) (hbase : base ≤ w.heap.size)
    (h : ∀ v' w', w'.ownsRow base 69 3 v' (n + l.length) ((L ++ l).flatMap En.cells) → w.grownBy w' v.ownBlock → wpList Tryd.prog ops Q rest (a.put o.dst v') w') : wpList Tryd.prog ops Q (o :: rest) a w := by
  obtain ⟨i0, hi, hz0, hz1, hz2⟩ := info_parts infoEn
  have hR' := hR
  obtain ⟨ad, cap, rfl, hc, hm, hcell⟩ := hR
  cases ad with
  | none =>
    obtain rfl := hnil _ _ rfl
    have e : l = [] := List.eq_nil_of_length_eq_zero (by omega)
    subst e
    refine wpList_append_own_none hgd s x 26 ho base 69 i0 3 Tryd.underlying26 hi v n _ hs hown hx ?_
    refine h v w ?_ ⟨rfl, rfl, rfl, Nat.le_refl _, fun _ _ _ => rfl⟩
    simpa using hown
  | some ad =>
    refine wpList_append_own w hgd s x 26 ho base 69 i0 (.agg #[.int .i64 0, .int .i64 0, .int .i64 0]) 3 24 Tryd.underlying26 hi hz0 hz1 hz2 rfl (by decide) v n _ hs hown ad l.length cap (l.flatMap En.cells) hx (flat_lenE l) (rd_flatE hR') (one_flatE l) (by unfold maxLen; omega) hbytes hbase ?_
    intro v' w' h1 h2 _
    refine h v' w' ?_ h2
    rw [List.flatMap_append]; exact h1
theorem size_en : (Tryd.prog.info? 69).map (·.size) = some 3 := by kernel_rfl

end Ex
end Go.Proofs.YthjdpfmnbmnbhaaDoor
