/- Rows of numbers with keys, in memory. -/
import Derived.Test.YthjdpfmnbmnbhaaHepP
import Derived.Test.YthjdpfmnbmnbhaaFoot
import Derived.Test.YthjdpfmnbmnbhaaOwn
import Derived.Laws.AppendOwnNone
import Derived.Deep.MidRow
import Derived.Test.YthjdpfmnbmnbhaaProg
namespace Go.Proofs.Ythjdpfmnbmnbhaa
set_option linter.ambiguousOpen false
open Go.RowKit
namespace Hh
open Ft
set_option linter.unusedSimpArgs false
set_option linter.unusedVariables false

theorem Hid.mk' {p : Prop} (h : p) : Hid p := h

@[reducible] def nu (i : Int) : Value := .int .i64 i

@[reducible] def nun (i : Nat) : Value := .int .i64 (i : Int)

@[reducible] def ptr (b : Nat) : Value := .pointer (some ⟨b, 0, none⟩)

@[reducible] def It.cells (x : It) : List Value := [.int .i64 x.i, .int .i64 x.k]

/-- A row of them lies there. -/
def RdI (w : World) (v : Value) (l : List It) : Prop :=
  ∃ a cap, v = .slice a l.length cap ∧ l.length ≤ cap ∧ cap ≤ maxLen ∧ (0 < l.length → ∃ g o, a = some ⟨g, o, none⟩ ∧ ∀ (i : Nat) (hi : i < l.length) (c : Nat) (v : Value), (l[i]).cells[c]? = some v → w.cell? ⟨g, o + i * 2 + c, none⟩ = some v)

theorem It.cells_len (s : It) : s.cells.length = 2 := rfl

theorem It.one (s : It) : ∀ u ∈ s.cells, u.oneCell' = true := by
  intro u hu
  simp only [It.cells, List.mem_cons, List.not_mem_nil, or_false] at hu
  rcases hu with rfl | rfl <;> rfl

theorem flat_lenI : ∀ L : List It, (L.flatMap It.cells).length = L.length * 2
  | [] => rfl
  | s :: t => by rw [List.flatMap_cons, List.length_append, flat_lenI t, It.cells_len, List.length_cons]; omega

theorem flat_atI : ∀ (L : List It) (i c : Nat) (hi : i < L.length) (hc : c < 2), (L.flatMap It.cells)[i * 2 + c]? = (L[i]).cells[c]?
  | [], i, c, hi, _ => by simp at hi
  | s :: t, 0, c, _, hc => by
    rw [List.flatMap_cons, List.getElem?_append_left (by rw [It.cells_len]; omega)]
    simp
  | s :: t, i + 1, c, hi, hc => by
    have ih := flat_atI t i c (by simpa using hi) hc
    rw [List.flatMap_cons, List.getElem?_append_right (by rw [It.cells_len]; omega), It.cells_len, show (i + 1) * 2 + c - 2 = i * 2 + c by omega, ih]
    simp

theorem one_flatI (L : List It) : ∀ u ∈ L.flatMap It.cells, u.oneCell' = true := fun u hu => by
  obtain ⟨s, _, h⟩ := List.mem_flatMap.1 hu
  exact It.one s u h

theorem own_belowI {w w' : World} {base : Nat} {e : TypeId} {size : Nat} {v : Value} {n : Nat} {xs : List Value} (h : w.ownsRow base e size v n xs) (hb : Below w.heap.size w w') : w'.ownsRow base e size v n xs := by
  refine ⟨h.1, ?_⟩
  rcases h.2 with hn | ⟨g, cap, cur, rfl, hbg, hgg, rest⟩
  · exact .inl hn
  · refine .inr ⟨g, cap, cur, rfl, hbg, ?_, rest⟩
    rw [hb.block g (Array.getElem?_eq_some_iff.1 hgg).1]
    exact hgg

theorem rd_flatI {w : World} {ad : Addr} {cap : Nat} {l : List It} (h : RdI w (.slice (some ad) l.length cap) l) : ∀ j u, (l.flatMap It.cells)[j]? = some u → w.cell? (ad.add j) = some u := fun j u hu => by
  have hj : j < l.length * 2 := by
    have := (List.getElem?_eq_some_iff.1 hu).1
    rwa [flat_lenI] at this
  obtain ⟨a, c, e, _, _, hc⟩ := h
  obtain ⟨g, o, ha, hat⟩ := hc (by omega)
  injection e with e1 e2 e3
  rw [ha] at e1
  obtain rfl := Option.some.inj e1
  have hi : j / 2 < l.length := by omega
  have e4 := flat_atI l (j / 2) (j % 2) hi (Nat.mod_lt _ (by omega))
  rw [show j / 2 * 2 + j % 2 = j by omega, hu] at e4
  have := hat (j / 2) hi (j % 2) u e4.symm
  rw [Addr.add_mid]
  rwa [Nat.add_assoc, show j / 2 * 2 + j % 2 = j by omega] at this

theorem add_atI (g j : Nat) : (⟨g, 0, none⟩ : Addr).add j = ⟨g, j, none⟩ := by
  simp only [Addr.add]
  split
  · rename_i h
    rw [h]
  · simp

theorem cell_two_new (w : World) (a b : Value) (t : TypeId) : ∀ (j : Nat) (u : Value), [a, b][j]? = some u → (w.alloc (.cells #[a, b] t)).cell? ((⟨w.heap.size, 0, none⟩ : Addr).add j) = some u := fun j u hu => by
  have hb := heap_alloc_new w (.cells #[a, b] t)
  rw [add_atI]
  unfold World.cell?
  simp only [hb]
  simpa using hu

theorem own_monoI {w : World} {b c : Nat} {e : TypeId} {size : Nat} {v : Value} {n : Nat} {xs : List Value} (h : w.ownsRow b e size v n xs) (hc : c ≤ b) : w.ownsRow c e size v n xs := by
  refine ⟨h.1, ?_⟩
  rcases h.2 with h0 | ⟨g, cap, cur, rfl, hbg, rest⟩
  · exact .inl h0
  · exact .inr ⟨g, cap, cur, rfl, Nat.le_trans hc hbg, rest⟩
end Hh
end Go.Proofs.Ythjdpfmnbmnbhaa
