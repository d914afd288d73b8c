/- ArnR, ArnS, ArnT, ArnU, in one text. -/
import Derived.Test.YthabnombfbehkaaBaM
import Derived.Test.YthabnombfbehkaaOwn
import Derived.Laws.ResultCell
/- The document's arena: how it lies, and its calls. -/
namespace Go.Proofs.Ythabnombfbehkaa
set_option linter.ambiguousOpen false
open Go.RowKit
namespace An
open Ft Lv
set_option linter.unusedSimpArgs false
set_option linter.unusedVariables false

/-- Where it lies. -/
def rfp (g : Nat) (sv fv : Value) (k : Nat) : Prop := k = g ∨ sv.ownBlock = some k ∨ fv.ownBlock = some k

section
variable {base : Nat} {w w' : World} {g : Nat} {sv fv : Value} {A : Arn}

theorem own_cellsT {e : TypeId} {size n : Nat} {v : Value} {xs : List Value} (h : w.ownsRow base e size v n xs) {k : Nat} (hk : v.ownBlock = some k) : ∃ cur, w.heap[k]? = some (.cells cur e (0, 0)) ∧ base ≤ k := by
  rcases h.2 with ⟨rfl, _⟩ | ⟨b, cap, cur, rfl, hb, hc, _⟩
  · simp [Value.ownBlock] at hk
  · obtain rfl : b = k := by simpa [Value.ownBlock] using hk
    exact ⟨cur, hc, hb⟩

end


/-! ### The list of free ones -/

/-- Where a slot stands among the free ones. -/
def pos (l : List Nat) (i : Nat) : Int := if i ∈ l then (l.idxOf i : Int) else -1

theorem idx_first (l : List Nat) (i k : Nat) (hk : k < l.length) (he : l[k]? = some i) (hn : ∀ j, j < k → l[j]? ≠ some i) : l.idxOf i = k := by
  induction l generalizing k with
  | nil => simp at hk
  | cons a l ih =>
    cases k with
    | zero =>
      simp at he
      subst he
      simp
    | succ k =>
      have h0 := hn 0 (by omega)
      have ha : a ≠ i := fun e => h0 (by simp [e])
      have := ih k (by simpa using hk) (by simpa using he) (fun j hj => by
        have := hn (j + 1) (by omega)
        simpa using this)
      have hb : (a == i) = false := by simpa using ha
      rw [List.idxOf_cons, this, hb]
      rfl

end An
end Go.Proofs.Ythabnombfbehkaa
/- The document's arena: a slot is taken out of the free ones; Take, Place. -/
namespace Go.Proofs.Ythabnombfbehkaa
set_option linter.ambiguousOpen false
open Go.RowKit
namespace An
open Ft Lv
set_option linter.unusedSimpArgs false
set_option linter.unusedVariables false

theorem erase_step (l : List Nat) (k i x : Nat) (hx : l[i]? = some x) : (l.take (i + 1)).eraseIdx k = if i = k then (l.take i).eraseIdx k else (l.take i).eraseIdx k ++ [x] := by
  have hi : i < l.length := (List.getElem?_eq_some_iff.1 hx).1
  have e : l.take (i + 1) = l.take i ++ [x] := by
    rw [List.take_add_one, hx]
    rfl
  have hl : (l.take i).length = i := by rw [List.length_take]; omega
  rw [e]
  rcases Nat.lt_trichotomy i k with h | h | h
  · rw [if_neg (by omega), List.eraseIdx_of_length_le (by simp [hl]; omega), List.eraseIdx_of_length_le (by rw [hl]; omega)]
  · subst h
    have e2 : (l.take i).eraseIdx i = l.take i := List.eraseIdx_of_length_le (by rw [hl]; exact Nat.le_refl _)
    rw [if_pos rfl, List.eraseIdx_append_of_length_le (by rw [hl]; exact Nat.le_refl _), hl, e2, Nat.sub_self]
    simp
  · rw [if_neg (by omega), List.eraseIdx_append_of_lt_length (by rw [hl]; exact h)]

theorem erase_idx (i : Nat) : ∀ l : List Nat, l.eraseIdx (l.idxOf i) = l.erase i
  | [] => rfl
  | a :: l => by
    rw [List.idxOf_cons, List.erase_cons]
    cases h : a == i with
    | true => simp
    | false => simp [erase_idx i l]

theorem pos_in {l : List Nat} {i : Nat} (h : i ∈ l) : pos l i = (l.idxOf i : Int) ∧ l.eraseIdx (l.idxOf i) = l.erase i := ⟨by rw [pos, if_pos h], erase_idx i l⟩

theorem pos_out {l : List Nat} {i : Nat} (h : i ∉ l) : pos l i = -1 := by rw [pos, if_neg h]

end An
end Go.Proofs.Ythabnombfbehkaa
/- The document's arena: Put, Give, New. -/
namespace Go.Proofs.Ythabnombfbehkaa
set_option linter.ambiguousOpen false
open Go.RowKit
namespace An
open Ft Lv
set_option linter.unusedSimpArgs false
set_option linter.unusedVariables false

theorem heap_setCells (b : Nat) (T : TypeId) : ∀ (vs : List Value) (o : Nat) (w : World) (C : Array Value), w.heap[b]? = some (.cells C T) → o + vs.length ≤ C.size → ∃ C' : Array Value, (w.setCells b o vs).heap[b]? = some (.cells C' T) ∧ C'.toList = C.toList.take o ++ vs ++ C.toList.drop (o + vs.length)
  | [], o, w, C, h, hs => ⟨C, h, by simp⟩
  | v :: r, o, w, C, h, hs => by
    simp only [List.length_cons] at hs
    have h1 := heap_setCell_same w b o C T v h
    obtain ⟨C', h2, h3⟩ := heap_setCells b T r (o + 1) (w.setCell ⟨b, o, none⟩ v) _ h1 (by simp; omega)
    refine ⟨C', h2, ?_⟩
    have ho : o < C.toList.length := by rw [Array.length_toList]; omega
    have e0 : (C.toList.set o v).drop (o + 1 + r.length) = C.toList.drop (o + 1 + r.length) := List.drop_set_of_lt (by omega)
    rw [h3, Array.toList_setIfInBounds, List.take_set, e0]
    have e : (C.toList.take (o + 1)).set o v = C.toList.take o ++ [v] := by
      rw [List.take_add_one, List.getElem?_eq_getElem ho, List.set_append_right _ _ (by rw [List.length_take]; omega), List.length_take, show o - min o C.toList.length = 0 by omega]
      simp
    rw [e]
    simp only [List.length_cons, List.append_assoc, List.cons_append, List.nil_append]
    rw [show o + 1 + r.length = o + (r.length + 1) by omega]

theorem grown_setCells (b : Nat) : ∀ (vs : List Value) (o : Nat) (w : World), w.grownBy (w.setCells b o vs) (some b)
  | [], o, w => ⟨rfl, rfl, rfl, Nat.le_refl _, fun _ _ _ => rfl⟩
  | v :: r, o, w => by
    have ih := grown_setCells b r (o + 1) (w.setCell ⟨b, o, none⟩ v)
    exact ⟨ih.os, ih.tape, ih.output, by have := ih.size; rw [World.setCells]; simpa using this, fun k hk hn => (ih.block k (by simpa using hk) hn).trans (Below.heap_setCell _ _ _ k (fun e => hn (by rw [e])))⟩

section
variable {base : Nat} {w : World} {g b cap : Nat} {fv : Value} {A : Arn}

end


end An
end Go.Proofs.Ythabnombfbehkaa
/- The document's arena: Give, New. -/
namespace Go.Proofs.Ythabnombfbehkaa
set_option linter.ambiguousOpen false
open Go.RowKit
namespace An
open Ft Lv
set_option linter.unusedSimpArgs false
set_option linter.unusedVariables false

/-- Ints are appended to a row of one's own. -/
theorem append_rowI {w : World} {base n : Nat} {v : Value} {xs : List Value} (hown : w.ownsRow base 3 1 v n xs) {u : Value} {b2 m : Nat} {l : List Nat} (hR : w.ownsRow b2 3 1 u m (l.map nun)) (hb : (n + m) * 8 ≤ 140737488355328) (hbase : base ≤ w.heap.size) (ty : TypeId) :
    ∃ v' w', (Builtin.append_ #[22, 22] ty #[v, u]).run Try.prog w = .ok v' w' ∧ w'.ownsRow base 3 1 v' (n + m) (xs ++ l.map nun) ∧ w.grownBy w' v.ownBlock := by
  obtain ⟨i0, hi, hz0, hz1, hz2⟩ := info_parts info_int
  have hlm := hR.1
  rw [List.length_map, Nat.mul_one] at hlm
  rcases hR.2 with ⟨rfl, rfl⟩ | ⟨g, cap, cur, rfl, h1, h2, h3, h4, h5, h6⟩
  · obtain rfl := List.eq_nil_of_length_eq_zero hlm
    exact ⟨v, w, run_append_owned_none w base 22 ty 3 i0 1 Try.underlying22 hi v n xs hown, by simpa using hown, ⟨rfl, rfl, rfl, Nat.le_refl _, fun _ _ _ => rfl⟩⟩
  · have hn : ∀ j u, (l.map nun)[j]? = some u → w.cell? ((⟨g, 0, none⟩ : Addr).add j) = some u := fun j u hj => hR.cells (g := g) rfl j u hj
    obtain ⟨v', w', hr, g1, g2, _, g4⟩ := run_append_own_at (P := Try.prog) w base 22 ty 3 i0 (.int .i64 0) 1 8 Try.underlying22 hi hz0 hz1 hz2 rfl (by decide) v n xs hown ⟨g, 0, none⟩ m cap (l.map nun) (by simp [hlm]) hn (fun u hu => by
      obtain ⟨b, _, rfl⟩ := List.mem_map.1 hu
      rfl) (by unfold maxLen; omega) hb hbase
    exact ⟨v', w', hr, g1, g2⟩

theorem wpList_append_rowI {w : World} {ops : Array Oper} {rest : List Oper} {o : Oper} {a : Act} {Q : Exit → Act → World → Prop} (hgd : o.guard = none) (s x : Operand)
    (ho : o.op = .call { callee := .builtin .append, args := #[s, x], argTypes := #[22, 22] })
    (base n : Nat) (v u : Value) (xs : List Value) (b2 m : Nat) (l : List Nat) (hs : a.eval s = v) (hx : a.eval x = u) (hown : w.ownsRow base 3 1 v n xs) (hR : w.ownsRow b2 3 1 u m (l.map nun)) (hb : (n + m) * 8 ≤ 140737488355328) (hbase : base ≤ w.heap.size)
    (h : ∀ v' w', w'.ownsRow base 3 1 v' (n + m) (xs ++ l.map nun) → w.grownBy w' v.ownBlock → wpList Try.prog ops Q rest (a.put o.dst v') w') : wpList Try.prog ops Q (o :: rest) a w := by
  refine wpList_plain hgd fun K hK => ?_
  obtain ⟨v', w', hr, h1, h2⟩ := append_rowI hown hR hb hbase o.type
  unfold Oper.wp execOp
  simp only [ho, resolve, invoke, builtin, Sem.run_bind, Sem.run_pure, Result.andThen_ok, List.map_toArray, List.map_cons, List.map_nil, hs, hx, hr]
  exact hK _ _ (h v' w' h1 h2)

/-- The arena's first k slots are there. -/
def arnK (k : Nat) : Arn := ⟨List.replicate k bare, List.range k, 0⟩

theorem slt_fold (x : Slt) : List.foldl (fun (cs : Array Value) (y : Value × Nat) => cs.setIfInBounds y.snd y.fst) sltZ x.cells.zipIdx = x.cells.toArray := by kernel_rfl

end An
end Go.Proofs.Ythabnombfbehkaa
