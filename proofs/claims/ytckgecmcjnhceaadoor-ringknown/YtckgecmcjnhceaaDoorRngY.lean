/- Pieces of a row; a row without one of its numbers, laid together in its own place. -/
import Derived.Test.YtckgecmcjnhceaaDoorRngX
namespace Go.Proofs.YtckgecmcjnhceaaDoor
set_option linter.ambiguousOpen false
open Go.RowKit
namespace Rg
open An Ft Lv
set_option linter.unusedSimpArgs false
set_option linter.unusedVariables false

/-- What is told of a row of one's own: nothing, or a block from its beginning on. -/
theorem own_head {w : World} {base n cap : Nat} {a : Option Addr} {xs : List Value} (h : w.ownsRow base 3 1 (.slice a n cap) n xs) : a = none ∧ n = 0 ∧ cap = 0 ∨ ∃ g, a = some ⟨g, 0, none⟩ := by
  rcases h.2 with ⟨e, h0⟩ | ⟨g, cap', cur, e, _⟩
  · simp only [Value.slice.injEq] at e
    exact .inl ⟨e.1, h0, e.2.2⟩
  · simp only [Value.slice.injEq] at e
    exact .inr ⟨g, e.1⟩

/-- A row of one's own, with less of it told. -/
theorem own_lessR {w : World} {base n m cap : Nat} {a : Option Addr} {l : List Nat} (h : w.ownsRow base 3 1 (.slice a n cap) n (l.map nun)) (hm : m ≤ n) (ha : a ≠ none) : w.ownsRow base 3 1 (.slice a m cap) m ((l.take m).map nun) := by
  rcases h.2 with ⟨e, _⟩ | ⟨b, cap', cur, e, hb, hc, h3, h4, h5, h6⟩
  · simp at e
    exact absurd e.1 ha
  · simp only [Value.slice.injEq, true_and] at e
    obtain ⟨rfl, rfl⟩ := e
    have hl := h.1
    rw [List.length_map, Nat.mul_one] at hl
    refine ⟨by simp; omega, .inr ⟨b, cap, cur, rfl, hb, hc, by omega, h4, h5, ?_⟩⟩
    rw [List.map_take, ← h6, List.take_take]
    congr 1
    omega

/-- The beginning of a row. -/
theorem rdO_take {w : World} {base n cap : Nat} {a : Option Addr} {l : List Nat} (h : w.ownsRow base 3 1 (.slice a n cap) n (l.map nun)) (k : Nat) (hk : k ≤ n) : RdO w (.slice a k cap) (l.take k) := by
  have hl := h.1
  rw [List.length_map, Nat.mul_one] at hl
  obtain ⟨a', cap', e, h1, h2, h3⟩ := rdO_own h
  simp only [Value.slice.injEq] at e
  obtain ⟨rfl, -, rfl⟩ := e
  have hlt : (l.take k).length = k := by rw [List.length_take]; omega
  refine ⟨a, cap, by rw [hlt], by omega, h2, fun h0 => ?_⟩
  obtain ⟨g, o, rfl, hg, hc⟩ := h3 (by omega)
  refine ⟨g, o, rfl, hg, fun j i hj => hc j i ?_⟩
  rw [List.getElem?_take] at hj
  split at hj
  · exact hj
  · simp at hj

theorem slice_toR (a : Option Addr) (len cap k : Nat) (h : k ≤ cap) (w : World) : (Instr.slice 30 (.slice a len cap) none (some (.int .i64 (k : Int))) none).run Tryd.prog w = .ok (.slice a k cap) w := by
  have h1 : (0 : Int) ≤ (k : Int) ∧ (k : Int) ≤ (cap : Int) := by omega
  have hu := Tryd.underlying30
  cases a with
  | none =>
    simp [Instr.slice, Instr.sliceBounds, Instr.sliceBound, asIntOf, run_underlying hu]
    intro hh; omega
  | some ad =>
    simp [Instr.slice, Instr.sliceBounds, Instr.sliceBound, asIntOf, run_underlying hu, Addr.add]
    intro hh; omega

/-- Where the rest of a row begins. -/
def rest (a : Option Addr) (cap k : Nat) : Option Addr := match a with
  | none => none
  | some ad => if cap = k then some ad else some ⟨ad.block, ad.off + k, none⟩

set_option maxRecDepth 100000 in
theorem slice_rest {w : World} {base n cap : Nat} {a : Option Addr} {xs : List Value} (h : w.ownsRow base 3 1 (.slice a n cap) n xs) (k : Nat) (hk : k ≤ n) (wx : World) : (Instr.slice 30 (.slice a n cap) (some (.int .i64 (k : Int))) none none).run Tryd.prog wx = .ok (.slice (rest a cap k) (n - k) (cap - k)) wx := by
  have hu := Tryd.underlying30
  obtain ⟨_, _, e, hc, _⟩ := Nm.own_shape h
  simp only [Value.slice.injEq] at e
  obtain ⟨-, -, rfl⟩ := e
  have h1 : (0 : Int) ≤ (k : Int) ∧ (k : Int) ≤ (cap : Int) := by omega
  rcases own_head h with ⟨rfl, rfl, rfl⟩ | ⟨g, rfl⟩
  · obtain rfl : k = 0 := by omega
    simp [Instr.slice, Instr.sliceBounds, Instr.sliceBound, asIntOf, run_underlying hu, rest]
  · simp [Instr.slice, Instr.sliceBounds, Instr.sliceBound, asIntOf, run_underlying hu, Addr.add, rest]
    rw [if_pos hk]
    congr 2
    by_cases e : cap = k
    · simp [e]
    · by_cases h0 : k = 0
      · subst h0
        simp [e]
      · simp [e, h0]

theorem rdO_rest {w : World} {base n cap : Nat} {a : Option Addr} {l : List Nat} (h : w.ownsRow base 3 1 (.slice a n cap) n (l.map nun)) (k : Nat) (hk : k ≤ n) : RdO w (.slice (rest a cap k) (n - k) (cap - k)) (l.drop k) ∧ ∀ j, blk (.slice (rest a cap k) (n - k) (cap - k)) j → blk (.slice a n cap) j := by
  have hl := h.1
  rw [List.length_map, Nat.mul_one] at hl
  obtain ⟨a', cap', e, h1, h2, h3⟩ := rdO_own h
  simp only [Value.slice.injEq] at e
  obtain ⟨rfl, -, rfl⟩ := e
  unfold maxLen at h2
  have hlt : (l.drop k).length = n - k := by rw [List.length_drop]; omega
  refine ⟨⟨_, cap - k, by rw [hlt], by omega, by unfold maxLen; omega, fun h0 => ?_⟩, fun j hj => ?_⟩
  · obtain ⟨g, o, rfl, hg, hc⟩ := h3 (by rw [hlt] at h0; omega)
    refine ⟨g, o + k, ?_, hg, fun j i hj => ?_⟩
    · rw [hlt] at h0
      show (if cap = k then some (⟨g, o, none⟩ : Addr) else some ⟨g, o + k, none⟩) = _
      rw [if_neg (by omega)]
    · rw [List.getElem?_drop] at hj
      have := hc (k + j) i hj
      rw [show o + k + j = o + (k + j) by omega]
      exact this
  · rcases own_head h with ⟨rfl, _, _⟩ | ⟨g, rfl⟩
    · exact hj
    · by_cases e : cap = k
      · simpa [rest, e, blk] using hj
      · simpa [rest, e, blk] using hj

/-- append, by what its run is. -/
theorem wp_append_run {o : Oper} {a : Act} {w w' : World} {K : Act → World → Prop} {Q : Exit → Act → World → Prop} (s x : Operand) (ho : o.op = .call { callee := .builtin .append, args := #[s, x], argTypes := #[30, 30] }) {v u v' : Value} (hs : a.eval s = v) (hx : a.eval x = u) (hr : (Builtin.append_ #[30, 30] o.type #[v, u]).run Tryd.prog w = .ok v' w') (h : K (a.put o.dst v') w') : Oper.wp Tryd.prog o a w K Q := by
  unfold Oper.wp execOp
  simp only [ho, resolve, invoke, builtin, Sem.run_bind, Sem.run_pure, Result.andThen_ok, List.map_toArray, List.map_cons, List.map_nil, hs, hx, hr]
  exact h

theorem wpList_append_run {w w' : World} {ops : Array Oper} {rest : List Oper} {o : Oper} {a : Act} {Q : Exit → Act → World → Prop} (hgd : o.guard = none) (s x : Operand) (ho : o.op = .call { callee := .builtin .append, args := #[s, x], argTypes := #[30, 30] }) {v u v' : Value} (hs : a.eval s = v) (hx : a.eval x = u) (hr : (Builtin.append_ #[30, 30] o.type #[v, u]).run Tryd.prog w = .ok v' w') (h : wpList Tryd.prog ops Q rest (a.put o.dst v') w') : wpList Tryd.prog ops Q (o :: rest) a w :=
  wpList_plain hgd fun K hK => wp_append_run s x ho hs hx hr (hK _ _ h)

/-- One is taken out of a row, in its own place. -/
theorem cut_out {w : World} {base n cap : Nat} {a : Option Addr} {l : List Nat} (h : w.ownsRow base 3 1 (.slice a n cap) n (l.map nun)) (k : Nat) (hk : k < n) (hn : n ≤ 32) (hb : base ≤ w.heap.size) (ty : TypeId) :
    ∃ w', (Builtin.append_ #[30, 30] ty #[.slice a k cap, .slice (rest a cap (k + 1)) (n - (k + 1)) (cap - (k + 1))]).run Tryd.prog w = .ok (.slice a (n - 1) cap) w' ∧ w'.ownsRow base 3 1 (.slice a (n - 1) cap) (n - 1) ((l.eraseIdx k).map nun) ∧ w.grownBy w' (Value.slice a n cap).ownBlock := by
  obtain ⟨i0, ji, hz0, hz1, hz2⟩ := info_parts info_int
  have hl := h.1
  rw [List.length_map, Nat.mul_one] at hl
  rcases own_head h with ⟨_, h0, _⟩ | ⟨g, rfl⟩
  · omega
  have hu := own_lessR h (show k ≤ n by omega) (by simp)
  have hE : l.eraseIdx k = l.take k ++ l.drop (k + 1) := List.eraseIdx_eq_take_drop_succ _ _
  rcases h.2 with ⟨e, _⟩ | ⟨g', cap', cur, e, hbg, hg, hnc, hcm, hcs, htake⟩
  · simp at e
  simp only [Value.slice.injEq, Option.some.injEq, Addr.mk.injEq, and_true, true_and] at e
  obtain ⟨rfl, rfl⟩ := e
  obtain ⟨ad, had, hnews⟩ : ∃ ad : Addr, rest (some ⟨g, 0, none⟩) cap (k + 1) = some ad ∧ ∀ j u, ((l.drop (k + 1)).map nun)[j]? = some u → w.cell? (ad.add j) = some u := by
    by_cases hc : cap = k + 1
    · refine ⟨⟨g, 0, none⟩, by simp [rest, hc], fun j u hj => ?_⟩
      rw [List.drop_of_length_le (by omega)] at hj
      simp at hj
    · refine ⟨⟨g, 0 + (k + 1), none⟩, by simp [rest, hc], fun j u hj => ?_⟩
      rw [List.getElem?_map, List.getElem?_drop, Option.map_eq_some_iff] at hj
      obtain ⟨i, hi, rfl⟩ := hj
      have := h.cellAt (g := g) (cap := cap) (k + 1 + j) (by have := (List.getElem?_eq_some_iff.1 hi).1; omega)
      rw [List.getElem?_map, hi] at this
      have e2 : (⟨g, 0 + (k + 1), none⟩ : Addr).add j = ⟨g, k + 1 + j, none⟩ := by
        unfold Addr.add
        split
        · next e => subst e; simp
        · simp
      rw [e2]
      exact this
  have hone : ∀ u ∈ (l.drop (k + 1)).map nun, u.oneCell' = true := fun u hu' => by
    obtain ⟨b, _, rfl⟩ := List.mem_map.1 hu'
    rfl
  have hlen : ((l.drop (k + 1)).map nun).length = (n - (k + 1)) * 1 := by rw [List.length_map, List.length_drop]; omega
  obtain ⟨v', w', hr, g1, g2, _⟩ := run_append_own (P := Tryd.prog) w base 30 ty 3 i0 (.int .i64 0) 1 8 Tryd.underlying30 ji hz0 hz1 hz2 rfl (by decide) (.slice (some ⟨g, 0, none⟩) k cap) k _ hu ad (n - (k + 1)) (cap - (k + 1)) ((l.drop (k + 1)).map nun) hlen hnews hone (by unfold maxLen; omega) (by omega) hb
  have hr2 := run_append_room (P := Tryd.prog) w 30 ty 3 i0 Tryd.underlying30 ji g k cap cur hg ad (n - (k + 1)) (cap - (k + 1)) ((l.drop (k + 1)).map nun) (by rw [hz1]; exact hlen) hnews hone (by omega) (by rw [hz1, hlen]; omega)
  have hr' := hr
  rw [hr2] at hr'
  injection hr' with e1 e2
  have hn1 : k + (n - (k + 1)) = n - 1 := by omega
  rw [hn1] at e1 g1
  subst e1
  rw [had]
  refine ⟨w', hr, ?_, g2⟩
  rw [hE, List.map_append]
  exact g1

/-- The arena stays while a row beside it is turned. -/
theorem Sr.grown {Rep : World → Nat → (Nat → Prop) → Arn → Prop} (H : KeepC Rep) {w0 w w' : World} {p : Nat} {A : Arn} {n m : Nat} {a : Option Addr} {cap : Nat} (h : Sr Rep w0 w p A (blk (.slice a n cap))) (hg : w.grownBy w' (Value.slice a n cap).ownBlock) (hb : ∀ r, (Value.slice a n cap).ownBlock = some r → w0.heap.size ≤ r ∧ blk (.slice a n cap) r) : Sr Rep w0 w' p A (blk (.slice a m cap)) := by
  obtain ⟨F, h1, h2, h3, h4, h5⟩ := h
  refine ⟨F, H.keep h1 ((Keep.refl (fun j => (Value.slice a n cap).ownBlock = some j) w).grown hg (fun k e => .inl e)) (fun k hF e => (h5 k (hb k e).2).1 hF), h2, h3, h4.grown hg h4.size (fun r e => (hb r e).1), fun k hk => ?_⟩
  have hk' : blk (.slice a n cap) k := by cases a <;> exact hk
  exact ⟨(h5 k hk').1, Nat.lt_of_lt_of_le (h5 k hk').2 hg.size⟩
end Rg
end Go.Proofs.YtckgecmcjnhceaaDoor
