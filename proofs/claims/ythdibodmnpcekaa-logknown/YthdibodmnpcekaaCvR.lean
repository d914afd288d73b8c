/- Rows of bytes that a conversion has made: they are this call's own, though their block bears a mark; appending a text to one. -/
import Derived.Test.YthdibodmnpcekaaBlkR
import Derived.Laws.IdiomCopy
import Derived.Laws.IdiomStrings
import Derived.ArgAppend
namespace Go.Proofs.Ythdibodmnpcekaa
set_option linter.ambiguousOpen false
open Go.RowKit
namespace Rc
open Sm Pk
set_option linter.unusedSimpArgs false
set_option linter.unusedVariables false

/-- A row of one's own, by its cells. -/
structure OwnT (w : World) (base : Nat) (v : Value) (l : List UInt8) (g cap : Nat) : Prop where
  v : v = .slice (some ⟨g, 0, none⟩) l.length cap
  b : base ≤ g
  lt : g < w.heap.size
  le : l.length ≤ cap
  max : cap ≤ maxLen
  at_ : ∀ j (hj : j < l.length), w.cell? ⟨g, j, none⟩ = some (by1 l[j])
  there : ∀ j, j < cap → (w.cell? ⟨g, j, none⟩).isSome = true
  free : ∀ j, w.frozen? ⟨g, j, none⟩ = false ∨ cap ≤ j

/-- That, or nothing. -/
def OwnC (w : World) (base : Nat) (v : Value) (l : List UInt8) : Prop := (v = .slice none 0 0 ∧ l = []) ∨ ∃ g cap, OwnT w base v l g cap

theorem OwnC.rd {w : World} {base : Nat} {v : Value} {l : List UInt8} (h : OwnC w base v l) : RdB w v l := by
  rcases h with ⟨rfl, rfl⟩ | ⟨g, cap, h⟩
  · exact rd_nil w
  · refine ⟨_, cap, h.v, h.le, h.max, fun _ => ⟨g, 0, rfl, h.lt, fun j hj => ?_⟩⟩
    rw [Nat.zero_add]
    exact h.at_ j hj

theorem OwnC.nz {w : World} {base : Nat} {v : Value} {l : List UInt8} (h : OwnC w base v l) : Nz v := by
  rcases h with ⟨rfl, rfl⟩ | ⟨g, cap, h⟩
  · exact .inl rfl
  · exact .inr ⟨_, _, _, h.v⟩

theorem OwnC.shape {w : World} {base : Nat} {v : Value} {l : List UInt8} (h : OwnC w base v l) : ∃ a cap, v = .slice a l.length cap := by
  rcases h with ⟨rfl, rfl⟩ | ⟨g, cap, h⟩
  · exact ⟨_, _, rfl⟩
  · exact ⟨_, _, h.v⟩

theorem OwnC.lt {w : World} {base : Nat} {v : Value} {l : List UInt8} (h : OwnC w base v l) : ∀ k, v.ownBlock = some k → base ≤ k ∧ k < w.heap.size := by
  intro k hk
  rcases h with ⟨rfl, rfl⟩ | ⟨g, cap, h⟩
  · simp [Value.ownBlock] at hk
  · rw [h.v] at hk
    simp [Value.ownBlock] at hk
    subst hk
    exact ⟨h.b, h.lt⟩

theorem OwnC.below {w w' : World} {base : Nat} {v : Value} {l : List UInt8} (h : OwnC w base v l) (hb : Below w.heap.size w w') : OwnC w' base v l := by
  rcases h with ⟨rfl, rfl⟩ | ⟨g, cap, h⟩
  · exact .inl ⟨rfl, rfl⟩
  · have hc : ∀ j, w'.cell? ⟨g, j, none⟩ = w.cell? ⟨g, j, none⟩ := fun j => hb.cell (p := ⟨g, j, none⟩) h.lt
    have hbk := hb.block g h.lt
    refine .inr ⟨g, cap, h.v, h.b, Nat.lt_of_lt_of_le h.lt hb.size, h.le, h.max, fun j hj => (hc j).trans (h.at_ j hj), fun j hj => by rw [hc j]; exact h.there j hj, fun j => ?_⟩
    rcases h.free j with hf | hf
    · left
      rw [← hf]
      unfold World.frozen?
      simp only [hbk]
    · exact .inr hf

theorem own_c {w : World} {base : Nat} {v : Value} {l : List UInt8} {n : Nat} (h : w.ownsRow base 5 1 v n (l.map by1)) (hn : l.length = n) : OwnC w base v l := by
  subst hn
  rcases h.2 with ⟨rfl, h0⟩ | ⟨g, cap, cur, rfl, h1, h2, h3, h4, h5, h6⟩
  · exact .inl ⟨rfl, List.eq_nil_of_length_eq_zero h0⟩
  · refine .inr ⟨g, cap, rfl, h1, (Array.getElem?_eq_some_iff.1 h2).1, h3, h4, fun j hj => ?_, fun j hj => ?_, fun j => .inl ?_⟩
    · have := row_atB h j hj (by simpa using hj)
      rw [this, List.getElem_map]
    · have hj' : j < cur.size := by omega
      simp [World.cell?, h2, hj']
    · simp [World.frozen?, h2]

theorem setCells_grown (b : Nat) : ∀ (vs : List Value) (o : Nat) (w : World), w.grownBy (w.setCells b o vs) (some b)
  | [], _, _ => ⟨rfl, rfl, rfl, Nat.le_refl _, fun _ _ _ => rfl⟩
  | v :: r, o, w => by
    have ih := setCells_grown b r (o + 1) (w.setCell ⟨b, o, none⟩ v)
    have hs : (w.setCell ⟨b, o, none⟩ v).heap.size = w.heap.size := by simp [World.setCell]
    refine ⟨ih.os, ih.tape, ih.output, by have := ih.size; rw [hs] at this; exact this, fun k hk hn => ?_⟩
    have h1 := ih.block k (by rw [hs]; exact hk) hn
    refine h1.trans (Below.heap_setCell _ _ _ _ (fun e => hn ?_))
    rw [e]

theorem append_textC {w : World} {base : Nat} {v : Value} {l : List UInt8} (h : OwnC w base v l) (m : List UInt8) (hb : l.length + m.length ≤ 140737488355328) (hbase : base ≤ w.heap.size) (ty : TypeId) :
    ∃ v' w', (Builtin.append_ #[34, 9] ty #[v, .string (tx m)]).run Try.prog w = .ok v' w' ∧ OwnC w' base v' (l ++ m) ∧ w.grownBy w' v.ownBlock := by
  obtain ⟨i0, hi, hz0, hz1, hz2⟩ := info_parts info_byte
  rcases h with ⟨rfl, rfl⟩ | ⟨g, cap, h⟩
  · obtain ⟨v', w', hr, h1, h2, _⟩ := append_text (base := base) (World.ownsRow_nil w base 5 1) m (by simpa using hb) hbase ty
    refine ⟨v', w', hr, own_c (n := 0 + m.length) (by simpa using h1) (by simp), h2⟩
  · have hv := h.v
    subst hv
    have hms : (tx m).size = m.length := rfl
    have hsc : Lib.strCells (tx m) = m.map by1 := strCells_tx m
    by_cases hroom : l.length + m.length ≤ cap
    · have hf := Lib.run_firstCells_string (P := Try.prog) w 1 (tx m)
      have hst := run_storeCells_cells (P := Try.prog) g l.length (Lib.strCells (tx m)) 0 w (fun j hj => by rw [Nat.add_zero]; exact h.there _ (by rw [Lib.strCells_length] at hj; omega)) (fun j hj => by
        rw [Nat.add_zero]
        rcases h.free (l.length + j) with q | q
        · exact q
        · rw [Lib.strCells_length] at hj
          omega) (Lib.strCells_oneCell (tx m))
      rw [Nat.add_zero] at hst
      refine ⟨.slice (some ⟨g, 0, none⟩) (l.length + m.length) cap, w.setCells g l.length (m.map by1), ?_, ?_, setCells_grown g _ _ w⟩
      · rw [← hsc]
        have hu := Try.underlying9
        have ht := Try.underlying34
        have hroom' : l.length + (tx m).size ≤ cap := by rw [hms]; exact hroom
        simp [Builtin.append_, run_underlying ht, run_underlying hu, sizeOf, typeInfo, hi, hz1, Builtin.lenOf, hroom', hf, Addr.add_lit, hst]
        rfl
      · have hG := setCells_grown g (m.map by1) l.length w
        refine .inr ⟨g, cap, by rw [List.length_append], h.b, Nat.lt_of_lt_of_le h.lt hG.size, by rw [List.length_append]; exact hroom, h.max, fun j hj => ?_, fun j hj => ?_, fun j => ?_⟩
        · rw [List.length_append] at hj
          rcases Nat.lt_or_ge j l.length with q | q
          · rw [World.cell?_setCells_out g _ _ _ _ (fun _ _ => .inl q), h.at_ j q, List.getElem_append_left q]
          · have := World.cell?_setCells_in g (m.map by1) l.length w (fun j hj => h.there _ (by rw [List.length_map] at hj; omega)) (j - l.length) (by rw [List.length_map]; omega)
            rw [show l.length + (j - l.length) = j by omega] at this
            rw [this, List.getElem_map, List.getElem_append_right q]
        · rcases Nat.lt_or_ge j l.length with q | q
          · rw [World.cell?_setCells_out g _ _ _ _ (fun _ _ => .inl q)]
            exact h.there j hj
          · rcases Nat.lt_or_ge j (l.length + m.length) with q2 | q2
            · have := World.cell?_setCells_in g (m.map by1) l.length w (fun j hj => h.there _ (by rw [List.length_map] at hj; omega)) (j - l.length) (by rw [List.length_map]; omega)
              rw [show l.length + (j - l.length) = j by omega] at this
              rw [this]
              rfl
            · rw [World.cell?_setCells_out g _ _ _ _ (fun _ _ => .inr (by rw [List.length_map]; exact q2))]
              exact h.there j hj
        · rw [World.frozen?_setCells]
          exact h.free j
    · have hlo : (l.map by1).length = l.length * i0.size := by rw [hz1, List.length_map, Nat.mul_one]
      have holds : ∀ j u, (l.map by1)[j]? = some u → w.cell? ((⟨g, 0, none⟩ : Addr).add j) = some u := fun j u hj => by
        have hj' : j < l.length := by
          have := (List.getElem?_eq_some_iff.1 hj).1
          simpa using this
        rw [List.getElem?_map, List.getElem?_eq_getElem hj'] at hj
        rw [Addr.add_lit, Nat.zero_add, h.at_ j hj']
        exact hj
      have hr := Lib.run_append_grow_string (P := Try.prog) w 34 9 ty 5 i0 (.int .u8 0) Try.underlying34 Try.underlying9 hi hz0 ⟨g, 0, none⟩ l.length cap (l.map by1) hlo holds (tx m) (by rw [hms]; omega) (by rw [hms]; omega) (by rw [hz2, hms]; exact growslice_fits (by omega) (by omega))
      have hge := grownCap_ge w (l.length + (tx m).size) cap 5
      have hcm := grownCap_le_maxLen w (l.length + (tx m).size) cap 5 (by rw [hms]; unfold maxLen; omega)
      refine ⟨_, _, hr, ?_, ⟨rfl, rfl, rfl, by simp, fun k hk _ => heap_alloc_old w.drew _ (r := k) hk⟩⟩
      refine own_c (n := l.length + (tx m).size) (base := base) ⟨by rw [hms]; simp, .inr ⟨w.heap.size, _, _, rfl, hbase, heap_alloc_new w.drew _, hge, hcm, ?_, ?_⟩⟩ (by rw [List.length_append, hms])
      · have hzz : (Value.int IntKind.u8 0).cells.size = 1 := rfl
        simp only [Array.size_append, List.size_toArray, size_zeroCells, hzz, List.length_map, Lib.strCells_length]
        omega
      · simp only [Array.toList_append, List.append_assoc]
        rw [← List.append_assoc, List.map_append, hsc]
        have : (List.map by1 l ++ List.map by1 m).length = (l.length + (tx m).size) * 1 := by rw [hms]; simp
        rw [← this]
        exact List.take_left

theorem wpList_append_textC {w : World} {ops : Array Oper} {rest : List Oper} {o : Oper} {a : Act} {Q : Exit → Act → World → Prop} (hgd : o.guard = none) (s x : Operand)
    (ho : o.op = .call { callee := .builtin .append, args := #[s, x], argTypes := #[34, 9] })
    (base : Nat) (v : Value) (f : ByteArray) (l m : List UInt8) (hs : a.eval s = v) (hx : a.eval x = .string f) (hf : f = tx m) (hown : OwnC w base v l) (hb : l.length + m.length ≤ 140737488355328) (hbase : base ≤ w.heap.size)
    (h : ∀ v' w', OwnC w' base v' (l ++ m) → w.grownBy w' v.ownBlock → wpList Try.prog ops Q rest (a.put o.dst v') w') : wpList Try.prog ops Q (o :: rest) a w := by
  subst hf
  refine wpList_plain hgd fun K hK => ?_
  obtain ⟨v', w', hr, h1, h2⟩ := append_textC hown m hb hbase o.type
  unfold Oper.wp execOp
  simp only [ho, resolve, invoke, builtin, Sem.run_bind, Sem.run_pure, Result.andThen_ok, List.map_toArray, List.map_cons, List.map_nil, hs, hx, hr]
  exact hK _ _ (h v' w' h1 h2)

theorem own_mark {w : World} {base g cap : Nat} {cur : Array Value} {e : TypeId} {fz : Nat × Nat} {l : List UInt8} (h : w.heap[g]? = some (.cells cur e fz)) (hs : cur.size = cap) (hat : ∀ j (hj : j < l.length), cur[j]? = some (by1 l[j])) (hle : l.length ≤ cap) (hm : cap ≤ maxLen) (hf : cap ≤ fz.1) (hb : base ≤ g) : OwnC w base (.slice (some ⟨g, 0, none⟩) l.length cap) l := by
  refine .inr ⟨g, cap, rfl, hb, (Array.getElem?_eq_some_iff.1 h).1, hle, hm, fun j hj => ?_, fun j hj => ?_, fun j => ?_⟩
  · rw [World.cell?]
    simp only [h]
    exact hat j hj
  · rw [World.cell?]
    simp only [h]
    rw [Array.getElem?_eq_getElem (by omega)]
    rfl
  · rcases Nat.lt_or_ge j cap with q | q
    · left
      unfold World.frozen?
      simp only [h]
      simp
      omega
    · exact .inr q

/-- A text as bytes: a row of one's own. -/
theorem conv_c (l : List UInt8) (hl : l.length ≤ maxLen) (w : World) : ∃ v' w', (convert 9 34 (.string (tx l))).run Try.prog w = .ok v' w' ∧ OwnC w' w.heap.size v' l ∧ Below w.heap.size w w' := by
  have hr := run_bytes_of_string w 9 34 5 (tx l) Try.underlying9 Try.underlying34 Try.underlying5
  have hge : l.length ≤ grownCap w (tx l).size 0 5 := grownCap_ge _ _ _ _
  have hmx : grownCap w (tx l).size 0 5 ≤ maxLen := grownCap_le_maxLen _ _ _ _ hl
  obtain ⟨c, hc⟩ : ∃ c, grownCap w (tx l).size 0 5 = c := ⟨_, rfl⟩
  rw [hc] at hr hge hmx
  have hsz : (bytesRow (tx l) c).size = c := by
    unfold bytesRow
    have : (tx l).data.size = l.length := rfl
    have h2 : (tx l).size = l.length := rfl
    simp [this, h2]
    omega
  refine ⟨_, _, hr, own_mark (heap_alloc_new w.drew _) hsz (fun j hj => ?_) hge hmx (Nat.le_of_eq hsz.symm) (Nat.le_refl _), (Below.refl _ _).drew.alloc (Nat.le_refl _) _⟩
  exact bytesRow_at (tx l) c j hj
end Rc
end Go.Proofs.Ythdibodmnpcekaa
