/- A list of rows of bytes that came in, where it is of bulk at most 1048576. -/
import Derived.Test.YtahjkdcagkojoaaLawsB
import Derived.Test.YtahjkdcagkojoaaCountsL
import Derived.Deep.Slices
import Derived.ProofKit
namespace Go.Proofs.Ytahjkdcagkojoaa
set_option linter.ambiguousOpen false
open Go.ChangeShapes Go.WideShapes Go.ChangeAt Go.RowKit
set_option linter.unusedVariables false
set_option maxRecDepth 100000
namespace Sm

theorem row_cells : Try.prog.cellsOf 22 = 1 := by kernel_rfl

theorem one_bulk {H : Type} (d : DataW H) : 1 ≤ Rows.uptoBulk d := by
  cases d with
  | lit l => cases l <;> simp [Rows.uptoBulk]
  | nil => simp [Rows.uptoBulk]
  | ptr d => simp [Rows.uptoBulk]
  | slice elems spare => simp [Rows.uptoBulk]
  | agg parts => simp [Rows.uptoBulk]
  | iface t d => simp [Rows.uptoBulk]
  | map entries => simp [Rows.uptoBulk]
  | held h => simp [Rows.uptoBulk]

theorem all_len {H : Type} : ∀ (l : List (DataW H)), l.length ≤ Rows.uptoBulkAll l
  | [] => by simp [Rows.uptoBulkAll]
  | x :: r => by
    have := one_bulk x
    have := all_len r
    simp only [Rows.uptoBulkAll, List.length_cons]
    omega

theorem flat_bulk {H : Type} (f : Nat → List UInt8) (D : Nat → DataW H) : ∀ (is : List Nat), (∀ i ∈ is, (f i).length ≤ Rows.uptoBulk (D i)) → (is.map f).flatten.length ≤ Rows.uptoBulkAll (is.map D)
  | [], _ => by simp
  | i :: is, h => by
    have h1 := h i (by simp)
    have h2 := flat_bulk f D is (fun j hj => h j (by simp [hj]))
    simp only [List.map_cons, List.flatten_cons, List.length_append, Rows.uptoBulkAll]
    omega

/-- An address whose cells lie there is a plain one. -/
theorem addr_of {W : World} {a : Addr} {v : Value} (h : W.cell? (a.add 0) = some v) : ∃ g o, a = ⟨g, o, none⟩ ∧ g < W.heap.size := by
  have e0 : a.add 0 = a := by simp [Addr.add]
  rw [e0] at h
  obtain ⟨g, o, sp⟩ := a
  have hsp : sp = none := by
    unfold World.cell? at h
    split at h
    · cases sp with
      | none => rfl
      | some x => simp at h
    · cases h
  subst hsp
  refine ⟨g, o, rfl, ?_⟩
  rcases Nat.lt_or_ge g W.heap.size with h' | h'
  · exact h'
  · simp [World.cell?, Array.getElem?_eq_none h'] at h

theorem row_of_trod {H : Type} {enc : TypeId × Value → H} {W : World} {base : Nat} {sp : Nat → Bool} {held : Bool} {fuel : Nat} {V : Value} {D : DataW H} {Pl : List MemPlace}
    (h : DataW.trod enc Try.prog W base sp held fuel 22 [V] = some (D, Pl)) : ∃ l, RdB W V l ∧ Nz V ∧ l.length ≤ Rows.uptoBulk D := by
  rcases Go.Deep.open_slice1 Try.underlying22 byte_cells h with ⟨hcs, hx⟩ | ⟨a, len, cap, m, n, V', D', Pl', hcs, hb, hl, hm, hme, hx, hel⟩
  · obtain rfl : V = .slice none 0 0 := by simpa using hcs
    exact ⟨[], rd_nil W, .inl rfl, by simp⟩
  · obtain rfl : V = .slice (some a) len cap := by simpa using hcs
    have hmm : len ≤ m := by rw [hme]; split <;> omega
    obtain rfl := (Prod.mk.inj hx).1
    have hbk : len ≤ Rows.uptoBulk (DataW.slice ((List.range len).map D') ((List.range (m - len)).map fun j => D' (len + j))) := by
      have := all_len ((List.range len).map D')
      simp only [List.length_map, List.length_range] at this
      simp only [Rows.uptoBulk]
      omega
    rcases Nat.eq_zero_or_pos len with h0 | h0
    · subst h0
      exact ⟨[], ⟨some a, cap, rfl, hl, hm, fun h => by simp at h⟩, .inr ⟨a, 0, cap, rfl⟩, by simp⟩
    · have hs : ∀ i, i < len → ∃ b : UInt8, W.cell? (a.add i) = some (by1 b) := fun i hi => by
        obtain ⟨h1, h2⟩ := hel i (by omega)
        obtain ⟨b, e, _, hw⟩ := DataW.trod_int Try.underlying5 h2
        have e' : V' i = .int .u8 b := by simpa using e
        rw [e'] at h1
        obtain ⟨c, rfl⟩ := byte_wf hw
        exact ⟨c, h1⟩
      obtain ⟨f, hf⟩ := Go.Deep.choose_lt hs
      obtain ⟨g, o, rfl, hgl⟩ := addr_of (hf 0 h0)
      refine ⟨(List.range len).map f, ⟨_, cap, by simp, by simpa using hl, hm, fun _ => ⟨g, o, rfl, hgl, fun j hj => ?_⟩⟩, .inr ⟨_, len, cap, rfl⟩, by simpa using hbk⟩
      have hj' : j < len := by simpa using hj
      have := hf j hj'
      rw [Addr.add_mid] at this
      simpa using this

theorem rows_upto {H : Type} {enc : TypeId × Value → H} {W : World} {base : Nat} {sp : Nat → Bool} {held : Bool} {v : Value} {d : DataW H} {p : List MemPlace}
    (hv : ∃ a len cap, v = .slice a len cap) (h : ∃ fuel, DataW.trod enc Try.prog W base sp held fuel 28 v.cells.toList = some (d, p)) (hk : Rows.uptoSmall H [d] = true) : ∃ L, RdBB W v L ∧ L.flatten.length ≤ 1048576 := by
  obtain ⟨a0, len0, cap0, rfl⟩ := hv
  obtain ⟨fuel, hf⟩ := h
  have hk' : Rows.uptoBulkAll [d] ≤ 1048576 := of_decide_eq_true hk
  rcases Go.Deep.open_slice1 Try.underlying28 row_cells hf with ⟨hcs, hx⟩ | ⟨a, len, cap, m, n, V', D', Pl', hcs, hb, hl, hm, hme, hx, hel⟩
  · simp [Value.cells] at hcs
    obtain ⟨rfl, rfl, rfl⟩ := hcs
    exact ⟨[], ⟨none, 0, rfl, Nat.le_refl _, by decide, fun h => by simp at h⟩, by simp⟩
  · simp [Value.cells] at hcs
    obtain ⟨rfl, rfl, rfl⟩ := hcs
    have hmm : len0 ≤ m := by rw [hme]; split <;> omega
    obtain rfl := (Prod.mk.inj hx).1
    have hs : ∀ i, i < len0 → ∃ l : List UInt8, W.cell? (a.add i) = some (V' i) ∧ RdB W (V' i) l ∧ Nz (V' i) ∧ l.length ≤ Rows.uptoBulk (D' i) := fun i hi => by
      obtain ⟨h1, h2⟩ := hel i (by omega)
      obtain ⟨l, e1, e2, e3⟩ := row_of_trod h2
      exact ⟨l, h1, e1, e2, e3⟩
    obtain ⟨f, hf⟩ := Go.Deep.choose_lt hs
    refine ⟨(List.range len0).map f, ⟨some a, cap0, by simp, by simpa using hl, hm, fun h0 => ?_⟩, ?_⟩
    · have h0' : 0 < len0 := by simpa using h0
      obtain ⟨g, o, rfl, hgl⟩ := addr_of (hf 0 h0').1
      refine ⟨g, o, rfl, hgl, fun j hj => ?_⟩
      have hj' : j < len0 := by simpa using hj
      obtain ⟨e1, e2, e3, _⟩ := hf j hj'
      rw [Addr.add_mid] at e1
      exact ⟨V' j, e1, by simpa using e2, e3⟩
    · have := flat_bulk f D' (List.range len0) (fun i hi => (hf i (by simpa using hi)).2.2.2)
      simp only [Rows.uptoBulkAll, Rows.uptoBulk] at hk'
      omega
end Sm
end Go.Proofs.Ytahjkdcagkojoaa
