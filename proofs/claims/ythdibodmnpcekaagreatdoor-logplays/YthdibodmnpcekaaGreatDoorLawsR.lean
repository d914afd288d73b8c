import Derived.Test.YthdibodmnpcekaaGreatDoorLawsB
import Derived.Test.YthdibodmnpcekaaGreatDoorLadM
import Derived.Deep.Slices
import Derived.Deep.Strs
import Derived.ProofKit
/- Lists of rows, lists of texts, and a torn record that came in, where they are of bulk at most 1048576. -/
namespace Go.Proofs.YthdibodmnpcekaaGreatDoor
set_option linter.ambiguousOpen false
open Go.ChangeShapes Go.WideShapes Go.ChangeAt Go.RowKit
set_option linter.unusedVariables false
set_option maxRecDepth 100000
namespace Rc
open Sm Pk

theorem row_cells : Tryz.prog.cellsOf 46 = 1 := by kernel_rfl

theorem str_cells : Tryz.prog.cellsOf 9 = 1 := by kernel_rfl

theorem one_bulk {H : Type} (d : DataW H) : 1 ≤ Rows.uptoBulk d := by
  cases d with
  | lit l => cases l <;> simp [Rows.uptoBulk]
  | nil => simp [Rows.uptoBulk]
  | ptr d => simp [Rows.uptoBulk]
  | slice elems spare => simp [Rows.uptoBulk]
  | agg parts => simp [Rows.uptoBulk]
  | iface t d => simp [Rows.uptoBulk]
  | map entries => simp [Rows.uptoBulk]
  | held h => simp [Rows.uptoBulk]

theorem all_len {H : Type} : ∀ (l : List (DataW H)), l.length ≤ Rows.uptoBulkAll l
  | [] => by simp [Rows.uptoBulkAll]
  | x :: r => by
    have := one_bulk x
    have := all_len r
    simp only [Rows.uptoBulkAll, List.length_cons]
    omega

theorem all_mem {H : Type} : ∀ (l : List (DataW H)) (d : DataW H), d ∈ l → Rows.uptoBulk d ≤ Rows.uptoBulkAll l
  | [], d, h => by simp at h
  | x :: r, d, h => by
    simp only [Rows.uptoBulkAll]
    rcases List.mem_cons.1 h with rfl | h
    · omega
    · have := all_mem r d h
      omega

theorem small_mem {H : Type} {ds : List (DataW H)} {d : DataW H} (h : Rows.uptoSmall H ds = true) (hd : d ∈ ds) : Rows.uptoBulk d ≤ 1048576 := by
  have h' : Rows.uptoBulkAll ds ≤ 1048576 := of_decide_eq_true h
  have := all_mem ds d hd
  omega

/-- An address whose cells lie there is a plain one. -/
theorem addr_of {W : World} {a : Addr} {v : Value} (h : W.cell? (a.add 0) = some v) : ∃ g o, a = ⟨g, o, none⟩ ∧ g < W.heap.size := by
  have e0 : a.add 0 = a := by simp [Addr.add]
  rw [e0] at h
  obtain ⟨g, o, sp⟩ := a
  have hsp : sp = none := by
    unfold World.cell? at h
    split at h
    · cases sp with
      | none => rfl
      | some x => simp at h
    · cases h
  subst hsp
  refine ⟨g, o, rfl, ?_⟩
  rcases Nat.lt_or_ge g W.heap.size with h' | h'
  · exact h'
  · simp [World.cell?, Array.getElem?_eq_none h'] at h

theorem row_of_trod {H : Type} {enc : TypeId × Value → H} {W : World} {base : Nat} {sp : Nat → Bool} {held : Bool} {fuel : Nat} {V : Value} {D : DataW H} {Pl : List MemPlace}
    (h : DataW.trod enc Tryz.prog W base sp held fuel 46 [V] = some (D, Pl)) : ∃ l, RdB W V l ∧ Nz V := by
  rcases Go.Deep.open_slice1 Tryz.underlying46 byte_cells h with ⟨hcs, hx⟩ | ⟨a, len, cap, m, n, V', D', Pl', hcs, hb, hl, hm, hme, hx, hel⟩
  · obtain rfl : V = .slice none 0 0 := by simpa using hcs
    exact ⟨[], rd_nil W, .inl rfl⟩
  · obtain rfl : V = .slice (some a) len cap := by simpa using hcs
    have hmm : len ≤ m := by rw [hme]; split <;> omega
    rcases Nat.eq_zero_or_pos len with h0 | h0
    · subst h0
      exact ⟨[], ⟨some a, cap, rfl, hl, hm, fun h => by simp at h⟩, .inr ⟨a, 0, cap, rfl⟩⟩
    · have hs : ∀ i, i < len → ∃ b : UInt8, W.cell? (a.add i) = some (by1 b) := fun i hi => by
        obtain ⟨h1, h2⟩ := hel i (by omega)
        obtain ⟨b, e, _, hw⟩ := DataW.trod_int Tryz.underlying5 h2
        have e' : V' i = .int .u8 b := by simpa using e
        rw [e'] at h1
        obtain ⟨c, rfl⟩ := byte_wf hw
        exact ⟨c, h1⟩
      obtain ⟨f, hf⟩ := Go.Deep.choose_lt hs
      obtain ⟨g, o, rfl, hgl⟩ := addr_of (hf 0 h0)
      refine ⟨(List.range len).map f, ⟨_, cap, by simp, by simpa using hl, hm, fun _ => ⟨g, o, rfl, hgl, fun j hj => ?_⟩⟩, .inr ⟨_, len, cap, rfl⟩⟩
      have hj' : j < len := by simpa using hj
      have := hf j hj'
      rw [Addr.add_mid] at this
      simpa using this

theorem rowsL_of_trod {H : Type} {enc : TypeId × Value → H} {W : World} {base : Nat} {sp : Nat → Bool} {held : Bool} {fuel : Nat} {V : Value} {D : DataW H} {Pl : List MemPlace}
    (h : DataW.trod enc Tryz.prog W base sp held fuel 39 [V] = some (D, Pl)) : ∃ L, RdL W V L ∧ L.length ≤ Rows.uptoBulk D := by
  rcases Go.Deep.open_slice1 Tryz.underlying39 row_cells h with ⟨hcs, hx⟩ | ⟨a, len, cap, m, n, V', D', Pl', hcs, hb, hl, hm, hme, hx, hel⟩
  · obtain rfl : V = .slice none 0 0 := by simpa using hcs
    exact ⟨[], ⟨none, 0, rfl, Nat.le_refl _, by decide, fun h => by simp at h⟩, by simp⟩
  · obtain rfl : V = .slice (some a) len cap := by simpa using hcs
    have hmm : len ≤ m := by rw [hme]; split <;> omega
    obtain rfl := (Prod.mk.inj hx).1
    have hbk : len ≤ Rows.uptoBulk (DataW.slice ((List.range len).map D') ((List.range (m - len)).map fun j => D' (len + j))) := by
      have := all_len ((List.range len).map D')
      simp only [List.length_map, List.length_range] at this
      simp only [Rows.uptoBulk]
      omega
    have hs : ∀ i, i < len → ∃ l : List UInt8, W.cell? (a.add i) = some (V' i) ∧ RdB W (V' i) l ∧ Nz (V' i) := fun i hi => by
      obtain ⟨h1, h2⟩ := hel i (by omega)
      obtain ⟨l, e1, e2⟩ := row_of_trod h2
      exact ⟨l, h1, e1, e2⟩
    obtain ⟨f, hf⟩ := Go.Deep.choose_lt hs
    refine ⟨(List.range len).map f, ⟨some a, cap, by simp, by simpa using hl, hm, fun h0 => ?_⟩, by simpa using hbk⟩
    have h0' : 0 < len := by simpa using h0
    obtain ⟨g, o, rfl, hgl⟩ := addr_of (hf 0 h0').1
    refine ⟨g, o, rfl, hgl, fun j q hj => ?_⟩
    rw [List.getElem?_map] at hj
    obtain ⟨k, hk, rfl⟩ := Option.map_eq_some_iff.1 hj
    obtain ⟨hk1, rfl⟩ := List.getElem?_eq_some_iff.1 hk
    simp only [List.getElem_range]
    obtain ⟨e1, e2, e3⟩ := hf j (by simpa using hk1)
    rw [Addr.add_mid] at e1
    exact ⟨V' j, e1, e2, e3⟩

theorem texts_of_trod {H : Type} {enc : TypeId × Value → H} {W : World} {base : Nat} {sp : Nat → Bool} {held : Bool} {fuel : Nat} {V : Value} {D : DataW H} {Pl : List MemPlace}
    (h : DataW.trod enc Tryz.prog W base sp held fuel 63 [V] = some (D, Pl)) : ∃ ls, Nm.Rd W V ls ∧ Nz V ∧ ls.length ≤ Rows.uptoBulk D ∧ ∀ t ∈ ls, t.length ≤ Rows.uptoBulk D := by
  rcases Go.Deep.open_strs Tryz.underlying63 Tryz.underlying9 str_cells h with ⟨hcs, hx⟩ | ⟨a, len, cap, m, Sx, hcs, hb, hl, hm, hme, hx, hel⟩
  · obtain rfl : V = .slice none 0 0 := by simpa using hcs
    exact ⟨[], ⟨none, 0, rfl, Nat.le_refl _, by decide, fun h => by simp at h⟩, .inl rfl, by simp, by simp⟩
  · obtain rfl : V = .slice (some a) len cap := by simpa using hcs
    have hmm : len ≤ m := by rw [hme]; split <;> omega
    obtain rfl := (Prod.mk.inj hx).1
    refine ⟨(List.range len).map (fun i => (Sx i).data.toList), ⟨some a, cap, by simp, by simpa using hl, hm, fun h0 => ?_⟩, .inr ⟨_, _, _, rfl⟩, ?_, ?_⟩
    · have h0' : 0 < len := by simpa using h0
      obtain ⟨g, o, rfl, hgl⟩ := addr_of (hel 0 (by omega)).1
      refine ⟨g, o, rfl, hgl, fun j hj => ?_⟩
      have hj' : j < len := by simpa using hj
      have := (hel j (by omega)).1
      rw [Addr.add_mid] at this
      rw [this]
      simp [Nm.B]
    · have := all_len ((List.range len).map fun i => (DataW.lit (H := H) (.string (Sx i).data.toList)))
      simp only [List.length_map, List.length_range] at this ⊢
      simp only [Rows.uptoBulk]
      omega
    · intro t ht
      obtain ⟨i, hi, rfl⟩ := List.mem_map.1 ht
      have := all_mem ((List.range len).map fun i => (DataW.lit (H := H) (.string (Sx i).data.toList))) (.lit (.string (Sx i).data.toList)) (List.mem_map.2 ⟨i, hi, rfl⟩)
      simp only [Rows.uptoBulk] at this ⊢
      omega

theorem rowsL_upto {H : Type} {enc : TypeId × Value → H} {W : World} {base : Nat} {sp : Nat → Bool} {held : Bool} {v : Value} {d : DataW H} {p : List MemPlace}
    (hv : ∃ a len cap, v = .slice a len cap) (h : ∃ fuel, DataW.trod enc Tryz.prog W base sp held fuel 39 v.cells.toList = some (d, p)) (hk : Rows.uptoBulk d ≤ 1048576) : ∃ L, RdL W v L ∧ L.length ≤ 1048576 := by
  obtain ⟨a0, len0, cap0, rfl⟩ := hv
  obtain ⟨fuel, hf⟩ := h
  obtain ⟨L, h1, h2⟩ := rowsL_of_trod hf
  exact ⟨L, h1, by omega⟩

theorem texts_upto {H : Type} {enc : TypeId × Value → H} {W : World} {base : Nat} {sp : Nat → Bool} {held : Bool} {v : Value} {d : DataW H} {p : List MemPlace}
    (hv : ∃ a len cap, v = .slice a len cap) (h : ∃ fuel, DataW.trod enc Tryz.prog W base sp held fuel 63 v.cells.toList = some (d, p)) (hk : Rows.uptoBulk d ≤ 1048576) : ∃ ls, Nm.Rd W v ls ∧ Nz v ∧ ls.length ≤ 1048576 ∧ ∀ t ∈ ls, t.length ≤ 1048576 := by
  obtain ⟨a0, len0, cap0, rfl⟩ := hv
  obtain ⟨fuel, hf⟩ := h
  obtain ⟨ls, h1, h2, h3, h4⟩ := texts_of_trod hf
  exact ⟨ls, h1, h2, by omega, fun t ht => Nat.le_trans (h4 t ht) hk⟩

theorem wf_i64R {a : Int} (h : (Lit.int .i64 a).wf = true) : -9223372036854775808 ≤ a ∧ a ≤ 9223372036854775807 := by
  simp [Lit.wf, IntKind.min, IntKind.max, IntKind.signed, IntKind.bits] at h
  omega

theorem wf_u32R {a : Int} (h : (Lit.int .u32 a).wf = true) : ∃ x : Nat, a = x ∧ x < 4294967296 := by
  simp [Lit.wf, IntKind.min, IntKind.max, IntKind.signed, IntKind.bits] at h
  exact ⟨a.toNat, by omega, by omega⟩

end Rc
end Go.Proofs.YthdibodmnpcekaaGreatDoor
