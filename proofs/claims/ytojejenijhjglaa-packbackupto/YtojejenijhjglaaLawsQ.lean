/- Lists of items and of asks that came in. -/
import Derived.Test.YtojejenijhjglaaLawsB
import Derived.Test.YtojejenijhjglaaShapeU
import Derived.Test.YtojejenijhjglaaPutK
import Derived.ProofKit
namespace Go.Proofs.Ytojejenijhjglaa
set_option linter.ambiguousOpen false
open Go.ChangeShapes Go.WideShapes Go.ChangeAt Go.RowKit
set_option linter.unusedVariables false
set_option maxRecDepth 100000

namespace Pk
open Sm

theorem itm_shape : Fl.shape Try.prog 4 31 = [.b, .i .u64, .s] := by kernel_rfl

theorem itm_ok : Fl.okT Try.prog 4 31 = true := by kernel_rfl

theorem itm_cellsOf : Try.prog.cellsOf 31 = 3 := by kernel_rfl

theorem wf_n64 {a : Int} (h : (Lit.int .u64 a).wf = true) : ∃ n : Nat, a = (n : Int) ∧ n < 18446744073709551616 := by
  simp [Lit.wf, IntKind.min, IntKind.max, IntKind.signed, IntKind.bits] at h
  exact ⟨a.toNat, by omega, by omega⟩

theorem bytes_le (r : Itm) (h : r.v < 18446744073709551616) (h2 : r.s.length < 18446744073709551616) : r.bytes.length ≤ 10 + r.s.length := by
  unfold Itm.bytes
  split
  · have := sev_len10 r.s.length h2
    unfold txt
    rw [List.length_append]
    omega
  · have := sev_len10 r.v h
    omega

theorem allB_sum (f : Nat → Itm) (c : Nat → Nat) : ∀ (is : List Nat), (∀ i ∈ is, (f i).bytes.length ≤ 11 * (c i)) → (allB (is.map f)).length ≤ 11 * (is.map c).sum
  | [], _ => by simp [allB]
  | i :: is, h => by
    have h1 := h i (by simp)
    have h2 := allB_sum f c is (fun j hj => h j (by simp [hj]))
    show ((f i).bytes ++ allB (is.map f)).length ≤ _
    rw [List.length_append, List.map_cons, List.sum_cons]
    omega

theorem items_upto {H : Type} {enc : TypeId × Value → H} {W : World} {base : Nat} {sp : Nat → Bool} {held : Bool} {v : Value} {d : DataW H} {p : List MemPlace}
    (hv : ∃ a len cap, v = .slice a len cap) (h : ∃ fuel, DataW.trod enc Try.prog W base sp held fuel 22 v.cells.toList = some (d, p)) (hk : Rows.uptoSmall H [d] = true) :
    ∃ l, RdI W v l ∧ (∀ r ∈ l, r.v < 18446744073709551616) ∧ (allB l).length ≤ 100000000 := by
  have hk' : Rows.uptoBulkAll [d] ≤ 1048576 := of_decide_eq_true hk
  simp only [Rows.uptoBulkAll] at hk'
  obtain ⟨a, len, cap, rfl, hl, hm, C, hsum, hc⟩ := Fl.rows_of_upto 4 itm_ok (by rw [itm_cellsOf]; omega) Try.underlying22 hv h
  rcases Nat.eq_zero_or_pos len with h0 | h0
  · subst h0
    exact ⟨[], ⟨a, cap, rfl, hl, hm, fun h => by simp at h⟩, by simp, by simp [allB]⟩
  · obtain ⟨g, o, rfl, hi⟩ := hc h0
    rw [itm_cellsOf] at hi
    have hs : ∀ i, i < len → ∃ x : Itm, (W.cell? ⟨g, o + i * 3, none⟩ = some (.bool x.t) ∧ W.cell? ⟨g, o + i * 3 + 1, none⟩ = some (.int .u64 (x.v : Int)) ∧ W.cell? ⟨g, o + i * 3 + 2, none⟩ = some (.string (tx x.s))) ∧ x.v < 18446744073709551616 ∧ x.bytes.length ≤ 11 * (Fl.letters (C i) + 1) := fun i hil => by
      obtain ⟨h1, h2, h3⟩ := hi i hil
      rw [itm_shape] at h3
      obtain ⟨_, cs0, e0, ⟨f0, rfl⟩, g0⟩ := Fl.M2.out h3
      obtain ⟨_, cs1, rfl, ⟨f1, rfl, w1⟩, g1⟩ := Fl.M2.out g0
      obtain ⟨_, cs2, rfl, ⟨f2, rfl, z2⟩, g2⟩ := Fl.M2.out g1
      obtain rfl := Fl.M2.nil g2
      obtain ⟨n, rfl, hn⟩ := wf_n64 w1
      have e2 : tx f2.data.toList = f2 := by
        cases f2
        simp
      rw [e0] at h1
      have hlet : Fl.letters (C i) = f2.size := by rw [e0]; simp [Fl.letters]
      have hl2 : f2.data.toList.length = f2.size := by rw [Array.length_toList]; rfl
      refine ⟨⟨f0, n, f2.data.toList⟩, ⟨h1 0 _ rfl, h1 1 _ rfl, ?_⟩, hn, ?_⟩
      · show W.cell? _ = some (.string (tx f2.data.toList))
        rw [e2]
        exact h1 2 _ rfl
      · unfold maxLen at z2
        have := bytes_le ⟨f0, n, f2.data.toList⟩ hn (by show f2.data.toList.length < _; omega)
        have e : (Itm.mk f0 n f2.data.toList).s.length = f2.size := hl2
        rw [hlet]
        omega
    haveI : Inhabited Itm := ⟨⟨false, 0, []⟩⟩
    obtain ⟨f, hf⟩ := Go.Deep.choose_lt hs
    have hgl : g < W.heap.size := World.block_lt_of_cell? W _ (hf 0 h0).1.1
    refine ⟨(List.range len).map f, ⟨_, cap, by simp, by simpa using hl, hm, fun _ => ⟨g, o, rfl, hgl, fun i x hx => ?_⟩⟩, ?_, ?_⟩
    · rw [List.getElem?_map] at hx
      obtain ⟨k, hk, rfl⟩ := Option.map_eq_some_iff.1 hx
      obtain ⟨hk1, rfl⟩ := List.getElem?_eq_some_iff.1 hk
      simp only [List.getElem_range]
      exact (hf i (by simpa using hk1)).1
    · intro x hx
      obtain ⟨i, hi', rfl⟩ := List.mem_map.1 hx
      exact (hf i (by simpa using hi')).2.1
    · have := allB_sum f (fun i => Fl.letters (C i) + 1) (List.range len) (fun i hi => (hf i (by simpa using hi)).2.2)
      omega

theorem ask_shape : Fl.shape Try.prog 4 52 = [.b, .i .i64] := by kernel_rfl

theorem ask_ok : Fl.okT Try.prog 4 52 = true := by kernel_rfl

theorem ask_cellsOf : Try.prog.cellsOf 52 = 2 := by kernel_rfl

theorem wf_int {a : Int} (h : (Lit.int .i64 a).wf = true) : -9223372036854775808 ≤ a ∧ a ≤ 9223372036854775807 := by
  simp [Lit.wf, IntKind.min, IntKind.max, IntKind.signed, IntKind.bits] at h
  omega

theorem asks_any {H : Type} {enc : TypeId × Value → H} {W : World} {base : Nat} {sp : Nat → Bool} {held : Bool} {v : Value} {d : DataW H} {p : List MemPlace}
    (hv : ∃ a len cap, v = .slice a len cap) (h : ∃ fuel, DataW.trod enc Try.prog W base sp held fuel 50 v.cells.toList = some (d, p)) :
    ∃ l, RdQ W v l ∧ ∀ r ∈ l, -9223372036854775808 ≤ r.2 ∧ r.2 ≤ 9223372036854775807 := by
  obtain ⟨a, len, cap, rfl, hl, hm, C, hsum, hc⟩ := Fl.rows_of_upto 4 ask_ok (by rw [ask_cellsOf]; omega) Try.underlying50 hv h
  rcases Nat.eq_zero_or_pos len with h0 | h0
  · subst h0
    exact ⟨[], ⟨a, cap, rfl, hl, hm, fun h => by simp at h⟩, by simp⟩
  · obtain ⟨g, o, rfl, hi⟩ := hc h0
    rw [ask_cellsOf] at hi
    have hs : ∀ i, i < len → ∃ x : Ask, (W.cell? ⟨g, o + i * 2, none⟩ = some (.bool x.1) ∧ W.cell? ⟨g, o + i * 2 + 1, none⟩ = some (nu x.2)) ∧ -9223372036854775808 ≤ x.2 ∧ x.2 ≤ 9223372036854775807 := fun i hil => by
      obtain ⟨h1, h2, h3⟩ := hi i hil
      rw [ask_shape] at h3
      obtain ⟨_, cs0, e0, ⟨f0, rfl⟩, g0⟩ := Fl.M2.out h3
      obtain ⟨_, cs1, rfl, ⟨f1, rfl, w1⟩, g1⟩ := Fl.M2.out g0
      obtain rfl := Fl.M2.nil g1
      rw [e0] at h1
      exact ⟨(f0, f1), ⟨h1 0 _ rfl, h1 1 _ rfl⟩, wf_int w1⟩
    haveI : Inhabited Ask := ⟨(false, 0)⟩
    obtain ⟨f, hf⟩ := Go.Deep.choose_lt hs
    have hgl : g < W.heap.size := World.block_lt_of_cell? W _ (hf 0 h0).1.1
    refine ⟨(List.range len).map f, ⟨_, cap, by simp, by simpa using hl, hm, fun _ => ⟨g, o, rfl, hgl, fun i x hx => ?_⟩⟩, ?_⟩
    · rw [List.getElem?_map] at hx
      obtain ⟨k, hk, rfl⟩ := Option.map_eq_some_iff.1 hx
      obtain ⟨hk1, rfl⟩ := List.getElem?_eq_some_iff.1 hk
      simp only [List.getElem_range]
      exact (hf i (by simpa using hk1)).1
    · intro x hx
      obtain ⟨i, hi', rfl⟩ := List.mem_map.1 hx
      exact (hf i (by simpa using hi')).2

theorem small_fst {H : Type} {d e : DataW H} (h : Rows.uptoSmall H [d, e] = true) : Rows.uptoSmall H [d] = true := by
  have h' : Rows.uptoBulkAll [d, e] ≤ 1048576 := of_decide_eq_true h
  refine decide_eq_true ?_
  simp only [Rows.uptoBulkAll] at h' ⊢
  omega

theorem small_snd {H : Type} {d e : DataW H} (h : Rows.uptoSmall H [d, e] = true) : Rows.uptoSmall H [e] = true := by
  have h' : Rows.uptoBulkAll [d, e] ≤ 1048576 := of_decide_eq_true h
  refine decide_eq_true ?_
  simp only [Rows.uptoBulkAll] at h' ⊢
  omega

theorem len_sum (c : Nat → Nat) : ∀ (is : List Nat), is.length ≤ (is.map fun i => c i + 1).sum
  | [] => by simp
  | i :: is => by
    have := len_sum c is
    simp only [List.map_cons, List.sum_cons, List.length_cons]
    omega

theorem bytes_upto {H : Type} {enc : TypeId × Value → H} {W : World} {base : Nat} {sp : Nat → Bool} {held : Bool} {v : Value} {d : DataW H} {p : List MemPlace}
    (hv : ∃ a len cap, v = .slice a len cap) (h : ∃ fuel, DataW.trod enc Try.prog W base sp held fuel 25 v.cells.toList = some (d, p)) (hk : Rows.uptoSmall H [d] = true) :
    ∃ l, RdB W v l ∧ l.length ≤ 1048576 := by
  have hk' : Rows.uptoBulkAll [d] ≤ 1048576 := of_decide_eq_true hk
  simp only [Rows.uptoBulkAll] at hk'
  obtain ⟨a, len, cap, rfl, hl, hm, C, hsum, hc⟩ := Fl.rows_of_upto 1 byte_ok (by rw [byte_cells]; omega) Try.underlying25 hv h
  have hlen : len ≤ 1048576 := by
    have := len_sum (fun i => Fl.letters (C i)) (List.range len)
    rw [List.length_range] at this
    omega
  rcases Nat.eq_zero_or_pos len with h0 | h0
  · subst h0
    exact ⟨[], ⟨a, cap, rfl, hl, hm, fun h => by simp at h⟩, by simp⟩
  · obtain ⟨g, o, rfl, hi⟩ := hc h0
    rw [byte_cells] at hi
    have hs : ∀ i, i < len → ∃ x : UInt8, W.cell? ⟨g, o + i, none⟩ = some (by1 x) := fun i hil => by
      obtain ⟨h1, h2, h3⟩ := hi i hil
      rw [byte_shape] at h3
      obtain ⟨_, cs0, e0, ⟨f0, rfl, w0⟩, g0⟩ := Fl.M2.out h3
      obtain rfl := Fl.M2.nil g0
      obtain ⟨b, rfl⟩ := byte_wf w0
      rw [e0] at h1
      have := h1 0 _ rfl
      rw [Nat.mul_one] at this
      exact ⟨b, this⟩
    obtain ⟨f, hf⟩ := Go.Deep.choose_lt hs
    have hgl : g < W.heap.size := World.block_lt_of_cell? W _ (hf 0 h0)
    refine ⟨(List.range len).map f, ⟨_, cap, by simp, by simpa using hl, hm, fun _ => ⟨g, o, rfl, hgl, fun j hj => ?_⟩⟩, by simpa using hlen⟩
    have hj' : j < len := by simpa using hj
    simpa using hf j hj'
end Pk
end Go.Proofs.Ytojejenijhjglaa
