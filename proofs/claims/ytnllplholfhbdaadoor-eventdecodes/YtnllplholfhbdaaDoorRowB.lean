import Derived.Test.YtnllplholfhbdaaDoorLentB
import Derived.Deep.AppendLies
/- Rows of bytes: what every layer with rows of bytes asks (taken out of layer 6's texts). -/
namespace Go.Proofs.YtnllplholfhbdaaDoor
set_option linter.ambiguousOpen false
open Go.RowKit
namespace Sm
set_option linter.unusedSimpArgs false
set_option linter.unusedVariables false

theorem ret_nu {a b : Int} (h : a = b) : Ending.returned (.int .i64 a) = .returned (.int .i64 b) := by rw [h]

theorem pick_any (k : Int) (n : Nat) (w : World) (hn : 0 < n) (hn2 : n ≤ 4611686018427387904) (hk : -9223372036854775808 ≤ k ∧ k ≤ 9223372036854775807) :
    Calls Tryd.prog 17 #[nu k, nu n] w fun e w' => e = .returned (nu (k % (n : Int))) ∧ w' = w := by
  have d1 : (decide ((n : Int) < 1)) = false := by simp; omega
  have e1 := Int.emod_add_mul_ediv k n
  have e2 := Int.emod_nonneg k (b := (n : Int)) (by omega)
  have e3 := Int.emod_lt_of_pos k (b := (n : Int)) (by omega)
  have te : k.tmod n = k % (n : Int) ∨ k.tmod n = k % (n : Int) - n := by
    rw [Int.tmod_eq_emod]
    split
    · left; omega
    · right; simp
  clear e1
  by_cases h : k.tmod n < 0
  · have HT : Hid (k.tmod n + n = k % (n : Int)) := by
      show _ = _
      omega
    have b1 : -(n : Int) ≤ k.tmod n := by omega
    clear te e2 e3
    go_enter Tryd.func17, Tryd.ntmps17
    go_wp2
    go_ret
    exact ⟨ret_nu HT.out, rfl⟩
  · have HT : Hid (k.tmod n = k % (n : Int)) := by
      show _ = _
      omega
    clear te e2 e3
    go_enter Tryd.func17, Tryd.ntmps17
    go_wp2
    go_ret
    exact ⟨ret_nu HT.out, rfl⟩

/-- The i-th byte of a text. -/
def byI (l : List UInt8) (i : Nat) : UInt8 := l.getD i 0

/-- A text of a list of bytes. -/
@[reducible] def tx (l : List UInt8) : ByteArray := ⟨l.toArray⟩

theorem idx_at (l : List UInt8) (i : Nat) (h : i < l.length) (w : World) : (Instr.index 9 (.string (tx l)) (.int .i64 (i : Int))).run Tryd.prog w = .ok (by1 (byI l i)) w := by
  have hs : (tx l).size = l.length := rfl
  rw [run_index_string w 9 (tx l) .i64 i Tryd.underlying9, dif_pos ⟨by omega, by omega⟩]
  have e : ((i : Int)).toNat = i := by omega
  unfold byI
  rw [List.getD_eq_getElem?_getD, List.getElem?_eq_getElem h]
  simp only [e]
  rfl

theorem own_keptB {w w' : World} {base : Nat} {e : TypeId} {size : Nat} {v : Value} {n : Nat} {xs : List Value} (h : w.ownsRow base e size v n xs) (hb : Below w.heap.size w w') : w'.ownsRow base e size v n xs := by
  refine ⟨h.1, ?_⟩
  rcases h.2 with hn | ⟨g, cap, cur, rfl, hbg, hgg, rest⟩
  · exact .inl hn
  · refine .inr ⟨g, cap, cur, rfl, hbg, ?_, rest⟩
    rw [hb.block g (Array.getElem?_eq_some_iff.1 hgg).1]
    exact hgg

theorem own_rd {w : World} {base : Nat} {v : Value} {l : List UInt8} (h : w.ownsRow base 5 1 v l.length (l.map by1)) : RdB w v l := by
  rcases h.2 with ⟨rfl, h0⟩ | ⟨g, cap, cur, rfl, h1, h2, h3, h4, h5, h6⟩
  · exact ⟨none, 0, by rw [h0], by omega, by decide, fun h => by omega⟩
  · refine ⟨_, cap, rfl, h3, h4, fun _ => ⟨g, 0, rfl, (Array.getElem?_eq_some_iff.1 h2).1, fun j hj => ?_⟩⟩
    rw [Nat.zero_add]
    have := row_atB h j hj (by simpa using hj)
    rw [this, List.getElem_map]

theorem rd_nil (w : World) : RdB w (.slice none 0 0) [] := ⟨none, 0, rfl, Nat.le_refl _, by decide, fun h => by simp at h⟩

theorem own_rd' {w : World} {base k : Nat} {v : Value} {l : List UInt8} (h : w.ownsRow base 5 1 v k (l.map by1)) (hl : l.length = k) : RdB w v l := by
  subst hl; exact own_rd h

theorem Hid.mk' {p : Prop} (h : p) : Hid p := h

theorem hbel_cell {w w' : World} {g o : Nat} {v : Value} (h : Below w.heap.size w w') (hg : g < w.heap.size) (hc : w.cell? ⟨g, o, none⟩ = some v) : w'.cell? ⟨g, o, none⟩ = some v := (h.cell (p := ⟨g, o, none⟩) hg).trans hc

theorem own_set {w : World} {base g cap n : Nat} {e : TypeId} {xs : List Value} (h : w.ownsRow base e 1 (.slice (some ⟨g, 0, none⟩) n cap) n xs) (i : Nat) (u : Value) :
    (w.setCell ⟨g, i, none⟩ u).ownsRow base e 1 (.slice (some ⟨g, 0, none⟩) n cap) n (xs.set i u) := by
  rcases h.2 with ⟨hv, _⟩ | ⟨g', cap', cur, hv, hbg, hg, hnc, hcm, hcs, htake⟩
  · simp at hv
  · simp only [Value.slice.injEq, Option.some.injEq, Addr.mk.injEq, and_true, true_and] at hv
    obtain ⟨rfl, rfl⟩ := hv
    refine ⟨by simpa using h.1, .inr ⟨g, cap, cur.setIfInBounds i u, rfl, hbg, ?_, hnc, hcm, by simpa using hcs, ?_⟩⟩
    · have hlt : g < w.heap.size := (Array.getElem?_eq_some_iff.1 hg).1
      simp [World.setCell, Array.getElem?_modify, hg]
    · rw [← htake]
      simp [List.take_set]

theorem own_free {w : World} {base g cap n : Nat} {e : TypeId} {xs : List Value} (h : w.ownsRow base e 1 (.slice (some ⟨g, 0, none⟩) n cap) n xs) (i : Nat) : w.frozen? ⟨g, i, none⟩ = false := by
  rcases h.2 with ⟨hv, _⟩ | ⟨g', cap', cur, hv, hbg, hg, hnc, hcm, hcs, htake⟩
  · simp at hv
  · simp only [Value.slice.injEq, Option.some.injEq, Addr.mk.injEq, and_true, true_and] at hv
    obtain ⟨rfl, rfl⟩ := hv
    simp [World.frozen?, hg]

theorem slice_to (a : Option Addr) (len cap k : Nat) (h : k ≤ cap) (w : World) : (Instr.slice 30 (.slice a len cap) none (some (.int .i64 (k : Int))) none).run Tryd.prog w = .ok (.slice a k cap) w := by
  have h1 : (0 : Int) ≤ (k : Int) ∧ (k : Int) ≤ (cap : Int) := by omega
  have hu := Tryd.underlying30
  cases a with
  | none =>
    simp [Instr.slice, Instr.sliceBounds, Instr.sliceBound, asIntOf, run_underlying hu]
    intro hh; omega
  | some ad =>
    simp [Instr.slice, Instr.sliceBounds, Instr.sliceBound, asIntOf, run_underlying hu, Addr.add]
    intro hh; omega

/-- Where a slice lies that begins k further on. -/
def further (a : Option Addr) (cap k : Nat) : Option Addr :=
  match a with
  | none => none
  | some ad => if cap = k then some ad else some (if k = 0 then ad else { block := ad.block, off := ad.off + k })

theorem slice_from (a : Option Addr) (len cap k : Nat) (h : k ≤ len) (hc : len ≤ cap) (w : World) : (Instr.slice 30 (.slice a len cap) (some (.int .i64 (k : Int))) none none).run Tryd.prog w = .ok (.slice (further a cap k) (len - k) (cap - k)) w := by
  have h1 : (0 : Int) ≤ (k : Int) ∧ (k : Int) ≤ (cap : Int) := by omega
  have hu := Tryd.underlying30
  cases a with
  | none =>
    simp [Instr.slice, Instr.sliceBounds, Instr.sliceBound, asIntOf, run_underlying hu, further]
    intro hh; omega
  | some ad =>
    simp [Instr.slice, Instr.sliceBounds, Instr.sliceBound, asIntOf, run_underlying hu, Addr.add, further]
    intro hh; omega

theorem RdB.take {w : World} {a : Option Addr} {l : List UInt8} {cap : Nat} (h : RdB w (.slice a l.length cap) l) (m : Nat) (hm : m ≤ l.length) : RdB w (.slice a m cap) (l.take m) := by
  obtain ⟨a', cap', e, h1, h2, h3⟩ := h
  cases e
  have hl : (l.take m).length = m := by rw [List.length_take]; omega
  refine ⟨a, cap, by rw [hl], by omega, h2, fun h0 => ?_⟩
  rw [hl] at h0
  obtain ⟨g, o, e1, e2, e3⟩ := h3 (by omega)
  exact ⟨g, o, e1, e2, fun j hj => by
    rw [hl] at hj
    rw [e3 j (by omega), List.getElem_take]⟩

theorem RdB.drop {w : World} {a : Option Addr} {l : List UInt8} {cap : Nat} (h : RdB w (.slice a l.length cap) l) (m : Nat) (hm : m ≤ l.length) : RdB w (.slice (further a cap m) (l.length - m) (cap - m)) (l.drop m) := by
  obtain ⟨a', cap', e, h1, h2, h3⟩ := h
  cases e
  have hl : (l.drop m).length = l.length - m := by rw [List.length_drop]
  refine ⟨further a cap m, cap - m, by rw [hl], by omega, by omega, fun h0 => ?_⟩
  rw [hl] at h0
  obtain ⟨g, o, rfl, e2, e3⟩ := h3 (by omega)
  refine ⟨g, o + m, ?_, e2, fun j hj => ?_⟩
  · unfold further
    simp only []
    rw [if_neg (by omega)]
    by_cases h0 : m = 0
    · subst h0; rfl
    · rw [if_neg h0]
  · rw [hl] at hj
    have := e3 (m + j) (by omega)
    rw [← Nat.add_assoc] at this
    rw [this, List.getElem_drop]

theorem tx_take (l : List UInt8) (k : Nat) : (tx l).extract 0 k = tx (l.take k) := by
  apply ByteArray.ext
  simp

theorem tx_drop (l : List UInt8) (k : Nat) : (tx l).extract k l.length = tx (l.drop k) := by
  apply ByteArray.ext
  simp
  rw [List.take_of_length_le (by simp)]

/-- A text is cut. -/
theorem cutS_to (l : List UInt8) (k : Nat) (h : k ≤ l.length) (w : World) : (Instr.slice 9 (.string (tx l)) none (some (.int .i64 (k : Int))) none).run Tryd.prog w = .ok (.string (tx (l.take k))) w := by
  have hu := Tryd.underlying9
  have hs : (tx l).size = l.length := rfl
  have h1 : (0 : Int) ≤ (k : Int) ∧ (k : Int) ≤ (l.length : Int) := by omega
  simp [Instr.slice, Instr.sliceBounds, Instr.sliceBound, asIntOf, run_underlying hu, hs]
  rw [if_pos h, tx_take]

theorem cutS_from (l : List UInt8) (k : Nat) (h : k ≤ l.length) (w : World) : (Instr.slice 9 (.string (tx l)) (some (.int .i64 (k : Int))) none none).run Tryd.prog w = .ok (.string (tx (l.drop k))) w := by
  have hu := Tryd.underlying9
  have hs : (tx l).size = l.length := rfl
  have h1 : (0 : Int) ≤ (k : Int) ∧ (k : Int) ≤ (l.length : Int) := by omega
  simp [Instr.slice, Instr.sliceBounds, Instr.sliceBound, asIntOf, run_underlying hu, hs]
  rw [if_pos h, tx_drop]
end Sm
end Go.Proofs.YtnllplholfhbdaaDoor
