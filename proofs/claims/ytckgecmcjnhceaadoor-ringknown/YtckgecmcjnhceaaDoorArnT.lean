/- The document's arena: Put, Give, New. -/
import Derived.Test.YtckgecmcjnhceaaDoorArnS
namespace Go.Proofs.YtckgecmcjnhceaaDoor
set_option linter.ambiguousOpen false
open Go.RowKit
namespace An
open Ft Lv
set_option linter.unusedSimpArgs false
set_option linter.unusedVariables false

theorem heap_setCells (b : Nat) (T : TypeId) : ∀ (vs : List Value) (o : Nat) (w : World) (C : Array Value), w.heap[b]? = some (.cells C T) → o + vs.length ≤ C.size → ∃ C' : Array Value, (w.setCells b o vs).heap[b]? = some (.cells C' T) ∧ C'.toList = C.toList.take o ++ vs ++ C.toList.drop (o + vs.length)
  | [], o, w, C, h, hs => ⟨C, h, by simp⟩
  | v :: r, o, w, C, h, hs => by
    simp only [List.length_cons] at hs
    have h1 := heap_setCell_same w b o C T v h
    obtain ⟨C', h2, h3⟩ := heap_setCells b T r (o + 1) (w.setCell ⟨b, o, none⟩ v) _ h1 (by simp; omega)
    refine ⟨C', h2, ?_⟩
    have ho : o < C.toList.length := by rw [Array.length_toList]; omega
    have e0 : (C.toList.set o v).drop (o + 1 + r.length) = C.toList.drop (o + 1 + r.length) := List.drop_set_of_lt (by omega)
    rw [h3, Array.toList_setIfInBounds, List.take_set, e0]
    have e : (C.toList.take (o + 1)).set o v = C.toList.take o ++ [v] := by
      rw [List.take_add_one, List.getElem?_eq_getElem ho, List.set_append_right _ _ (by rw [List.length_take]; omega), List.length_take, show o - min o C.toList.length = 0 by omega]
      simp
    rw [e]
    simp only [List.length_cons, List.append_assoc, List.cons_append, List.nil_append]
    rw [show o + 1 + r.length = o + (r.length + 1) by omega]

theorem grown_setCells (b : Nat) : ∀ (vs : List Value) (o : Nat) (w : World), w.grownBy (w.setCells b o vs) (some b)
  | [], o, w => ⟨rfl, rfl, rfl, Nat.le_refl _, fun _ _ _ => rfl⟩
  | v :: r, o, w => by
    have ih := grown_setCells b r (o + 1) (w.setCell ⟨b, o, none⟩ v)
    exact ⟨ih.os, ih.tape, ih.output, by have := ih.size; rw [World.setCells]; simpa using this, fun k hk hn => (ih.block k (by simpa using hk) hn).trans (Below.heap_setCell _ _ _ k (fun e => hn (by rw [e])))⟩

section
variable {base : Nat} {w : World} {g b cap : Nat} {fv : Value} {A : Arn}

/-- A slot may be written. -/
theorem RAn.thereAt (h : RAn base w g (.slice (some ⟨b, 0, none⟩) 32 cap) fv A) (hl : A.sl.length = 32) (k : Nat) (hk : k < 32) : w.there b (k * 17) 17 := by
  have h0 := h.sl
  rw [hl] at h0
  rcases h0.2 with ⟨_, h1⟩ | ⟨b', cap', cur, e, hb, hc, h3, h4, h5, h6⟩
  · omega
  · simp only [Value.slice.injEq, Option.some.injEq, Addr.mk.injEq, and_true, true_and] at e
    obtain ⟨rfl, rfl⟩ := e
    refine fun j hj => ⟨?_, by simp [World.frozen?, hc]⟩
    rw [cell_of_row w b _ _ _ _ hc]
    simp
    omega

/-- A slot is written. -/
theorem RAn.stored (h : RAn base w g (.slice (some ⟨b, 0, none⟩) 32 cap) fv A) (hl : A.sl.length = 32) (k : Nat) (hk : k < 32) (x : Slt) : RAn base (w.setCells b (k * 17) x.cells) g (.slice (some ⟨b, 0, none⟩) 32 cap) fv ⟨A.sl.set k x, A.fr, A.wr⟩ := by
  have hG := grown_setCells b x.cells (k * 17) w
  have hne := h.ne
  refine ⟨(hG.block g h.glt (fun e => hne.1 e.symm)).trans h.blk, ?_, h.fr.kept hG (.inr (fun e => hne.2.2 b rfl e)), h.lo⟩
  have h0 := h.sl
  rw [hl] at h0
  have hll : (A.sl.set k x).length = 32 := by rw [List.length_set, hl]
  simp only
  rw [hll]
  rcases h0.2 with ⟨_, h1⟩ | ⟨b', cap', cur, e, hb, hc, h3, h4, h5, h6⟩
  · omega
  · simp only [Value.slice.injEq, Option.some.injEq, Addr.mk.injEq, and_true, true_and] at e
    obtain ⟨rfl, rfl⟩ := e
    obtain ⟨C', e1, e2⟩ := heap_setCells b _ x.cells (k * 17) w cur hc (by rw [Slt.len]; omega)
    refine ⟨by rw [scs_len, hll], .inr ⟨b, cap, C', rfl, hb, e1, h3, h4, ?_, ?_⟩⟩
    · rw [← Array.length_toList, e2, List.length_append, List.length_append, List.length_take, List.length_drop, Slt.len, Array.length_toList]
      omega
    · rw [e2, scs_set A.sl k x (by omega), ← h6, Slt.len]
      have hc1 : (cur.toList.take (32 * 17)).take (k * 17) = cur.toList.take (k * 17) := by
        rw [List.take_take, show min (k * 17) (32 * 17) = k * 17 by omega]
      rw [hc1, List.drop_take, List.take_append, List.take_append]
      have hlen : (cur.toList.take (k * 17)).length = k * 17 := by rw [List.length_take, Array.length_toList]; omega
      have ha : (cur.toList.take (k * 17)).take (32 * 17) = cur.toList.take (k * 17) := List.take_of_length_le (by rw [hlen]; omega)
      have hb' : x.cells.take (32 * 17 - k * 17) = x.cells := List.take_of_length_le (by rw [Slt.len]; omega)
      rw [List.length_append, hlen, Slt.len, ha, hb']

/-- The writes are counted. -/
theorem RAn.counted {sv : Value} (h : RAn base w g sv fv A) (n : Nat) : RAn base (w.setCell ⟨g, 2, none⟩ (nun n)) g sv fv ⟨A.sl, A.fr, n⟩ := by
  have hG : w.grownBy (w.setCell ⟨g, 2, none⟩ (nun n)) (some g) := ⟨rfl, rfl, rfl, by simp, fun k hk hn => Below.heap_setCell _ _ _ k (fun e => hn (by rw [e]))⟩
  exact ⟨heap_setCell_same _ g 2 _ _ _ h.blk, h.sl.kept hG (.inr h.ne.1), h.fr.kept hG (.inr h.ne.2.1), h.lo⟩
end

theorem leftA_self {base : Nat} {w w' : World} {g : Nat} {sv fv : Value} {A : Arn} (h : RAn base w' g sv fv A) (hb : base ≤ w.heap.size) (hk : Keep (rfp g sv fv) w w') : LeftA base w w' g (rfp g sv fv) A :=
  ⟨rfp g sv fv, ⟨sv, fv, h, rfl, Nat.le_trans hb hk.size⟩, hk, Goes.refl _ _⟩

end An
end Go.Proofs.YtckgecmcjnhceaaDoor
