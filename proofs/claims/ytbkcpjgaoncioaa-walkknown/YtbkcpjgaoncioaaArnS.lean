/- The document's arena: a slot is taken out of the free ones; Take, Place. -/
import Derived.Test.YtbkcpjgaoncioaaArnR
namespace Go.Proofs.Ytbkcpjgaoncioaa
set_option linter.ambiguousOpen false
open Go.RowKit
namespace An
open Ft Lv
set_option linter.unusedSimpArgs false
set_option linter.unusedVariables false

theorem erase_step (l : List Nat) (k i x : Nat) (hx : l[i]? = some x) : (l.take (i + 1)).eraseIdx k = if i = k then (l.take i).eraseIdx k else (l.take i).eraseIdx k ++ [x] := by
  have hi : i < l.length := (List.getElem?_eq_some_iff.1 hx).1
  have e : l.take (i + 1) = l.take i ++ [x] := by
    rw [List.take_add_one, hx]
    rfl
  have hl : (l.take i).length = i := by rw [List.length_take]; omega
  rw [e]
  rcases Nat.lt_trichotomy i k with h | h | h
  · rw [if_neg (by omega), List.eraseIdx_of_length_le (by simp [hl]; omega), List.eraseIdx_of_length_le (by rw [hl]; omega)]
  · subst h
    have e2 : (l.take i).eraseIdx i = l.take i := List.eraseIdx_of_length_le (by rw [hl]; exact Nat.le_refl _)
    rw [if_pos rfl, List.eraseIdx_append_of_length_le (by rw [hl]; exact Nat.le_refl _), hl, e2, Nat.sub_self]
    simp
  · rw [if_neg (by omega), List.eraseIdx_append_of_lt_length (by rw [hl]; exact h)]

/-- The list of free ones is put in. -/
theorem RAn.setFree {base : Nat} {w wr : World} {g : Nat} {sv fv lv : Value} {A : Arn} {l : List Nat} (h : RAn base wr g sv fv A) (hgw : g < w.heap.size) (ho : wr.ownsRow w.heap.size 3 1 lv l.length (l.map nun)) : RAn base (wr.setCell ⟨g, 1, none⟩ lv) g sv lv ⟨A.sl, l, A.wr⟩ := by
  have hb := h.blk
  have hG : wr.grownBy (wr.setCell ⟨g, 1, none⟩ lv) (some g) := ⟨rfl, rfl, rfl, by simp, fun k hk hn => Below.heap_setCell _ _ _ k (fun e => hn (by rw [e]))⟩
  refine ⟨heap_setCell_same _ g 1 _ _ _ hb, h.sl.kept hG (.inr h.ne.1), (own_monoA (ho.kept hG (.inr fun e => by have := (ho.lt g e).1; omega)) (Nat.le_of_lt (Nat.lt_of_le_of_lt h.lo hgw))), h.lo⟩

/-- The document's arena, as a footprint. -/
def RepA (base : Nat) (w : World) (g : Nat) (F : Nat → Prop) (A : Arn) : Prop := ∃ sv fv, RAn base w g sv fv A ∧ F = rfp g sv fv ∧ base ≤ w.heap.size

theorem RepA.keep {base : Nat} {w w' : World} {g : Nat} {F G : Nat → Prop} {A : Arn} (h : RepA base w g F A) (hk : Keep G w w') (hn : ∀ k, F k → ¬ G k) : RepA base w' g F A := by
  obtain ⟨sv, fv, h1, rfl, h3⟩ := h
  exact ⟨sv, fv, h1.keep hk hn, rfl, Nat.le_trans h3 hk.size⟩

theorem RepA.below {base : Nat} {w w' : World} {g : Nat} {F : Nat → Prop} {A : Arn} (h : RepA base w g F A) (hb : Below w.heap.size w w') : RepA base w' g F A :=
  h.keep (Keep.of_below (F := fun _ => False) hb) (fun _ _ h => h)

theorem RepA.lt {base : Nat} {w : World} {g : Nat} {F : Nat → Prop} {A : Arn} (h : RepA base w g F A) (k : Nat) (hk : F k) : base ≤ k ∧ k < w.heap.size := by
  obtain ⟨sv, fv, h1, rfl, h3⟩ := h
  exact h1.lt k hk

/-- What a call leaves of it. -/
def LeftA (base : Nat) (w w' : World) (g : Nat) (F : Nat → Prop) (A : Arn) : Prop := ∃ G, RepA base w' g G A ∧ Keep F w w' ∧ Goes w F G

theorem leftA_same {base : Nat} {w : World} {g : Nat} {F : Nat → Prop} {A : Arn} (h : RepA base w g F A) : LeftA base w w g F A := ⟨F, h, Keep.refl _ _, Goes.refl _ _⟩

theorem leftA_free {base : Nat} {w w' : World} {g : Nat} {sv fv fv' : Value} {A : Arn} (h : RAn base w' g sv fv' A) (hb : base ≤ w.heap.size) (hk : Keep (fun j => j = g) w w') (hn : ∀ j, fv'.ownBlock = some j → w.heap.size ≤ j) : LeftA base w w' g (rfp g sv fv) A :=
  ⟨rfp g sv fv', ⟨sv, fv', h, rfl, Nat.le_trans hb hk.size⟩, hk.weaken (fun k _ e => .inl e), fun k hk' => by
    rcases hk' with e | e | e
    · exact .inl (.inl e)
    · exact .inl (.inr (.inl e))
    · exact .inr (hn k e)⟩

theorem erase_idx (i : Nat) : ∀ l : List Nat, l.eraseIdx (l.idxOf i) = l.erase i
  | [] => rfl
  | a :: l => by
    rw [List.idxOf_cons, List.erase_cons]
    cases h : a == i with
    | true => simp
    | false => simp [erase_idx i l]

theorem pos_in {l : List Nat} {i : Nat} (h : i ∈ l) : pos l i = (l.idxOf i : Int) ∧ l.eraseIdx (l.idxOf i) = l.erase i := ⟨by rw [pos, if_pos h], erase_idx i l⟩

theorem pos_out {l : List Nat} {i : Nat} (h : i ∉ l) : pos l i = -1 := by rw [pos, if_neg h]

end An
end Go.Proofs.Ytbkcpjgaoncioaa
