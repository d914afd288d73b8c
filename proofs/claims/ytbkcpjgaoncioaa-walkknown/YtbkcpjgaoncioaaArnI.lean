/- The program's arena: Place (slices.DeleteFunc with a closure), Free. -/
import Derived.Test.YtbkcpjgaoncioaaArnH
import Derived.Lib.SliceRun
namespace Go.Proofs.Ytbkcpjgaoncioaa
set_option linter.ambiguousOpen false
open Go.RowKit
namespace An
open Ft Lv
set_option linter.unusedSimpArgs false
set_option linter.unusedVariables false

/-- A number of a row of one's own. -/
theorem own_at {w : World} {base n b cap : Nat} {l : List Nat} (h : w.ownsRow base 3 1 (.slice (some ⟨b, 0, none⟩) n cap) n (l.map nun)) (j x : Nat) (hx : l[j]? = some x) : w.cell? ⟨b, j, none⟩ = some (nun x) ∧ w.frozen? ⟨b, j, none⟩ = false := by
  have hl := h.1
  rw [List.length_map, Nat.mul_one] at hl
  have hj := (List.getElem?_eq_some_iff.1 hx).1
  obtain ⟨⟨u, h1, h2⟩, h3⟩ := Nm.own_cell h j (by omega)
  rw [List.getElem?_map, hx] at h1
  cases h1
  exact ⟨h2, h3⟩

/-! ### One is taken out -/

/-- The row amid it: i of the new one are laid. -/
def amid (R : List Nat) (m i : Nat) : List Nat := (R.eraseIdx m).take i ++ R.drop i

theorem erase_len (R : List Nat) (m : Nat) (h : m < R.length) : (R.eraseIdx m).length = R.length - 1 := List.length_eraseIdx_of_lt h

theorem amid_start (R : List Nat) (m : Nat) (h : m < R.length) : amid R m m = R := by
  unfold amid
  rw [List.eraseIdx_eq_take_drop_succ, List.take_append_of_le_length (by rw [List.length_take]; omega), List.take_of_length_le (by rw [List.length_take]; omega), List.take_append_drop]

theorem amid_next (R : List Nat) (m i : Nat) (h : i < R.length) : (amid R m i)[i + 1]? = R[i + 1]? := by
  rcases Nat.lt_or_ge m R.length with hm | hm
  · have := erase_len R m hm
    unfold amid
    have hl : ((R.eraseIdx m).take i).length = i := by rw [List.length_take]; omega
    rw [List.getElem?_append_right (by omega), hl, List.getElem?_drop]
    congr 1
    omega
  · unfold amid
    rw [List.eraseIdx_of_length_le hm, List.take_append_drop]

theorem amid_set (R : List Nat) (m i x : Nat) (hm : m ≤ i) (h : R[i + 1]? = some x) : (amid R m i).set i x = amid R m (i + 1) := by
  have hi := (List.getElem?_eq_some_iff.1 h).1
  have he := erase_len R m (by omega)
  have hl : ((R.eraseIdx m).take i).length = i := by rw [List.length_take]; omega
  unfold amid
  rw [List.set_append_right _ _ (by omega), hl, Nat.sub_self]
  have h1 : (R.eraseIdx m)[i]? = some x := by
    rw [List.getElem?_eraseIdx, if_neg (by omega)]
    exact h
  obtain ⟨h2, h3⟩ := List.getElem?_eq_some_iff.1 h1
  rw [List.take_succ_eq_append_getElem h2, h3, List.append_assoc]
  congr 1
  rw [List.drop_eq_getElem_cons (by omega)]
  rfl

theorem amid_end (R : List Nat) (m q : Nat) (hm : m < R.length) (hq : R.length = q + 1) (z : Nat) : ((amid R m q).set q z).take q = R.eraseIdx m := by
  have he := erase_len R m hm
  unfold amid
  have hl : ((R.eraseIdx m).take q).length = q := by rw [List.length_take]; omega
  rw [List.set_append_right _ _ (by omega), List.take_append_of_le_length (by omega), List.take_take, Nat.min_self, List.take_of_length_le (by omega)]

theorem slice_fromI (b len cap k : Nat) (h : k < cap) (hl : k ≤ len) (hc : len ≤ cap) (w : World) : (Instr.slice 35 (.slice (some ⟨b, 0, none⟩) len cap) (some (.int .i64 (k : Int))) none none).run Try.prog w = .ok (.slice (some ⟨b, k, none⟩) (len - k) (cap - k)) w := by
  have h1 : (0 : Int) ≤ (k : Int) ∧ (k : Int) ≤ (cap : Int) := by omega
  have hu := Try.underlying35
  simp [Instr.slice, Instr.sliceBounds, Instr.sliceBound, asIntOf, run_underlying hu, Addr.add]
  rw [if_pos hl, if_neg (by omega)]
  by_cases h0 : k = 0
  · subst h0
    rfl
  · rw [if_neg h0]

/-! ### Place, Free -/

theorem PAn.setFree' {w : World} {p : Nat} {fv : Value} {A : Arn} (hblk : w.heap[p]? = some (.cells (pcs A fv).toArray 67)) (hlen : A.sl.length = 32) {lv : Value} {l : List Nat} (ho : w.ownsRow 0 3 1 lv l.length (l.reverse.map nun)) : PAn (w.setCell ⟨p, 544, none⟩ lv) p lv ⟨A.sl, l, A.wr⟩ := by
  have hG : w.grownBy (w.setCell ⟨p, 544, none⟩ lv) (some p) := ⟨rfl, rfl, rfl, by simp, fun k hk hn => Below.heap_setCell _ _ _ k (fun e => hn (by rw [e]))⟩
  have hl : (scs A.sl).length = 544 := by rw [scs_len, hlen]
  have hne : lv.ownBlock ≠ some p := fun e => by
    obtain ⟨c, hc, _⟩ := own_cellsT ho e
    rw [hblk] at hc
    simp at hc
  refine ⟨?_, hlen, ho.kept hG (.inr hne)⟩
  rw [heap_setCell_same _ p 544 _ _ _ hblk]
  refine congrArg (fun c => some (Obj.cells c 67 (0, 0))) ?_
  simp only [pcs, List.setIfInBounds_toArray]
  rw [List.set_append_right _ _ (by omega), hl]
  rfl

theorem nodup_rev {l : List Nat} (h : l.Nodup) : l.reverse.Nodup := List.pairwise_reverse.2 (h.imp (fun e => Ne.symm e))

theorem erase_rev (l : List Nat) (k : Nat) (h : l.Nodup) : (l.erase k).reverse = l.reverse.erase k := by
  rw [List.Nodup.erase_eq_filter h k, List.Nodup.erase_eq_filter (nodup_rev h) k, List.filter_reverse]

end An
end Go.Proofs.Ytbkcpjgaoncioaa
