/- The document's answer: Pieces, as the plain function of the text's bytes. -/
import Derived.Test.YtmgddocninihoaaDoorRef
namespace Go.Proofs.YtmgddocninihoaaDoor
open Go.RowKit
namespace Nm

theorem pieces_at (l : List UInt8) (f k : Nat) (hfk : f ≤ k) (hk : k < l.length) (hno : ∀ j (hj : j < l.length), f ≤ j → j < k → l[j] ≠ 46) (h46 : l[k] = 46) :
    pieces (l.drop f) = (l.drop f).take (k - f) :: pieces (l.drop (k + 1)) := by
  obtain ⟨h1, h2, h3⟩ := hd_at (l.drop f) (k - f) (by simp; omega) (fun j hj => by
    rw [List.getElem_drop]; exact hno (f + j) (by omega) (by omega) (by omega)) (by
    rw [List.getElem_drop]
    have : f + (k - f) = k := by omega
    simp only [this]; exact h46)
  rw [pieces_eq, h1, h2, h3]
  simp only [if_true, List.drop_drop]
  have : f + (k - f + 1) = k + 1 := by omega
  rw [this]

theorem pieces_last (l : List UInt8) (f : Nat) (hno : ∀ j (hj : j < l.length), f ≤ j → l[j] ≠ 46) : pieces (l.drop f) = [l.drop f] := by
  obtain ⟨h1, _, h3⟩ := hd_none (l.drop f) (fun j hj => by
    rw [List.getElem_drop]; exact hno (f + j) (by simp at hj; omega) (by omega))
  rw [pieces_eq, h1, h3]; simp

theorem extract_mid (l : List UInt8) (f k : Nat) : (B l).extract f k = B ((l.drop f).take (k - f)) := by
  apply ByteArray.ext
  apply Array.ext'
  rw [ByteArray.data_extract]
  simp [B, List.extract_eq_take_drop]

theorem extract_last (l : List UInt8) (f : Nat) : (B l).extract f (B l).size = B (l.drop f) := by
  rw [extract_mid, List.take_of_length_le]
  simp [B_size]

set_option maxRecDepth 1000000 in
set_option maxHeartbeats 1000000 in
theorem pieces_l (l : List UInt8) (w : World) (hs : l.length ≤ 16777216) :
    Calls Tryd.prog 51 #[.string (B l)] w fun e w' => ∃ v, e = .returned v ∧ w'.ownsRow w.heap.size 9 1 v (pieces l).length ((pieces l).map txt) ∧ Below w.heap.size w w' := by
  obtain ⟨i0, hi, hz0, hz1, hz2⟩ := info_parts Tryd.info9
  have hsz : (B l).size ≤ 16777216 := hs
  have HL : Hid ((B l).size = l.length) := rfl
  have HC : Hid ((pieces l).length ≤ l.length + 1) := pieces_len l
  go_enter Tryd.func51, Tryd.ntmps51
  go_wp2
  go_loopw [3, 4, 5] (fun pv fv iv wr => ∃ (f k : Nat) (acc : List (List UInt8)), fv = .int .i64 f ∧ iv = .int .i64 k ∧ f ≤ k ∧ k ≤ (B l).size ∧ Hid (∀ j (hj : j < l.length), f ≤ j → j < k → l[j] ≠ 46) ∧ Hid (acc ++ pieces (l.drop f) = pieces l) ∧ wr.ownsRow w.heap.size 9 1 pv acc.length (acc.map txt) ∧ Below w.heap.size w wr) (fun _ _ iv _ => (B l).size - (intOf iv).toNat)
  case atStart => exact ⟨0, 0, [], rfl, rfl, Nat.le_refl _, Nat.zero_le _, fun j _ _ h => by omega, rfl, World.ownsRow_nil _ _ _ _, Below.refl _ _⟩
  case round =>
    obtain ⟨f, k, acc, rfl, rfl, hfk, hk, hno, hsum, hown, hbel⟩ := hrel
    have hacc : acc.length ≤ 16777217 := by
      have h1 := HC.out
      rw [← hsum.out, List.length_append] at h1
      have := pieces_pos (l.drop f)
      omega
    by_cases hp : k < (B l).size
    · by_cases h46 : l[k]'hp = 46
      · have hb : (((B l)[k]'hp).toNat : Int) = 46 := by
          have e : (B l)[k]'hp = 46 := h46
          rw [e]; rfl
        have HN : Hid ((acc ++ [(l.drop f).take (k - f)]) ++ pieces (l.drop (k + 1)) = pieces l) := by
          show (acc ++ [(l.drop f).take (k - f)]) ++ pieces (l.drop (k + 1)) = pieces l
          rw [← hsum.out, pieces_at l f k hfk hp hno.out h46]; simp
        clear h46
        go_wp2_with (at_builtin; refine wpList_append_own _ rfl _ _ 22 rfl w.heap.size 9 i0 (.string ⟨#[]⟩) 1 16 Tryd.underlying22 hi hz0 hz1 hz2 rfl (by decide) _ _ _ rfl (hown.alloc _) ⟨wr.heap.size, 0, none⟩ 1 1 [.string ((B l).extract f k)] rfl rfl ?c1 ?c2 ?c3 ?c4 ?c5 ?_)
        case c1 => exact cell_one_new _ _ _
        case c2 => intro u hu; simp at hu; subst hu; rfl
        case c3 => unfold maxLen; omega
        case c4 => omega
        case c5 => have := hbel.size; simp; omega
        intro v' w4 hown4 hgrow _
        have hbel4 : Below w.heap.size w w4 := Below.grown (hbel.alloc (by exact hbel.size) _) hgrow (by have := hbel.size; simp; omega) (fun k hk => (hown.lt k hk).1)
        have hown5 : w4.ownsRow w.heap.size 9 1 v' (acc ++ [(l.drop f).take (k - f)]).length ((acc ++ [(l.drop f).take (k - f)]).map txt) := by
          rw [extract_mid] at hown4
          simpa [txt] using hown4
        clear hown hown4 hgrow hbel
        go_wp2
        go_roundw
        case rel => exact ⟨k + 1, k + 1, acc ++ [(l.drop f).take (k - f)], by go_num, by go_num, Nat.le_refl _, by omega, fun j _ _ h => by omega, HN, hown5, hbel4⟩
        case measure => simp [intOf]; omega
      · have hb : (((B l)[k]'hp).toNat : Int) ≠ 46 := by
          intro e
          exact h46 (UInt8.toNat_inj.1 (by have e2 : ((B l)[k]'hp).toNat = 46 := by omega
                                           exact e2))
        have hb2 : ((((B l)[k]'hp).toNat : Int) == 46) = false := by rw [beq_eq_false_iff_ne]; exact hb
        clear hb
        go_wp2
        go_roundw
        case rel =>
          refine ⟨f, k + 1, acc, rfl, by go_num, by omega, by omega, fun j hj h1 h2 => ?_, hsum, hown, hbel⟩
          rcases Nat.lt_or_ge j k with h' | h'
          · exact hno.out j hj h1 h'
          · have : j = k := by omega
            subst this; exact h46
        case measure => simp [intOf]; omega
    · have HN : Hid (acc ++ [l.drop f] = pieces l) := by
        show acc ++ [l.drop f] = pieces l
        rw [← hsum.out, pieces_last l f (fun j hj h1 => hno.out j hj h1 (by have := HL.out; omega))]
      go_wp2_with (at_builtin; refine wpList_append_own _ rfl _ _ 22 rfl w.heap.size 9 i0 (.string ⟨#[]⟩) 1 16 Tryd.underlying22 hi hz0 hz1 hz2 rfl (by decide) _ _ _ rfl (hown.alloc _) ⟨wr.heap.size, 0, none⟩ 1 1 [.string ((B l).extract f (B l).size)] rfl rfl ?c1 ?c2 ?c3 ?c4 ?c5 ?_)
      case c1 => exact cell_one_new _ _ _
      case c2 => intro u hu; simp at hu; subst hu; rfl
      case c3 => unfold maxLen; omega
      case c4 => omega
      case c5 => have := hbel.size; simp; omega
      intro v' w4 hown4 hgrow _
      have hbel4 : Below w.heap.size w w4 := Below.grown (hbel.alloc (by exact hbel.size) _) hgrow (by have := hbel.size; simp; omega) (fun k hk => (hown.lt k hk).1)
      have hown5 : w4.ownsRow w.heap.size 9 1 v' (pieces l).length ((pieces l).map txt) := by
        rw [extract_last] at hown4
        rw [← HN.out]
        simpa [txt] using hown4
      clear hown hown4 hgrow hbel
      go_wp2
      go_ret
      exact ⟨_, rfl, hown5, hbel4⟩
end Nm
end Go.Proofs.YtmgddocninihoaaDoor
