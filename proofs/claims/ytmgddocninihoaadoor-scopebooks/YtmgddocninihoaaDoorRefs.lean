/- The document's answer: Dotted, Parts, Under, Compare, each as the same plain function of the texts' bytes. -/
import Derived.Test.YtmgddocninihoaaDoorPieces
namespace Go.Proofs.YtmgddocninihoaaDoor
open Go.RowKit
namespace Nm

/-- What is owned from a later block on is owned from an earlier one on. -/
theorem own_base {w : World} {base base' : Nat} {e : TypeId} {size : Nat} {v : Value} {n : Nat} {xs : List Value} (h : w.ownsRow base e size v n xs) (hb : base' ≤ base) : w.ownsRow base' e size v n xs := by
  refine ⟨h.1, ?_⟩
  rcases h.2 with hn | ⟨g, cap, cur, rfl, hbg, rest⟩
  · exact .inl hn
  · exact .inr ⟨g, cap, cur, rfl, Nat.le_trans hb hbg, rest⟩

def total : List (List UInt8) → Nat
  | [] => 0
  | p :: ps => p.length + 1 + total ps

theorem total_pieces (l : List UInt8) : total (pieces l) = l.length + 1 := by
  induction l with
  | nil => rfl
  | cons c l ih =>
    by_cases h : c = 46
    · subst h; rw [pieces_dot]; simp [total, ih]; omega
    · rw [pieces_nodot h]
      cases hp : pieces l with
      | nil => exact absurd hp (pieces_ne l)
      | cons q qs => rw [hp] at ih; simp [total] at ih ⊢; omega

theorem total_le (ps : List (List UInt8)) (h : ∀ p ∈ ps, p.length ≤ 32) : total ps ≤ 33 * ps.length := by
  induction ps with
  | nil => simp [total]
  | cons p ps ih =>
    have h1 := h p (by simp)
    have h2 := ih (fun q hq => h q (by simp [hq]))
    simp [total]; omega

theorem dotted_len {l : List UInt8} (h : dottedB l = true) : l.length ≤ 131 := by
  have h1 := total_pieces l
  have h2 := total_le (pieces l) (dotted_short h)
  have h3 := dotted_count h
  omega

theorem rname_l (l : List UInt8) (w : World) (h : l.length ≤ maxLen) :
    Calls Tryd.prog 52 #[.string (B l)] w fun e w' => e = .returned (.bool (nameB l)) ∧ w' = w := rname_any (B l) w h

theorem all_take (ps : List (List UInt8)) (k : Nat) (hk : k < ps.length) (h : ∀ j (hj : j < ps.length), j < k → nameB ps[j] = true) (hn : nameB ps[k] = true) :
    ∀ j (hj : j < ps.length), j < k + 1 → nameB ps[j] = true := by
  intro j hj h1
  rcases Nat.lt_or_ge j k with h' | h'
  · exact h j hj h'
  · have : j = k := by omega
    subst this; exact hn

set_option maxRecDepth 1000000 in
set_option maxHeartbeats 1000000 in
theorem rdotted_l (l : List UInt8) (w : World) (hs : l.length ≤ maxLen) :
    Calls Tryd.prog 30 #[.string (B l)] w fun e w' => e = .returned (.bool (dottedB l)) ∧ Below w.heap.size w w' := by
  have hsz : (B l).size ≤ maxLen := hs
  unfold maxLen at hsz
  have HS : Hid (l.length ≤ maxLen) := hs
  clear hs
  by_cases h132 : 132 < (B l).size
  · have HF : Hid (dottedB l = false) := by
      show dottedB l = false
      cases h : dottedB l with
      | false => rfl
      | true => exact absurd (dotted_len h) (by have : (B l).size = l.length := rfl
                                                omega)
    go_enter Tryd.func30, Tryd.ntmps30
    go_wp2
    go_ret
    exact ⟨ret_bool HF.out.symm, Below.refl _ _⟩
  · have HP : Hid (l.length ≤ 16777216) := by
      have : (B l).size = l.length := rfl
      show l.length ≤ 16777216
      omega
    go_enter Tryd.func30, Tryd.ntmps30
    go_wp2_with fail
    refine (pieces_l _ _ HP.out).mono ?_
    rintro e w1 ⟨v1, rfl, hown, hbel⟩
    obtain ⟨a1, cap1, rfl, hc1, hm1, hcell1⟩ := own_slice hown
    obtain ⟨g, rfl, _, hg, hx⟩ := hcell1 (pieces_pos l)
    have HD : Hid (dottedB l = (decide ((pieces l).length ≤ 4) && (pieces l).all nameB)) := rfl
    have HQ : Hid (∀ p ∈ pieces l, p.length ≤ maxLen) := fun p hp => Nat.le_trans (piece_le l p hp) HS.out
    clear hcell1 hown
    generalize pieces l = ps at *
    unfold maxLen at hm1
    by_cases h4 : 4 < ps.length
    · have HF : Hid (dottedB l = false) := by
        show dottedB l = false
        rw [HD.out]; simp; omega
      clear hx
      go_wp2
      go_ret
      exact ⟨ret_bool HF.out.symm, hbel⟩
    · have HX : Hid (∀ j (hj : j < ps.length), w1.cell? ⟨g, j, none⟩ = some (.string (B ps[j]))) := hx
      clear hx
      go_wp2
      go_loop [4] (fun i => ∃ k : Nat, k ≤ ps.length ∧ i = .int .i64 k ∧ Hid (∀ j (hj : j < ps.length), j < k → nameB ps[j] = true)) (fun i => ps.length - (intOf i).toNat)
      case atStart => exact ⟨0, Nat.zero_le _, rfl, fun j _ h => by omega⟩
      case round =>
        obtain ⟨k, hk, rfl, hok⟩ := hrel
        by_cases hp : k < ps.length
        · have hcell := HX.out k hp
          have HN : Hid ((ps[k]).length ≤ maxLen) := HQ.out _ (List.getElem_mem _)
          cases hn : nameB ps[k] with
          | true =>
            go_wp2_with (go_at_call 52; refine (rname_l _ _ HN.out).mono ?_; rintro e w2 ⟨rfl, rfl⟩)
            go_round
            case rel => exact ⟨k + 1, by omega, by go_num, all_take ps k hp hok.out hn⟩
            case measure => simp [intOf]; omega
          | false =>
            have HF : Hid (dottedB l = false) := by
              show dottedB l = false
              rw [HD.out, Bool.and_eq_false_iff]
              right
              rw [List.all_eq_false]
              exact ⟨_, List.getElem_mem hp, by rw [hn]; simp⟩
            go_wp2_with (go_at_call 52; refine (rname_l _ _ HN.out).mono ?_; rintro e w2 ⟨rfl, rfl⟩)
            go_ret
            exact ⟨ret_bool HF.out.symm, hbel⟩
        · have HF : Hid (dottedB l = true) := by
            show dottedB l = true
            rw [HD.out, Bool.and_eq_true, List.all_eq_true]
            refine ⟨by simp; omega, fun p hp' => ?_⟩
            obtain ⟨j, hj, rfl⟩ := List.mem_iff_getElem.1 hp'
            exact hok.out j hj (by omega)
          go_wp2
          go_ret
          exact ⟨ret_bool HF.out.symm, hbel⟩

end Nm
end Go.Proofs.YtmgddocninihoaaDoor
