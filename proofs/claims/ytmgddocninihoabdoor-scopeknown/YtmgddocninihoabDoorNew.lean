/- scope.New: a book of some names, or the first wrong one. -/
import Derived.Test.YtmgddocninihoabDoorBook
import Derived.Test.YtmgddocninihoabDoorSame
import Derived.Test.YtmgddocninihoabDoorIs
namespace Go.Proofs.YtmgddocninihoabDoor
set_option linter.ambiguousOpen false
open Go.RowKit Go.Maps Nm Er
namespace Sc
set_option linter.unusedSimpArgs false
set_option linter.unusedVariables false

/-- The first wrong name: the error's number, and its place. -/
def newG : List (List UInt8) → List (List UInt8) → Option (Nat × Nat)
  | _, [] => none
  | d, p :: r => if dottedB p = false then some (8, d.length) else if p ∈ d then some (9, d.length) else newG (d ++ [p]) r

theorem newG_num : ∀ (r d : List (List UInt8)) (n k : Nat), newG d r = some (n, k) → (n = 8 ∨ n = 9) ∧ k < d.length + r.length
  | [], d, n, k, h => by simp [newG] at h
  | p :: r, d, n, k, h => by
    simp only [newG] at h
    split at h
    · cases h; exact ⟨.inl rfl, by simp⟩
    · split at h
      · cases h; exact ⟨.inr rfl, by simp⟩
      · have := newG_num r (d ++ [p]) n k h
        exact ⟨this.1, by have := this.2; simp at this ⊢; omega⟩

theorem new_many (v : Value) (l : List (List UInt8)) (w : World) (h : Rd w v l) (hl : 64 < l.length) :
    Calls Tryd.prog 9 #[v] w fun e w' => e = .returned (.tuple #[.pointer none, noV 5]) ∧ w' = w := by
  obtain ⟨a, cap, rfl, hc, hm, hcell⟩ := h
  unfold maxLen at hm
  clear hcell
  go_enter Tryd.func9, Tryd.ntmps9
  go_wp2
  go_ret2
  exact ⟨rfl, rfl⟩

set_option maxRecDepth 100000 in
set_option maxHeartbeats 1000000 in
theorem new_any (v : Value) (l : List (List UInt8)) (w : World) (h : Rd w v l) (hl : l.length ≤ 64) (hlen : ∀ p ∈ l, p.length ≤ maxLen) :
    Calls Tryd.prog 9 #[v] w fun e w' => Below w.heap.size w w' ∧ ((newG [] l = none ∧ ∃ pb mb, w.heap.size ≤ pb ∧ w.heap.size ≤ mb ∧ e = .returned (.tuple #[.pointer (some ⟨pb, 0, none⟩), .nilIface]) ∧ Mp w' pb mb l) ∨ ∃ n k, newG [] l = some (n, k) ∧ e = .returned (.tuple #[.pointer none, atV n k])) := by
  obtain ⟨a, cap, rfl, hc, hm, hcell⟩ := h
  unfold maxLen at hm
  have HC : Hid (0 < l.length → ∃ g o, a = some ⟨g, o, none⟩ ∧ g < w.heap.size ∧ ∀ j (hj : j < l.length), w.cell? ⟨g, o + j, none⟩ = some (.string (B l[j]))) := hcell
  clear hcell
  have HL : Hid (∀ p ∈ l, p.length ≤ maxLen) := hlen
  clear hlen
  have hmm := @run_makeMap Tryd.prog
  have B0 : Below w.heap.size w ((w.alloc (.map #[] 0)).alloc (.cells #[.map (some w.heap.size)] 70)) := ((Below.refl _ _).alloc (Nat.le_refl _) _).alloc (by simp) _
  have M0 : Mp ((w.alloc (.map #[] 0)).alloc (.cells #[.map (some w.heap.size)] 70)) (w.heap.size + 1) w.heap.size [] :=
    ⟨by simp, ⟨_, bd_nil, (World.ownsMap_made _ _ _ _).alloc _⟩, by omega⟩
  go_enter Tryd.func9, Tryd.ntmps9
  go_wp2
  go_loopw [17] (fun i wr => ∃ k : Nat, k ≤ l.length ∧ i = .int .i64 k ∧ Mp wr (w.heap.size + 1) w.heap.size (l.take k) ∧ Below w.heap.size w wr ∧ Hid (newG (l.take k) (l.drop k) = newG [] l)) (fun i _ => l.length - (intOf i).toNat)
  case atStart => exact ⟨0, Nat.zero_le _, rfl, M0, B0, rfl⟩
  case round =>
    obtain ⟨k, hk, rfl, hM, hb, hG⟩ := hrel
    by_cases hp : k < l.length
    · obtain ⟨g, o, rfl, hgl, hcj⟩ := HC.out (Nat.lt_of_le_of_lt (Nat.zero_le _) hp)
      have hck : wr.cell? ⟨g, o + k, none⟩ = some (.string (B l[k])) := (hb.cell (p := ⟨g, o + k, none⟩) hgl).trans (hcj k hp)
      have hpl : (l[k]).length ≤ maxLen := HL.out _ (List.getElem_mem hp)
      have hdr : l.drop k = l[k] :: l.drop (k + 1) := List.drop_eq_getElem_cons hp
      have htk : l.take (k + 1) = l.take k ++ [l[k]] := List.take_succ_eq_append_getElem hp
      have hlt : (l.take k).length = k := by rw [List.length_take]; omega
      have hs := hM.lt
      have HCK : Hid (∀ j (hj : j < l.length), w.cell? ⟨g, o + j, none⟩ = some (.string (B l[j]))) := hcj
      clear hcj
      generalize hq : l[k] = q at hck hpl hdr htk
      by_cases hd : dottedB q = false
      · have c := add_bad _ _ _ q wr hM hpl hd
        have hG2 : Hid (newG [] l = some (8, k)) := by
          show newG [] l = some (8, k)
          rw [← hG.out, hdr]; simp [newG, hd, hlt]
        skip
        go_wp2_with (go_at_call 25; refine c.mono ?_; rintro e w1 ⟨rfl, hb1⟩)
        go_ret2
        exact ⟨hb.trans (hb1.mono hb.size), .inr ⟨8, k, hG2.out, rfl⟩⟩
      · have hd' : dottedB q = true := by simpa using hd
        by_cases hi : q ∈ l.take k
        · have c := add_twice _ _ _ q wr hM hpl hd' hi
          have hG2 : Hid (newG [] l = some (9, k)) := by
            show newG [] l = some (9, k)
            rw [← hG.out, hdr]; simp [newG, hd', hi, hlt]
          skip
          go_wp2_with (go_at_call 25; refine c.mono ?_; rintro e w1 ⟨rfl, hb1⟩)
          go_ret2
          exact ⟨hb.trans (hb1.mono hb.size), .inr ⟨9, k, hG2.out, rfl⟩⟩
        · have c := add_new _ _ _ q wr hM hpl hd' hi (by omega)
          have hG2 : Hid (newG (l.take (k + 1)) (l.drop (k + 1)) = newG [] l) := by
            show newG (l.take (k + 1)) (l.drop (k + 1)) = newG [] l
            rw [← hG.out, hdr, htk]; simp [newG, hd', hi]
          rw [← htk] at c
          skip
          go_wp2_with (go_at_call 25; refine c.mono ?_; rintro e w1 ⟨rfl, hg1, hM1⟩)
          go_roundw
          case rel => exact ⟨k + 1, by omega, by go_num, hM1, hb.trans (grown_below hg1 (Nat.le_refl _) hs.2), hG2⟩
          case measure => simp [intOf]; omega
    · obtain rfl : k = l.length := by omega
      rw [List.take_length] at hM hG
      rw [List.drop_length] at hG
      have hG2 : Hid (newG [] l = none) := by
        show newG [] l = none
        rw [← hG.out]; rfl
      go_wp2
      go_ret2
      exact ⟨hb, .inl ⟨hG2.out, _, _, by omega, Nat.le_refl _, rfl, hM⟩⟩
end Sc
end Go.Proofs.YtmgddocninihoabDoor
