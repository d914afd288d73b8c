/- TokenKnown: each letter at each place. -/
import Derived.Test.YtkkpcngdpnoidaaDoorKnownU8
namespace Go.Proofs.YtkkpcngdpnoidaaDoor
set_option linter.ambiguousOpen false
open Go.RowKit
namespace Tk
open Sm
set_option linter.unusedSimpArgs false
set_option linter.unusedVariables false

theorem tx_app (a b : List UInt8) : tx a ++ tx b = tx (a ++ b) := by
  apply ByteArray.ext
  simp

def textL : List UInt8 := [116, 97, 109, 97, 97, 97, 116, 105, 98, 101, 110, 99, 119, 112, 99, 110, 108, 122, 120, 120, 113]

def otherL : List UInt8 := [97, 98, 113, 122, 50, 55, 49, 56, 65, 84, 116, 32, 61, 45, 0, 255]

theorem conv_one (c : UInt8) (H : Nat) (wx : World) (h : wx.cell? ⟨H, 0, none⟩ = some (.int .u8 (c.toNat : Int))) : (convert 46 9 (.slice (some ⟨H, 0, none⟩) 1 1)).run Tryd.prog wx = .ok (.string (tx [c])) wx :=
  run_convert_bytes_back wx 46 9 5 ⟨H, 0, none⟩ 1 [c] Tryd.underlying46 Tryd.underlying5 Tryd.underlying9 (fun j hj => by
    obtain rfl : j = 0 := by simpa using hj
    simpa [Addr.add] using h)

set_option maxRecDepth 100000 in
set_option maxHeartbeats 4000000 in
theorem knownTexts_says (H : Says) (w : World) (hE : Er.Handle w) : Calls Tryd.prog 13 #[] w fun e w' => e = .returned (.bool true) ∧ Below w.heap.size w w' := by
  have HE := Hid.mk' hE
  have HH := Hid.mk' H
  clear H hE
  have hO : Hid (∀ j, j < 16 → (w.alloc (.cells (otherL.map by1).toArray 5)).cell? ⟨w.heap.size, j, none⟩ = some (by1 (otherL.getD j 0))) := fun j hj => by
    have e : (w.alloc (.cells (otherL.map by1).toArray 5)).heap[w.heap.size]? = some (.cells (otherL.map by1).toArray 5) := heap_alloc_new _ _
    have hj' : j < otherL.length := hj
    unfold World.cell?
    rw [e]
    simp [hj', List.getD_eq_getElem?_getD]
  go_enter Tryd.func13, Tryd.ntmps13
  go_wp2
  go_loopw [3, 4, 5] (fun i3 i4 x5 wr => ∃ i : Nat, i ≤ 21 ∧ i3 = nu i ∧ Hid (Below (w.heap.size + 1) (w.alloc (.cells (otherL.map by1).toArray 5)) wr)) (fun i3 _ _ _ => 21 - (intOf i3).toNat)
  case atStart => exact ⟨0, by omega, rfl, Below.refl _ _⟩
  case round =>
    obtain ⟨i, hi, rfl, hB⟩ := hrel
    have hBw : Hid (Below w.heap.size w wr) := (below_new w _).trans (hB.out.mono (by omega))
    by_cases hp : i < 21
    · have hpb : decide ((i : Int) < 21) = true := decide_eq_true (by omega)
      have s1 : ∀ wx, (Instr.slice 9 (.string ⟨#[116, 97, 109, 97, 97, 97, 116, 105, 98, 101, 110, 99, 119, 112, 99, 110, 108, 122, 120, 120, 113]⟩) none (some (.int .i64 (i : Int))) none).run Tryd.prog wx = .ok (.string (tx (textL.take i))) wx := fun wx => cutS_to textL i (by show i ≤ 21; omega) wx
      have ht : (textL.take i).length = i := by rw [List.length_take]; exact Nat.min_eq_left (by show i ≤ 21; omega)
      have c1 : Hid (∀ wx, Below w.heap.size w wx → Calls Tryd.prog 4 #[.string (tx (textL.take i))] wx fun e w' => e = .returned (.bool true) ∧ Below wx.heap.size wx w') := fun wx hb => tokenParses_says HH.out _ wx (by rw [ht]; unfold maxLen; omega) (HE.out.below hb)
      have c2 : Hid (∀ wx, Below w.heap.size w wx → Calls Tryd.prog 4 #[.string (⟨#[116, 97, 109, 97, 97, 97, 116, 105, 98, 101, 110, 99, 119, 112, 99, 110, 108, 122, 120, 120, 113]⟩ ++ tx (textL.take i))] wx fun e w' => e = .returned (.bool true) ∧ Below wx.heap.size wx w') := fun wx hb => by
        rw [show (⟨#[116, 97, 109, 97, 97, 97, 116, 105, 98, 101, 110, 99, 119, 112, 99, 110, 108, 122, 120, 120, 113]⟩ ++ tx (textL.take i) : ByteArray) = tx (textL ++ textL.take i) from tx_app textL (textL.take i)]
        exact tokenParses_says HH.out _ wx (by rw [List.length_append, ht]; show 21 + i ≤ maxLen; unfold maxLen; omega) (HE.out.below hb)
      have hz : ¬ 9223372036854775807 < 21 + (tx (textL.take i)).size := by
        have : (tx (textL.take i)).size = i := ht
        omega
      obtain ⟨f1, hf1⟩ : ∃ f1, tx (textL.take i) = f1 := ⟨_, rfl⟩
      rw [hf1] at c1 c2 hz
      simp only [hf1] at s1
      have HF1 := Hid.mk' hf1
      clear hf1
      go_wp2_with fail
      refine (c1.out _ hBw.out).mono ?_
      rintro e w1 ⟨rfl, hb1⟩
      have hB1 := Hid.mk' (below_to' hBw.out hb1)
      go_wp2_with fail
      refine (c2.out _ hB1.out).mono ?_
      rintro e w2 ⟨rfl, hb2⟩
      have hs0 : w.heap.size + 1 ≤ wr.heap.size := by have := hB.out.size; simp at this; omega
      have hB2 : Hid (Below (w.heap.size + 1) (w.alloc (.cells (otherL.map by1).toArray 5)) w2) := (hB.out.trans (hb1.mono hs0)).trans (hb2.mono (Nat.le_trans hs0 hb1.size))
      clear c1 c2 hb1 hb2 hB1 hBw hz
      go_wp2
      go_loopw [4, 5] (fun i4 x5 wr => ∃ k : Nat, k ≤ 16 ∧ i4 = nu k ∧ Hid (Below (w.heap.size + 1) (w.alloc (.cells (otherL.map by1).toArray 5)) wr)) (fun i4 _ _ => 16 - (intOf i4).toNat)
      case atStart => exact ⟨0, by omega, rfl, hB2⟩
      case round =>
        obtain ⟨k, hk, rfl, hBk⟩ := hrel
        clear hpb
        by_cases hpk : k < 16
        · have q0 : wr.cell? ⟨w.heap.size, k, none⟩ = some (by1 (otherL.getD k 0)) := (hBk.out.cell (p := ⟨w.heap.size, k, none⟩) (by show w.heap.size < w.heap.size + 1; omega)).trans (hO.out k hpk)
          have hBw : Hid (Below w.heap.size w wr) := (below_new w _).trans (hBk.out.mono (by omega))
          have hs0 : w.heap.size + 1 ≤ wr.heap.size := by have := hBk.out.size; simp at this; omega
          have s2 : ∀ wx, (Instr.slice 9 (.string ⟨#[116, 97, 109, 97, 97, 97, 116, 105, 98, 101, 110, 99, 119, 112, 99, 110, 108, 122, 120, 120, 113]⟩) (some (.int .i64 ((i : Int) + 1))) none none).run Tryd.prog wx = .ok (.string (tx (textL.drop (i + 1)))) wx := fun wx => cutS_from textL (i + 1) (by show i + 1 ≤ 21; omega) wx
          have cv : ∀ wx H, wx.cell? ⟨H, 0, none⟩ = some (.int .u8 ((otherL.getD k 0).toNat : Int)) → (convert 46 9 (.slice (some ⟨H, 0, none⟩) 1 1)).run Tryd.prog wx = .ok (.string (tx [otherL.getD k 0])) wx := fun wx H h => conv_one _ H wx h
          have ht : (textL.take i).length = i := by rw [List.length_take]; exact Nat.min_eq_left (by show i ≤ 21; omega)
          have hd : (textL.drop (i + 1)).length ≤ 21 := by rw [List.length_drop]; show 21 - (i + 1) ≤ 21; omega
          have hz1 : ¬ 9223372036854775807 < f1.size + (tx [otherL.getD k 0]).size := by
            rw [← HF1.out]
            have e1 : (tx (textL.take i)).size = i := ht
            have e2 : (tx [otherL.getD k 0]).size = 1 := rfl
            omega
          have hz2 : ¬ 9223372036854775807 < f1.size + (tx [otherL.getD k 0]).size + (tx (textL.drop (i + 1))).size := by
            rw [← HF1.out]
            have e1 : (tx (textL.take i)).size = i := ht
            have e2 : (tx [otherL.getD k 0]).size = 1 := rfl
            have e3 : (tx (textL.drop (i + 1))).size = (textL.drop (i + 1)).length := rfl
            omega
          have hX : f1 ++ tx [otherL.getD k 0] ++ tx (textL.drop (i + 1)) = tx (textL.take i ++ [otherL.getD k 0] ++ textL.drop (i + 1)) := by
            rw [← HF1.out, tx_app, tx_app]
          have hXl : (textL.take i ++ [otherL.getD k 0] ++ textL.drop (i + 1)).length ≤ maxLen := by
            rw [List.length_append, List.length_append, ht]
            unfold maxLen
            simp only [List.length_singleton]
            omega
          have c3 : Hid (∀ wx, Below w.heap.size w wx → Calls Tryd.prog 4 #[.string (f1 ++ tx [otherL.getD k 0] ++ tx (textL.drop (i + 1)))] wx fun e w' => e = .returned (.bool true) ∧ Below wx.heap.size wx w') := fun wx hb => by
            rw [hX]
            exact tokenParses_says HH.out _ wx hXl (HE.out.below hb)
          have c4 : Hid (∀ wx, Calls Tryd.prog 27 #[.string (f1 ++ tx [otherL.getD k 0] ++ tx (textL.drop (i + 1)))] wx fun e w' => e = .returned (.bool true) ∧ Below wx.heap.size wx w') := fun wx => by
            rw [hX]
            exact tokenBack_says HH.out _ wx hXl
          clear hX hXl ht hd HF1
          generalize tx [otherL.getD k 0] = fc at *
          generalize tx (textL.drop (i + 1)) = fd at *
          unfold by1 at q0
          generalize (otherL.getD k 0).toNat = cn at *
          have z0 : (0 : Int) ≤ (i : Int) := by omega
          have z1 : (i : Int) < 21 := by omega
          have z2 : (0 : Int) ≤ (k : Int) := by omega
          have z3 : (k : Int) < 16 := by omega
          go_wp2_with fail
          go_region
          have hB5 : Hid (Below w.heap.size w (wr.alloc (.cells #[.int .u8 (cn : Int)] 5)).drew) := ((hBw.out.alloc hBw.out.size _).drew)
          have hs1 : w.heap.size + 1 ≤ (wr.alloc (.cells #[.int .u8 (cn : Int)] 5)).drew.heap.size := by
            show w.heap.size + 1 ≤ (wr.alloc (.cells #[.int .u8 (cn : Int)] 5)).heap.size
            simp
            omega
          have hB6 : Hid (Below (w.heap.size + 1) (w.alloc (.cells (otherL.map by1).toArray 5)) (wr.alloc (.cells #[.int .u8 (cn : Int)] 5)).drew) := ((hBk.out.alloc hs0 _).drew)
          clear q0 s1 s2 cv hz1 hz2
          go_wp2_with fail
          refine (c3.out _ hB5.out).mono ?_
          rintro e w3 ⟨rfl, hb3⟩
          go_wp2_with fail
          refine (c4.out _).mono ?_
          rintro e w4 ⟨rfl, hb4⟩
          have hB7 := Hid.mk' ((hB6.out.trans (hb3.mono hs1)).trans (hb4.mono (Nat.le_trans hs1 hb3.size)))
          clear hb3 hb4
          go_wp2
          go_roundw
          case rel => exact ⟨k + 1, by omega, by go_num, hB7⟩
          case measure => simp [intOf]; omega
        · obtain rfl : k = 16 := by omega
          simp only [Int.cast_ofNat_Int]
          go_wp2
          go_roundw
          case rel => exact ⟨i + 1, by omega, by go_num, hBk⟩
          case measure => simp [intOf]; omega
    · obtain rfl : i = 21 := by omega
      simp only [Int.cast_ofNat_Int]
      go_wp2
      go_ret
      exact ⟨rfl, hBw.out⟩

theorem tokenKnown_says (H : Says) (w : World) (hE : Er.Handle w) : Calls Tryd.prog 5 #[] w fun e w' => e = .returned (.bool true) ∧ Below w.heap.size w w' := by
  have HE := Hid.mk' hE
  have c1 := knownSaid_says H w hE
  have c2 : Hid (∀ wx, Er.Handle wx → _) := fun wx h => knownBits_says H wx h
  have c3 : Hid (∀ wx, Er.Handle wx → _) := fun wx h => knownTexts_says H wx h
  clear hE
  go_enter Tryd.func5, Tryd.ntmps5
  go_wp2_with fail
  refine c1.mono ?_
  rintro e w1 ⟨rfl, hB1⟩
  go_wp2_with fail
  refine (c2.out _ (HE.out.below hB1)).mono ?_
  rintro e w2 ⟨rfl, hb2⟩
  have hB2 := below_to' hB1 hb2
  go_wp2_with fail
  refine (c3.out _ (HE.out.below hB2)).mono ?_
  rintro e w3 ⟨rfl, hb3⟩
  go_wp2
  go_ret
  exact ⟨rfl, below_to' hB2 hb3⟩
end Tk
end Go.Proofs.YtkkpcngdpnoidaaDoor
