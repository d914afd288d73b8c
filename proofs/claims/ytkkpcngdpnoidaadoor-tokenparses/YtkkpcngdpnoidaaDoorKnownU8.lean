/- TokenKnown: each bit. -/
import Derived.Test.YtkkpcngdpnoidaaDoorKnownT8
namespace Go.Proofs.YtkkpcngdpnoidaaDoor
set_option linter.ambiguousOpen false
open Go.RowKit
namespace Tk
open Sm
set_option linter.unusedSimpArgs false
set_option linter.unusedVariables false

def slotsL : List Int := [-9223372036854775808, -1, 0, 1, 16, 31, 32, 255, 256, 9223372036854775807]

def birthsL : List Int := [-9223372036854775808, -1, 0, 1, 2, 524288, 1048575, 1048576, 1048577, 16777216, 16777217]

theorem slots_ok : ∀ i, i < 10 → -9223372036854775808 ≤ slotsL.getD i 0 ∧ slotsL.getD i 0 ≤ 9223372036854775807 := by decide

theorem births_ok : ∀ i, i < 11 → -9223372036854775808 ≤ birthsL.getD i 0 ∧ birthsL.getD i 0 ≤ 9223372036854775807 := by decide

theorem row_of (w : World) (l : List Int) (ty : TypeId) (j : Nat) (h : j < l.length) : (w.alloc (.cells (l.map (Value.int .i64)).toArray ty)).cell? ⟨w.heap.size, j, none⟩ = some (nu (l.getD j 0)) := by
  have e : (w.alloc (.cells (l.map (Value.int .i64)).toArray ty)).heap[w.heap.size]? = some (.cells (l.map (Value.int .i64)).toArray ty) := heap_alloc_new _ _
  unfold World.cell?
  rw [e]
  simp [h, List.getD_eq_getElem?_getD]

theorem pow_w (i : Nat) (h : i < 64) : IntKind.u64.wrap (2 ^ i) = ((2 ^ i : Nat) : Int) ∧ 2 ^ i < 18446744073709551616 := by
  have h1 : 2 ^ i < 2 ^ 64 := Nat.pow_lt_pow_right (by decide) h
  have h2 : ((2 ^ i : Nat) : Int) = 2 ^ i := by simp
  rw [IntKind.wrap_u64, ← h2]
  generalize 2 ^ i = q at *
  constructor
  · omega
  · simpa using h1

theorem keep2 {wr wx w3 : World} {g i h k : Nat} {u v : Value} (hb : Below wx.heap.size wx w3) (q : wr.cell? ⟨g, i, none⟩ = some u ∧ wr.cell? ⟨h, k, none⟩ = some v) (l0 : g < wr.heap.size) (l1 : h < wr.heap.size) (e : wx.heap = wr.heap) : w3.cell? ⟨g, i, none⟩ = some u ∧ w3.cell? ⟨h, k, none⟩ = some v := by
  have hc : ∀ p, wx.cell? p = wr.cell? p := fun p => by unfold World.cell?; rw [e]
  exact ⟨(hb.cell (p := ⟨g, i, none⟩) (by rw [e]; exact l0)).trans ((hc _).trans q.1), (hb.cell (p := ⟨h, k, none⟩) (by rw [e]; exact l1)).trans ((hc _).trans q.2)⟩

theorem keepL {wr wx w3 : World} {g : Nat} (hb : Below wx.heap.size wx w3) (l0 : g < wr.heap.size) (e : wx.heap = wr.heap) : g < w3.heap.size := Nat.lt_of_lt_of_le (by rw [e]; exact l0) hb.size

theorem below_more {w wr wx w' : World} (h : Below w.heap.size w wr) (hb : Below wx.heap.size wx w') (e : wx.heap = wr.heap) (e1 : wx.os = wr.os) (e2 : wx.tape = wr.tape) (e3 : wx.output = wr.output) : Below w.heap.size w w' := by
  have h2 : Below w.heap.size w wx := ⟨e1.trans h.os, e2.trans h.tape, e3.trans h.output, by rw [e]; exact h.size, fun k hk => by rw [e]; exact h.block k hk⟩
  exact h2.trans (hb.mono h2.size)

set_option maxRecDepth 100000 in
set_option maxHeartbeats 4000000 in
theorem knownBits_says (H : Says) (w : World) (hE : Er.Handle w) : Calls Tryd.prog 12 #[] w fun e w' => e = .returned (.bool true) ∧ Below w.heap.size w w' := by
  have HE := Hid.mk' hE
  have HH := Hid.mk' H
  clear H hE
  go_enter Tryd.func12, Tryd.ntmps12
  go_wp2
  go_loopw [3, 4] (fun i3 i4 wr => ∃ i : Nat, i ≤ 10 ∧ i3 = nu i ∧ Hid (Below (w.heap.size + 2) ((w.alloc (.cells (slotsL.map (Value.int .i64)).toArray 3)).alloc (.cells (birthsL.map (Value.int .i64)).toArray 3)) wr)) (fun i3 _ _ => 10 - (intOf i3).toNat)
  case atStart => exact ⟨0, by omega, rfl, Below.refl _ _⟩
  case round =>
    obtain ⟨i, hi, rfl, hB⟩ := hrel
    by_cases hp : i < 10
    · rename World => w1
      have hpb : decide ((i : Int) < 10) = true := decide_eq_true (by omega)
      go_wp2
      go_loopw [4] (fun i4 wr => ∃ k : Nat, k ≤ 11 ∧ i4 = nu k ∧ Hid (Below (w.heap.size + 2) ((w.alloc (.cells (slotsL.map (Value.int .i64)).toArray 3)).alloc (.cells (birthsL.map (Value.int .i64)).toArray 3)) wr)) (fun i4 _ => 11 - (intOf i4).toNat)
      case atStart => exact ⟨0, by omega, rfl, hB⟩
      case round =>
        obtain ⟨k, hk, rfl, hBk⟩ := hrel
        clear hpb
        by_cases hpk : k < 11
        · have hsl := slots_ok i hp
          have hbl := births_ok k hpk
          obtain ⟨m, hm, hm1⟩ : ∃ m : Nat, i * k = m ∧ m ≤ 110 := ⟨i * k, rfl, Nat.mul_le_mul (show i ≤ 10 by omega) (show k ≤ 11 by omega)⟩
          have hm2 : (i : Int) * (k : Int) = (m : Int) := by rw [← hm]; simp
          have q0 : Hid (wr.cell? ⟨w.heap.size, i, none⟩ = some (nu (slotsL.getD i 0))) := by
            show _ = _
            rw [hBk.out.cell (p := ⟨w.heap.size, i, none⟩) (by show w.heap.size < w.heap.size + 2; omega)]
            rw [← row_of w slotsL 3 i hp]
            exact ((below_new (w.alloc (.cells (slotsL.map (Value.int .i64)).toArray 3)) _).cell (p := ⟨w.heap.size, i, none⟩) (by simp))
          have q1 : Hid (wr.cell? ⟨w.heap.size + 1, k, none⟩ = some (nu (birthsL.getD k 0))) := by
            show _ = _
            rw [hBk.out.cell (p := ⟨w.heap.size + 1, k, none⟩) (by show w.heap.size + 1 < w.heap.size + 2; omega)]
            have := row_of (w.alloc (.cells (slotsL.map (Value.int .i64)).toArray 3)) birthsL 3 k hpk
            simpa using this
          have hws : w.heap.size + 2 ≤ wr.heap.size := by have := hBk.out.size; simp at this; omega
          have hBw : Hid (Below w.heap.size w wr) := (below2 w _ _).trans (hBk.out.mono (by omega))
          have cB : Hid (∀ wx, Below w.heap.size w wx → Calls Tryd.prog 3 #[.agg #[nu (slotsL.getD i 0), nu (birthsL.getD k 0), .int .u64 (IntKind.u64.wrap (IntKind.i64.wrap (m : Int)))]] wx fun e w' => e = .returned (.bool true) ∧ Below wx.heap.size wx w') := fun wx hb => by
            rw [show IntKind.u64.wrap (IntKind.i64.wrap (m : Int)) = (m : Int) by rw [IntKind.wrap_i64, IntKind.wrap_u64]; omega]
            exact tokenPrints_says HH.out _ _ m wx hsl hbl (by omega) (HE.out.below hb)
          have cB2 : Hid (∀ wx, Below w.heap.size w wx → Calls Tryd.prog 3 #[.agg #[nu (slotsL.getD i 0), nu (birthsL.getD k 0), .int .u64 (m : Int)]] wx fun e w' => e = .returned (.bool true) ∧ Below wx.heap.size wx w') := fun wx hb => tokenPrints_says HH.out _ _ m wx hsl hbl (by omega) (HE.out.below hb)
          have cC : Hid (∀ wx, Calls Tryd.prog 26 #[.agg #[nu (slotsL.getD i 0), nu (birthsL.getD k 0), .int .u64 0]] wx fun e w' => e = .returned (.bool true) ∧ Below wx.heap.size wx w') := fun wx => tokenThere_says HH.out _ _ 0 wx hsl hbl (by decide)
          generalize slotsL.getD i 0 = sv at *
          generalize birthsL.getD k 0 = bv at *
          clear hm
          have z0 : (0 : Int) ≤ (i : Int) := by omega
          have z1 : (i : Int) < 10 := by omega
          have z2 : (0 : Int) ≤ (k : Int) := by omega
          have z3 : (k : Int) < 11 := by omega
          go_wp2_with fail
          have l0 : w.heap.size < wr.heap.size := by omega
          have l1 : w.heap.size + 1 < wr.heap.size := by omega
          have Q : Hid (wr.cell? ⟨w.heap.size, i, none⟩ = some (nu sv) ∧ wr.cell? ⟨w.heap.size + 1, k, none⟩ = some (nu bv)) := ⟨q0.out, q1.out⟩
          clear q0 q1
          go_region_held3 (fun w' => w'.cell? ⟨w.heap.size, i, none⟩ = some (nu sv) ∧ w'.cell? ⟨w.heap.size + 1, k, none⟩ = some (nu bv)) (first | assumption | exact Q.out | fail) (first | (go_at_call 3; with_reducible refine (cB.out _ ?hh).mono ?_; (case hh => (first | exact hBw.out.drew | exact hBw.out | exact hBw.out.drew.drew | fail)); rintro e w3 ⟨rfl, hb3⟩; have hS3 := keep2 hb3 Q.out l0 l1 rfl; have hB3 := Hid.mk' (below_more hBw.out hb3 rfl rfl rfl rfl); have k0 := keepL hb3 l0 rfl; have k1 := keepL hb3 l1 rfl) | (go_at_call 3; with_reducible refine (cB2.out _ ?hh).mono ?_; (case hh => (first | exact hBw.out.drew | exact hBw.out | exact hBw.out.drew.drew | fail)); rintro e w3 ⟨rfl, hb3⟩; have hS3 := keep2 hb3 Q.out l0 l1 rfl; have hB3 := Hid.mk' (below_more hBw.out hb3 rfl rfl rfl rfl); have k0 := keepL hb3 l0 rfl; have k1 := keepL hb3 l1 rfl) | (go_at_call 26; with_reducible refine (cC.out _).mono ?_; rintro e w4 ⟨rfl, hb4⟩; have hS4 := keep2 hb4 hS3 k0 k1 rfl) | fail)
          have hB3' := hBk.out.drew.trans (hb3.mono hws)
          have hB4 := Hid.mk' (hB3'.trans (hb4.mono (Nat.le_trans hws hb3.size)))
          clear hb3 hb4 hS3 hS4 hB3'
          go_wp2
          go_roundw
          case rel => exact ⟨k + 1, by omega, by go_num, hB4⟩
          case measure => simp [intOf]; omega
        · obtain rfl : k = 11 := by omega
          simp only [Int.cast_ofNat_Int]
          go_wp2
          go_roundw
          case rel => exact ⟨i + 1, by omega, by go_num, hBk⟩
          case measure => simp [intOf]; omega
    · obtain rfl : i = 10 := by omega
      simp only [Int.cast_ofNat_Int]
      rename World => w2
      go_wp2
      go_loopw [5] (fun i5 wr => ∃ i : Nat, i ≤ 64 ∧ i5 = nu i ∧ Hid (Below w.heap.size w wr)) (fun i5 _ => 64 - (intOf i5).toNat)
      case atStart => exact ⟨0, by omega, rfl, (below2 w _ _).trans (hB.out.mono (by omega))⟩
      case round =>
        obtain ⟨i, hi, rfl, hB⟩ := hrel
        by_cases hp : i < 64
        · obtain ⟨hp1, hp2⟩ := pow_w i hp
          have cA : Hid (Calls Tryd.prog 3 #[.agg #[nu i, .int .i64 (1 + i), .int .u64 (IntKind.u64.wrap (2 ^ i))]] wr fun e w' => e = .returned (.bool true) ∧ Below wr.heap.size wr w') := by
            rw [hp1]
            exact tokenPrints_says HH.out i (1 + i) (2 ^ i) wr (by omega) (by omega) hp2 (HE.out.below hB.out)
          have cC : Hid (∀ wx, Calls Tryd.prog 26 #[.agg #[.int .i64 0, .int .i64 0, .int .u64 (IntKind.u64.wrap (2 ^ i))]] wx fun e w' => e = .returned (.bool true) ∧ Below wx.heap.size wx w') := fun wx => by
            rw [hp1]
            exact tokenThere_says HH.out 0 0 (2 ^ i) wx (by omega) (by omega) hp2
          clear hp1 hp2
          go_wp2_with fail
          refine cA.out.mono ?_
          rintro e w3 ⟨rfl, hb3⟩
          go_wp2_with fail
          refine (cC.out _).mono ?_
          rintro e w4 ⟨rfl, hb4⟩
          have hB4 := Hid.mk' (below_to' (below_to' hB.out hb3) hb4)
          clear hb3 hb4
          go_wp2
          go_roundw
          case rel => exact ⟨i + 1, by omega, by go_num, hB4⟩
          case measure => simp [intOf]; omega
        · obtain rfl : i = 64 := by omega
          simp only [Int.cast_ofNat_Int]
          go_wp2
          go_ret
          exact ⟨rfl, hB.out⟩
end Tk
end Go.Proofs.YtkkpcngdpnoidaaDoor
