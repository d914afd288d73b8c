/- AreU, AreX, AreD, AreY, AreZ, AreV, in one text. -/
import Derived.Test.YtlgjnefieflmbaaDoorAreC
import Derived.Test.YtlgjnefieflmbaaDoorAreaQ
/- The closed law's places; and the closed law. -/
namespace Go.Proofs.YtlgjnefieflmbaaDoor
set_option linter.ambiguousOpen false
open Go.RowKit
namespace Ae
open Sm Ft Dk Pk
set_option linter.unusedSimpArgs false
set_option linter.unusedVariables false

@[reducible] def endsC : Array Value := #[.int .i64 (-9223372036854775808), .int .i64 (-1), .int .i64 0, .int .i64 1, .int .i64 2, .int .i64 3, .int .i64 4, .int .i64 7, .int .i64 8, .int .i64 4611686018427387904, .int .i64 9223372036854775807]

def endsL : List Int := [-9223372036854775808, -1, 0, 1, 2, 3, 4, 7, 8, 4611686018427387904, 9223372036854775807]

theorem ends_at (w : World) (i : Nat) (hi : i < 11) : ∃ s : Int, (-9223372036854775808 ≤ s ∧ s ≤ 9223372036854775807) ∧ (w.alloc (.cells endsC 3)).cell? ⟨w.heap.size, i, none⟩ = some (nu s) := by
  refine ⟨endsL.getD i 0, ?_, ?_⟩
  · match i, hi with
    | 0, _ | 1, _ | 2, _ | 3, _ | 4, _ | 5, _ | 6, _ | 7, _ | 8, _ | 9, _ | 10, _ => decide
  · rw [World.cell?]
    simp only [heap_alloc_new]
    match i, hi with
    | 0, _ | 1, _ | 2, _ | 3, _ | 4, _ | 5, _ | 6, _ | 7, _ | 8, _ | 9, _ | 10, _ => rfl

@[reducible] def threeC (s1 s2 : Int) (v1 v2 v3 : Value) : Array Value := #[nu 0, nu s1, nu s2, .int .u32 5, v1, nu 2, nu s1, nu s2, .int .u32 0, v2, nu 0, nu s1, nu s2, .int .u32 6, v3]

theorem three_rd (w : World) (s1 s2 : Int) (v1 v2 v3 : Value) (h1 : RdB w v1 (rowA 100)) (z1 : Nz v1) (h2 : RdB w v2 (rowA 3)) (z2 : Nz v2) (h3 : RdB w v3 (rowA 700)) (z3 : Nz v3) :
    RdN (w.alloc (.cells (threeC s1 s2 v1 v2 v3) 35)) (.slice (some ⟨w.heap.size, 0, none⟩) 3 3) [⟨0, s1, s2, 5, rowA 100⟩, ⟨2, s1, s2, 0, rowA 3⟩, ⟨0, s1, s2, 6, rowA 700⟩] := by
  have hb : Below w.heap.size w (w.alloc (.cells (threeC s1 s2 v1 v2 v3) 35)) := (Below.refl _ _).alloc (Nat.le_refl _) _
  refine ⟨_, 3, rfl, Nat.le_refl _, by decide, fun _ => ⟨w.heap.size, 0, rfl, by simp, fun i x hx => ?_⟩⟩
  have hce : ∀ j, (w.alloc (.cells (threeC s1 s2 v1 v2 v3) 35)).cell? ⟨w.heap.size, j, none⟩ = (threeC s1 s2 v1 v2 v3)[j]? := fun j => by
    rw [World.cell?]
    simp only [heap_alloc_new]
    rfl
  have r1 := h1.below hb
  have r2 := h2.below hb
  have r3 := h3.below hb
  clear h1 h2 h3 hb
  generalize rowA 100 = A1 at *
  generalize rowA 3 = A2 at *
  generalize rowA 700 = A3 at *
  generalize w.alloc (.cells (threeC s1 s2 v1 v2 v3) 35) = W at *
  match i, hx with
  | 0, hx => cases hx; exact ⟨hce _, hce _, hce _, hce _, v1, hce _, r1, z1⟩
  | 1, hx => cases hx; exact ⟨hce _, hce _, hce _, hce _, v2, hce _, r2, z2⟩
  | 2, hx => cases hx; exact ⟨hce _, hce _, hce _, hce _, v3, hce _, r3, z3⟩

set_option maxRecDepth 100000 in
set_option maxHeartbeats 8000000 in
theorem knownPlaces_yes {Rep : World → Nat → (Nat → Prop) → Dsk → Prop} (H : Says Rep) (SW : ∀ (w : World) (p : Nat) (F : Nat → Prop) (d : Dsk), Rep w p F d → Calls Tryd.prog 17 #[ptr p] w fun e w' => e = .returned (nu (d.tr.length : Int)) ∧ Below w.heap.size w w') (SV : SaveC Rep) (LD : LoadC Rep) (w : World) (hE : Er.Handle w) :
    Calls Tryd.prog 28 #[] w fun e w' => e = .returned (.bool true) ∧ Below w.heap.size w w' := by
  have HE := Hid.mk' hE
  have cP : Hid (∀ (wx : World) (s1 s2 : Int) (v1 v2 v3 : Value), Below w.heap.size w wx → (-9223372036854775808 ≤ s1 ∧ s1 ≤ 9223372036854775807) → (-9223372036854775808 ≤ s2 ∧ s2 ≤ 9223372036854775807) → RdB wx v1 (rowA 100) → Nz v1 → RdB wx v2 (rowA 3) → Nz v2 → RdB wx v3 (rowA 700) → Nz v3 → Calls Tryd.prog 3 #[nu 8, .slice (some ⟨wx.heap.size, 0, none⟩) 3 3] (wx.alloc (.cells (threeC s1 s2 v1 v2 v3) 35)) fun e w' => e = .returned (.bool true) ∧ Below wx.heap.size wx w') := fun wx s1 s2 v1 v2 v3 hb b1 b2 h1 z1 h2 z2 h3 z3 => by
    have hba : Below wx.heap.size wx (wx.alloc (.cells (threeC s1 s2 v1 v2 v3) 35)) := (Below.refl _ _).alloc (Nat.le_refl _) _
    refine (areaPlays_yes H SW SV LD 8 _ _ _ (by decide) (by decide) (three_rd wx s1 s2 v1 v2 v3 h1 z1 h2 z2 h3 z3) (fun x hx => ?_) (HE.out.below (below_fromS hb hba))).mono ?_
    · simp only [List.mem_cons, List.not_mem_nil, or_false] at hx
      rcases hx with rfl | rfl | rfl
      all_goals exact ⟨by simp, b1, b2, by simp, by show (rowA _).length ≤ _; rw [rowA_len]; decide⟩
    · rintro e w' ⟨rfl, hb'⟩
      exact ⟨rfl, below_fromS hba hb'⟩
  have HSZ : Hid (∀ i : Nat, i < 11 → _) := fun i hi => ends_at w i hi
  have HB0 : Hid (Below w.heap.size w (w.alloc (.cells endsC 3))) := (Below.refl _ _).alloc (Nat.le_refl _) _
  have hlt : w.heap.size < (w.alloc (.cells endsC 3)).heap.size := by simp
  obtain ⟨W, hW⟩ : ∃ W, w.alloc (.cells endsC 3) = W := ⟨_, rfl⟩
  rw [hW] at HB0 hlt
  simp only [hW] at HSZ
  obtain ⟨B, hB⟩ : ∃ B, w.heap.size = B := ⟨_, rfl⟩
  simp only [hB] at HSZ hlt
  unfold endsC at hW
  clear H SW SV LD hE
  go_enter Tryd.func28, Tryd.ntmps28
  go_wp2
  clear hW
  go_loopw [2, 3] (fun iv _ wr => ∃ i : Nat, i ≤ 11 ∧ iv = nu (i : Int) ∧ Hid (Below W.heap.size W wr)) (fun iv _ _ => 11 - (intOf iv).toNat)
  case atStart => exact ⟨0, by omega, rfl, Below.refl _ _⟩
  case round =>
    obtain ⟨i, hi, rfl, HBi⟩ := hrel
    by_cases hi7 : i < 11
    · have hi7' : (i : Int) < 11 := by omega
      have hi0 : (0 : Int) ≤ (i : Int) := by omega
      obtain ⟨s1, hs1, hz1⟩ := HSZ.out i hi7
      have HZ1 := Hid.mk' hz1
      have HS1 := Hid.mk' hs1
      clear hz1 hs1
      go_wp2
      rename World => w2
      go_loopw [3] (fun kv wr => ∃ k : Nat, k ≤ 11 ∧ kv = nu (k : Int) ∧ Hid (Below W.heap.size W wr)) (fun kv _ => 11 - (intOf kv).toNat)
      case atStart => exact ⟨0, by omega, rfl, HBi⟩
      case round =>
        obtain ⟨k, hk, rfl, HBk⟩ := hrel
        clear HBi
        by_cases hk7 : k < 11
        · have hk7' : (k : Int) < 11 := by omega
          have hk0 : (0 : Int) ≤ (k : Int) := by omega
          obtain ⟨s2, hs2, hz2⟩ := HSZ.out k hk7
          have HZ2 := Hid.mk' hz2
          have HS2 := Hid.mk' hs2
          clear hz2 hs2
          have hst : Hid (∀ wx, Below W.heap.size W wx → (Below W.heap.size W wx ∧ wx.cell? ⟨B, i, none⟩ = some (nu s1) ∧ wx.cell? ⟨B, k, none⟩ = some (nu s2))) := fun wx hb => ⟨hb, (hb.cell (p := ⟨B, i, none⟩) hlt).trans HZ1.out, (hb.cell (p := ⟨B, k, none⟩) hlt).trans HZ2.out⟩
          have R1 : Hid (∀ wx, (Below W.heap.size W wx ∧ wx.cell? ⟨B, i, none⟩ = some (nu s1) ∧ wx.cell? ⟨B, k, none⟩ = some (nu s2)) → Calls Tryd.prog 47 #[nu 100] wx fun e w' => ∃ xa xc, e = .returned (.slice xa 100 xc) ∧ (Below W.heap.size W w' ∧ w'.cell? ⟨B, i, none⟩ = some (nu s1) ∧ w'.cell? ⟨B, k, none⟩ = some (nu s2)) ∧ Hid (RdB w' (.slice xa 100 xc) (rowA 100) ∧ Nz (.slice xa 100 xc))) := fun wx h => (row_rd 100 wx (by omega)).mono (by
            rintro e w' ⟨xa, xc, rfl, h1, h2, hb⟩
            exact ⟨xa, xc, rfl, hst.out _ (below_fromS h.1 hb), h1, h2⟩)
          have R2 : Hid (∀ wx v1, (Below W.heap.size W wx ∧ wx.cell? ⟨B, i, none⟩ = some (nu s1) ∧ wx.cell? ⟨B, k, none⟩ = some (nu s2)) → Hid (RdB wx v1 (rowA 100) ∧ Nz v1) → Calls Tryd.prog 47 #[nu 3] wx fun e w' => ∃ xa xc, e = .returned (.slice xa 3 xc) ∧ (Below W.heap.size W w' ∧ w'.cell? ⟨B, i, none⟩ = some (nu s1) ∧ w'.cell? ⟨B, k, none⟩ = some (nu s2)) ∧ Hid (RdB w' v1 (rowA 100) ∧ Nz v1 ∧ RdB w' (.slice xa 3 xc) (rowA 3) ∧ Nz (.slice xa 3 xc))) := fun wx v1 h hq => (row_rd 3 wx (by omega)).mono (by
            rintro e w' ⟨xa, xc, rfl, h1, h2, hb⟩
            exact ⟨xa, xc, rfl, hst.out _ (below_fromS h.1 hb), hq.out.1.below hb, hq.out.2, h1, h2⟩)
          have R3 : Hid (∀ wx v1 v2, (Below W.heap.size W wx ∧ wx.cell? ⟨B, i, none⟩ = some (nu s1) ∧ wx.cell? ⟨B, k, none⟩ = some (nu s2)) → Hid (RdB wx v1 (rowA 100) ∧ Nz v1 ∧ RdB wx v2 (rowA 3) ∧ Nz v2) → Calls Tryd.prog 47 #[nu 700] wx fun e w' => ∃ xa xc, e = .returned (.slice xa 700 xc) ∧ (Below W.heap.size W w' ∧ w'.cell? ⟨B, i, none⟩ = some (nu s1) ∧ w'.cell? ⟨B, k, none⟩ = some (nu s2)) ∧ Hid (RdB w' v1 (rowA 100) ∧ Nz v1 ∧ RdB w' v2 (rowA 3) ∧ Nz v2 ∧ RdB w' (.slice xa 700 xc) (rowA 700) ∧ Nz (.slice xa 700 xc))) := fun wx v1 v2 h hq => (row_rd 700 wx (by omega)).mono (by
            rintro e w' ⟨xa, xc, rfl, h1, h2, hb⟩
            exact ⟨xa, xc, rfl, hst.out _ (below_fromS h.1 hb), hq.out.1.below hb, hq.out.2.1, hq.out.2.2.1.below hb, hq.out.2.2.2, h1, h2⟩)
          have O1 : Hid (∀ wx v1 v2 v3, (Below W.heap.size W wx ∧ wx.cell? ⟨B, i, none⟩ = some (nu s1) ∧ wx.cell? ⟨B, k, none⟩ = some (nu s2)) → Hid (RdB wx v1 (rowA 100) ∧ Nz v1 ∧ RdB wx v2 (rowA 3) ∧ Nz v2 ∧ RdB wx v3 (rowA 700) ∧ Nz v3) → Calls Tryd.prog 3 #[nu 8, .slice (some ⟨wx.heap.size, 0, none⟩) 3 3] (wx.alloc (.cells #[nu 0, nu s1, nu s2, .int .u32 5, v1, nu 2, nu s1, nu s2, .int .u32 0, v2, nu 0, nu s1, nu s2, .int .u32 6, v3] 35)) fun e w' => e = .returned (.bool true) ∧ (Below W.heap.size W w' ∧ w'.cell? ⟨B, i, none⟩ = some (nu s1) ∧ w'.cell? ⟨B, k, none⟩ = some (nu s2))) := fun wx v1 v2 v3 h hq => (cP.out wx s1 s2 v1 v2 v3 (below_fromS HB0.out h.1) HS1.out HS2.out hq.out.1 hq.out.2.1 hq.out.2.2.1 hq.out.2.2.2.1 hq.out.2.2.2.2.1 hq.out.2.2.2.2.2).mono (by
            rintro e w' ⟨rfl, hb⟩
            exact ⟨rfl, hst.out _ (below_fromS h.1 hb)⟩)
          have hS0 := hst.out wr.drew HBk.out.drew
          have HST2 : Hid (∀ (wx : World) o, (Below W.heap.size W wx ∧ wx.cell? ⟨B, i, none⟩ = some (nu s1) ∧ wx.cell? ⟨B, k, none⟩ = some (nu s2)) → (Below W.heap.size W (wx.alloc o) ∧ (wx.alloc o).cell? ⟨B, i, none⟩ = some (nu s1) ∧ (wx.alloc o).cell? ⟨B, k, none⟩ = some (nu s2))) := fun wx o h => hst.out _ (h.1.alloc h.1.size _)
          clear hst HZ1 HZ2 HSZ cP
          go_upto_region 8 with fail
          go_wp2_with fail
          go_region_held3 (fun w' => Below W.heap.size W w' ∧ w'.cell? ⟨B, i, none⟩ = some (nu s1) ∧ w'.cell? ⟨B, k, none⟩ = some (nu s2)) (first | assumption | exact HST2.out _ _ (by assumption) | fail) (first | (go_at_call 47; with_reducible refine (R1.out _ (by first | assumption | fail)).mono ?_; rintro e w6 ⟨xa, xc, rfl, hS6, hQ6⟩) | (go_at_call 47; with_reducible refine (R2.out _ _ (by first | assumption | fail) hQ6).mono ?_; rintro e w7 ⟨ya, yc, rfl, hS7, hQ7⟩) | (go_at_call 47; with_reducible refine (R3.out _ _ _ (by first | assumption | fail) hQ7).mono ?_; rintro e w8 ⟨za, zc, rfl, hS8, hQ8⟩) | (go_at_call 3; with_reducible refine (O1.out _ _ _ _ (by first | assumption | fail) hQ8).mono ?_; rintro e w9 ⟨rfl, hS9⟩) | fail)
          have HB8 := Hid.mk' hS9.1
          clear hS0 hS6 hS7 hS8 hS9 hQ6 hQ7 hQ8 R1 R2 R3 O1 HST2
          go_wp2
          go_roundw
          case rel => exact ⟨k + 1, by omega, by go_num, HB8⟩
          case measure => simp [intOf]; omega
        · have hk7' : ¬ (k : Int) < 11 := by omega
          go_wp2
          go_roundw
          case rel => exact ⟨i + 1, by omega, by go_num, HBk⟩
          case measure => simp [intOf]; omega
    · have hi7' : ¬ (i : Int) < 11 := by omega
      have HBL := Hid.mk' (below_fromS HB0.out HBi.out)
      go_wp2
      go_ret
      exact ⟨rfl, hB ▸ HBL.out⟩
end Ae
end Go.Proofs.YtlgjnefieflmbaaDoor
/- One byte turned is seen: of a header, of the bytes. -/
namespace Go.Proofs.YtlgjnefieflmbaaDoor
set_option linter.ambiguousOpen false
open Go.RowKit
namespace Ae
open Sm Dk Rc
set_option linter.unusedSimpArgs false
set_option linter.unusedVariables false

/-- One bit of the byte j is turned. -/
def turnB (l : List UInt8) (j : Nat) : List UInt8 := l.set j (l.getD j 0 ^^^ 64)

theorem turnB_len (l : List UInt8) (j : Nat) : (turnB l j).length = l.length := by simp [turnB]

theorem num_turn (l : List UInt8) (j : Nat) (hj : j < l.length) : num (turnB l j) = num l ^^^ 2 ^ (8 * j) * 64 := by
  have := num_set l j hj 64
  rw [turnB, List.getD_eq_getElem?_getD, List.getElem?_eq_getElem hj]
  exact this

theorem xor_back (a b : Nat) : a ^^^ (a ^^^ b) = b := by rw [← Nat.xor_assoc, Nat.xor_self, Nat.zero_xor]

theorem crc_turn (l : List UInt8) (j : Nat) (hj : j < l.length) : crc (turnB l j) ≠ crc l := by
  intro h
  have := (crc_burst l (turnB l j) (turnB_len l j).symm (8 * j) 64 (by omega) (by decide) (by rw [num_turn l j hj, xor_back])).1 h.symm
  omega

theorem lo_inj {a b : Nat} (ha : a < 4294967296) (hb : b < 4294967296) (h : lo a 4 = lo b 4) : a = b := by
  rw [← num_lo a 4 ha, h, num_lo b 4 hb]

theorem hdr_data {ep : Nat} {X X' : List UInt8} (h : crc X' ≠ crc X) : hdr ep X' ≠ hdr ep X := by
  intro e
  rw [hdr, hdr] at e
  have e1 := (List.append_inj e (by rw [hd12_len, hd12_len])).1
  rw [hd12, hd12] at e1
  have e2 := (List.append_inj e1 (by simp [lo_len])).2
  exact h (lo_inj (crc_lt _) (crc_lt _) e2)

theorem hdr_turn (ep ep' : Nat) (X X' : List UInt8) (j : Nat) (hj : j < 16) : hdr ep' X' ≠ turnB (hdr ep X) j := by
  intro e
  have hA := hd12_len ep X
  have hB := hd12_len ep' X'
  by_cases h : j < 12
  · have : turnB (hdr ep X) j = turnB (hd12 ep X) j ++ lo (crc (hd12 ep X)) 4 := by
      rw [turnB, hdr, List.set_append_left j _ (by omega), turnB]
      congr 3
      rw [List.getD_eq_getElem?_getD, List.getD_eq_getElem?_getD, List.getElem?_append_left (by omega)]
    rw [this, hdr] at e
    obtain ⟨e1, e2⟩ := List.append_inj e (by rw [hB, turnB_len, hA])
    have e3 := lo_inj (crc_lt _) (crc_lt _) e2
    rw [e1] at e3
    exact crc_turn _ j (by omega) e3
  · have : turnB (hdr ep X) j = hd12 ep X ++ turnB (lo (crc (hd12 ep X)) 4) (j - 12) := by
      rw [turnB, hdr, List.set_append_right j _ (by omega), hA, turnB]
      congr 3
      rw [List.getD_eq_getElem?_getD, List.getD_eq_getElem?_getD, List.getElem?_append_right (by omega), hA]
    rw [this, hdr] at e
    obtain ⟨e1, e2⟩ := List.append_inj e (by rw [hB, hA])
    rw [e1] at e2
    have e3 := congrArg num e2
    rw [num_turn _ _ (by rw [lo_len]; omega)] at e3
    have e4 := xor_back (num (lo (crc (hd12 ep X)) 4)) (2 ^ (8 * (j - 12)) * 64)
    rw [← e3, Nat.xor_self] at e4
    have : 0 < 2 ^ (8 * (j - 12)) := Nat.two_pow_pos _
    omega

/-- A header that was turned. -/
theorem load_head {d : Dsk} {a n : Int} {ep : Nat} {X : List UInt8} (j : Nat) (hj : j < 16) (hm : may d a n = true) (h : rdT d a = turnB (hdr ep X) j) : load d a n = (21, 0, []) := by
  have hl : (turnB (hdr ep X) j).length = 16 := by rw [turnB_len, hdr_len]
  have hne : turnB (hdr ep X) j ≠ [] := fun e => by rw [e] at hl; simp at hl
  rw [load, if_pos hm, h, if_neg hne, hl, if_neg (by simp)]
  split
  · rfl
  · cases lie d (fst a n (num4 (turnB (hdr ep X) j) 0)) (num4 (turnB (hdr ep X) j) 4) with
    | none => rfl
    | some x => rw [told, if_neg (hdr_turn ep _ X x j hj)]

/-- A header of 17 bytes. -/
theorem load_long {d : Dsk} {a n : Int} (hm : may d a n = true) (h : (rdT d a).length = 17) : load d a n = (21, 0, []) := by
  have hne : rdT d a ≠ [] := fun e => by rw [e] at h; simp at h
  rw [load, if_pos hm, if_neg hne, if_pos (by omega)]

/-- Bytes that were turned. -/
theorem load_data {d : Dsk} {a n : Int} {ep : Nat} {X X' : List UInt8} (hep : ep < 4294967296) (hX : X.length < 4294967296) (hl : (X.length : Int) ≤ n * 256) (hm : may d a n = true) (h : rdT d a = hdr ep X) (hb : lie d (fst a n ep) X.length = some X') (hc : crc X' ≠ crc X) : load d a n = (21, 0, []) := by
  have hne : hdr ep X ≠ [] := fun e => by
    have := hdr_len ep X
    rw [e] at this
    simp at this
  rw [load, if_pos hm, h, if_neg hne, hdr_len, if_neg (by simp), hdr_size ep X hX, if_neg (by omega), hdr_ep ep X hep, hb, told, if_neg (hdr_data hc)]

end Ae
end Go.Proofs.YtlgjnefieflmbaaDoor
/- The closed law's said: the chapter's examples. -/
namespace Go.Proofs.YtlgjnefieflmbaaDoor
set_option linter.ambiguousOpen false
open Go.RowKit
namespace Ae
open Sm Ft Dk Pk
set_option linter.unusedSimpArgs false
set_option linter.unusedVariables false

theorem pcs_two (X : List UInt8) (n : Nat) (h : X.length = 256 + n) (h1 : 1 ≤ n) (h2 : n ≤ 256) : ∃ P0 P1, pcs X = [P0, P1] ∧ P0.length = 256 ∧ P1.length = n ∧ X = P0 ++ P1 := by
  have e1 : X ≠ [] := fun e => by rw [e] at h; simp at h; omega
  have l2 : (X.drop 256).length = n := by rw [List.length_drop]; omega
  have e2 : X.drop 256 ≠ [] := fun e => by rw [e] at l2; simp at l2; omega
  refine ⟨X.take 256, (X.drop 256).take 256, ?_, by rw [List.length_take]; omega, by rw [List.length_take, l2]; omega, ?_⟩
  · rw [pcs_cons X e1, pcs_cons _ e2, show (X.drop 256).drop 256 = [] from List.drop_eq_nil_of_le (by omega), pcs_nil]
  · rw [show (X.drop 256).take 256 = X.drop 256 from List.take_of_length_le (by omega), List.take_append_drop]

theorem tx_lenA {l : List UInt8} {n : Nat} (h : l.length = n) : (tx l).size = n := by simp [ByteArray.size, h]

theorem saidH (X Y : List UInt8) (hX : X.length = 300) (hY : Y.length = 513) : ∃ d1 d2 P0 P1, save ⟨7, -1, []⟩ 1 2 1 X = (0, d1) ∧ d1.tr = [(4, P0), (5, P1), (1, hdr 1 X)] ∧ P0.length = 256 ∧ P1.length = 44 ∧ Nb d1 ∧ save d1 1 2 2 [] = (0, d2) ∧ d2.tr.length = 4 ∧ Nb d2 ∧ Img d2 1 2 2 [] ∧ save d2 1 2 3 Y = (3, d2) ∧ save d2 1 3 3 [] = (1, d2) := by
  obtain ⟨P0, P1, hp, h0, h1, _⟩ := pcs_two X 44 hX (by omega) (by omega)
  have hN0 : Nb ⟨7, -1, []⟩ := ⟨by decide, by decide, by decide, by decide, fun r hr => by simp at hr⟩
  have hu : ups 4 [P0, P1] ⟨7, -1, []⟩ = (0, ⟨7, -1, [(4, P0), (5, P1)]⟩) := by simp [ups, wrN, wrD, h0, h1]
  have hl1 := hdr_len 1 X
  have hl2 := hdr_len 2 []
  have s1 : save ⟨7, -1, []⟩ 1 2 1 X = (0, ⟨7, -1, [(4, P0), (5, P1), (1, hdr 1 X)]⟩) := by
    rw [save, if_pos (by decide), if_neg (by rw [hX]; decide), hp, show fst 1 2 1 = 4 from rfl, hu]
    simp [wrN, wrD, hl1]
  have s2 : save ⟨7, -1, [(4, P0), (5, P1), (1, hdr 1 X)]⟩ 1 2 2 [] = (0, ⟨7, -1, [(4, P0), (5, P1), (1, hdr 1 X), (1, hdr 2 [])]⟩) := by
    rw [save, if_pos (by simp [may]), if_neg (by simp), pcs_nil]
    simp [ups, wrN, wrD, hl2]
  have hN1 := hN0.save 1 2 1 X
  rw [s1] at hN1
  have hN2 := hN1.save 1 2 2 []
  rw [s2] at hN2
  have hI := save_img (d := ⟨7, -1, [(4, P0), (5, P1), (1, hdr 1 X)]⟩) (a := 1) (n := 2) (ep := 2) (x := []) (by decide) (by show (7 : Int) ≤ 4096; decide) (by rw [s2])
  rw [s2] at hI
  refine ⟨_, _, P0, P1, s1, rfl, h0, h1, hN1, s2, rfl, hN2, hI, ?_, ?_⟩
  · rw [save, if_pos (by simp [may]), if_pos (by rw [hY]; decide)]
  · rw [save, if_neg (by simp [may])]

set_option maxRecDepth 100000 in
set_option maxHeartbeats 8000000 in
theorem knownSaid_yes {Rep : World → Nat → (Nat → Prop) → Dsk → Prop} (H : Says Rep) (SW : ∀ (w : World) (p : Nat) (F : Nat → Prop) (d : Dsk), Rep w p F d → Calls Tryd.prog 17 #[ptr p] w fun e w' => e = .returned (nu (d.tr.length : Int)) ∧ Below w.heap.size w w') (SV : SaveC Rep) (LD : LoadC Rep) (w : World) (hE : Er.Handle w) :
    Calls Tryd.prog 25 #[] w fun e w' => e = .returned (.bool true) ∧ Below w.heap.size w w' := by
  obtain ⟨d1, d2, P0, P1, s1, htr, hp0, hp1, hN1, s2, ht2, hN2, hI2, s3, s4⟩ := saidH (rowA 300) (rowA 513) (rowA_len 300) (rowA_len 513)
  have hN0 : Nb ⟨7, -1, []⟩ := ⟨by decide, by decide, by decide, by decide, fun r hr => by simp at hr⟩
  have ht1 : d1.tr.length = 3 := by rw [htr]; rfl
  have HE := Hid.mk' hE
  have HH := Hid.mk' H
  have cF := Hid.mk' (fresh_any H 7 w (by decide) (by decide))
  have cL : Hid (∀ wx p F, Od Rep w wx p F ⟨7, -1, []⟩ → Calls Tryd.prog 38 #[ptr p, nu 1, nu 2] wx fun e w' => ∃ r, e = .returned (.tuple #[.int .u32 0, r, noE 10]) ∧ Od Rep w w' p F ⟨7, -1, []⟩) := fun wx p F h => (LD wx p F ⟨7, -1, []⟩ 1 2 h.rep hN0 (by decide) (by decide) (by decide)).mono (by
    rintro e w' ⟨r, he, _, hb⟩
    exact ⟨r, he, h.below HH.out hb⟩)
  have cQ : Hid (∀ (n : Nat) wx p F d, 1 ≤ n → n ≤ 24 → Od Rep w wx p F d → Calls Tryd.prog 9 #[noE (n : Int), nu (n : Int)] wx fun e w' => e = .returned (.bool true) ∧ Od Rep w w' p F d) := fun n wx p F d h1 h2 h => by
    obtain ⟨m, rfl⟩ : ∃ m, n = m + 1 := ⟨n - 1, by omega⟩
    refine (plainL (m + 1) h2 wx (HE.out.below h.bel)).mono ?_
    rintro e w' ⟨rfl, hb⟩
    exact ⟨rfl, h.below HH.out hb⟩
  have cR : Hid (∀ (n : Nat) wx p F d, n ≤ 600 → Od Rep w wx p F d → Calls Tryd.prog 47 #[nu (n : Int)] wx fun e w' => ∃ xa xc, e = .returned (.slice xa n xc) ∧ Od Rep w w' p F d ∧ (∀ k, F k → k < wx.heap.size) ∧ RdB w' (.slice xa n xc) (rowA n) ∧ Nz (.slice xa n xc) ∧ (∀ a n' c, Value.slice xa n xc = .slice (some a) n' c → wx.heap.size ≤ a.block)) := fun n wx p F d hn h => (row_any n wx (by omega)).mono (by
    rintro e w' ⟨x, rfl, ho, hb⟩
    have hz := nz_own ho
    have hr := own_rd' ho (rowA_len n)
    have hblk : ∀ a n' c, x = .slice (some a) n' c → wx.heap.size ≤ a.block := fun a n' c he => by
      subst he
      exact (ho.lt a.block rfl).1
    obtain ⟨xa, xc, rfl, _⟩ := Nm.own_shape ho
    exact ⟨xa, xc, rfl, h.below HH.out hb, fun k hk => HH.out.lt h.rep k hk, hr, hz, hblk⟩)
  have cS : Hid (∀ wx p F d (a n : Int) (ep N : Nat) v x d' E, Od Rep w wx p F d → Nb d → d.tr.length ≤ 1000 → save d a n ep x = (N, d') → errE N = E → (0 ≤ a ∧ a ≤ 9) → (0 ≤ n ∧ n ≤ 9) → ep < 10 → (∀ w', Keep F wx w' → RdB w' v x) → Nz v → Calls Tryd.prog 23 #[ptr p, nu a, nu n, .int .u32 (ep : Int), v] wx fun e w' => e = .returned E ∧ ∃ G, Od Rep w w' p G d') := fun wx p F d a n ep N v x d' E h hN ht hs hE ha hn hep hv hz => by
    have := SV wx p F d a n ep v x h.rep hN (by omega) (by omega) (by omega) (by omega) hv hz
    rw [hs] at this
    refine this.mono ?_
    rintro e w' ⟨rfl, G, r1, r2, r3⟩
    exact ⟨by rw [← hE], G, h.turn HH.out r1 r2 r3⟩
  have cK : Hid (∀ w' : World, RdB w' (.slice none 0 0) []) := fun w' => ⟨none, 0, rfl, Nat.le_refl _, by decide, fun h => absurd h (by decide)⟩
  have cW1 : Hid (∀ wx p F, Od Rep w wx p F d1 → Calls Tryd.prog 17 #[ptr p] wx fun e w' => e = .returned (nu 3) ∧ Od Rep w w' p F d1) := fun wx p F h => by
    have := SW wx p F d1 h.rep
    rw [ht1] at this
    refine this.mono ?_
    rintro e w' ⟨rfl, hb⟩
    exact ⟨rfl, h.below HH.out hb⟩
  have cW2 : Hid (∀ wx p F, Od Rep w wx p F d2 → Calls Tryd.prog 17 #[ptr p] wx fun e w' => e = .returned (nu 4) ∧ Od Rep w w' p F d2) := fun wx p F h => by
    have := SW wx p F d2 h.rep
    rw [ht2] at this
    refine this.mono ?_
    rintro e w' ⟨rfl, hb⟩
    exact ⟨rfl, h.below HH.out hb⟩
  have hl1 := hdr_len 1 (rowA 300)
  have cT : Hid (∀ wx p F, Od Rep w wx p F d1 → Calls Tryd.prog 19 #[ptr p] wx fun e w' => ∃ g c f0 f1 f2, e = .returned (.slice (some ⟨g, 0, none⟩) 3 c) ∧ w'.cell? ⟨g, 0, none⟩ = some (nu 4) ∧ w'.cell? ⟨g, 1, none⟩ = some (.string f0) ∧ w'.cell? ⟨g, 2, none⟩ = some (nu 5) ∧ w'.cell? ⟨g, 3, none⟩ = some (.string f1) ∧ w'.cell? ⟨g, 4, none⟩ = some (nu 1) ∧ w'.cell? ⟨g, 5, none⟩ = some (.string f2) ∧ f0.size = 256 ∧ f1.size = 44 ∧ f2.size = 16 ∧ 3 ≤ c ∧ c ≤ maxLen ∧ Od Rep w w' p F d1) := fun wx p F h => by
    refine (HH.out.trail wx p F d1 h.rep (by omega)).mono ?_
    rintro e w' ⟨v, rfl, ho, hb⟩
    rw [ht1, htr] at ho
    obtain ⟨a, c, rfl, hc1, hc2, hx⟩ := Nm.own_shape ho
    obtain ⟨g, rfl⟩ := hx (by decide)
    exact ⟨g, c, tx P0, tx P1, tx (hdr 1 (rowA 300)), rfl, (raw_cells ho 0 (4, P0) rfl rfl).1, (raw_cells ho 0 (4, P0) rfl rfl).2, (raw_cells ho 1 (5, P1) rfl rfl).1, (raw_cells ho 1 (5, P1) rfl rfl).2, (raw_cells ho 2 (1, _) rfl rfl).1, (raw_cells ho 2 (1, _) rfl rfl).2, tx_lenA hp0, tx_lenA hp1, tx_lenA hl1, hc1, hc2, h.below HH.out hb⟩
  have cWk : Hid (∀ wx p F d, Od Rep w wx p F d → Calls Tryd.prog 22 #[] wx fun e w' => e = .returned (.bool true) ∧ Od Rep w w' p F d) := fun wx p F d h => (works_yes H SV LD wx).mono (by
    rintro e w' ⟨rfl, hb⟩
    exact ⟨rfl, h.below HH.out hb⟩)
  have cI : Hid (∀ wx p F, Od Rep w wx p F d2 → Calls Tryd.prog 24 #[ptr p, nu 1, nu 2, .int .u32 2, .slice none 0 0] wx fun e w' => e = .returned (.bool true) ∧ Od Rep w w' p F d2) := fun wx p F h => (is_any LD wx p F d2 1 2 2 _ [] h.rep hN2 (by omega) hI2 (cK.out wx)).mono (by
    rintro e w' ⟨rfl, hb⟩
    exact ⟨rfl, h.below HH.out hb⟩)
  have HS : Hid (save ⟨7, -1, []⟩ 1 2 1 (rowA 300) = (0, d1) ∧ save d1 1 2 2 [] = (0, d2) ∧ save d2 1 2 3 (rowA 513) = (3, d2) ∧ save d2 1 3 3 [] = (1, d2) ∧ Nb ⟨7, -1, []⟩ ∧ Nb d1 ∧ Nb d2) := ⟨s1, s2, s3, s4, hN0, hN1, hN2⟩
  clear H SW SV LD hE s1 s2 s3 s4 hN0 hN1 hN2 hI2 htr hp0 hp1 hl1
  go_enter Tryd.func25, Tryd.ntmps25
  go_wp2_with fail
  refine cF.out.mono ?_
  rintro e w1 ⟨p, F, rfl, r1, r2, r3⟩
  have HO1 : Hid (Od Rep w w1 p F ⟨7, -1, []⟩) := ⟨r1, r2, r3⟩
  clear r1 r2 r3 cF
  go_wp2_with fail
  refine (cL.out w1 p F HO1.out).mono ?_
  rintro e w2 ⟨r, rfl, hO⟩
  have HO2 := Hid.mk' hO
  clear hO HO1 cL
  go_wp2_with fail
  refine (cQ.out 10 w2 p F _ (by decide) (by decide) HO2.out).mono ?_
  rintro e w3 ⟨rfl, hO⟩
  have HO3 := Hid.mk' hO
  clear hO HO2
  go_wp2_with fail
  refine (cR.out 300 w3 p F _ (by decide) HO3.out).mono ?_
  rintro e w4 ⟨xa, xc, rfl, hO, hlt, hrd, hz, hbl⟩
  have C4 := Hid.mk' (cS.out w4 p F ⟨7, -1, []⟩ 1 2 1 0 _ _ d1 .nilIface hO HS.out.2.2.2.2.1 (by decide) HS.out.1 rfl (by decide) (by decide) (by decide) (fun w' hk => rd_keep hrd hk (fun k hf a n c he => by
    have h1 := hbl a n c he
    have h2 := hlt k hf
    omega)) hz)
  clear hO hlt hrd hz hbl HO3
  go_wp2_with fail
  refine C4.out.mono ?_
  rintro e w5 ⟨rfl, G, hO⟩
  have HO5 := Hid.mk' hO
  clear hO C4
  go_wp2_with fail
  refine (cW1.out w5 p G HO5.out).mono ?_
  rintro e w6 ⟨rfl, hO⟩
  have HO6 := Hid.mk' hO
  clear hO HO5 cW1
  go_wp2_with fail
  refine (cT.out w6 p G HO6.out).mono ?_
  rintro e w7 ⟨g, c, f0, f1, f2, rfl, z0, z1, z2, z3, z4, z5, l0, l1, l2, hc1, hc2, hO⟩
  have HO7 := Hid.mk' hO
  unfold maxLen at hc2
  clear hO HO6 cT
  go_wp2_with fail
  refine (cS.out w7 p G d1 1 2 2 0 (.slice none 0 0) [] d2 .nilIface HO7.out HS.out.2.2.2.2.2.1 (by omega) HS.out.2.1 rfl (by decide) (by decide) (by decide) (fun w' _ => cK.out w') (.inl rfl)).mono ?_
  rintro e w8 ⟨rfl, G8, hO⟩
  have HO8 := Hid.mk' hO
  clear hO HO7 z0 z1 z2 z3 z4 z5 l0 l1 l2
  go_wp2_with fail
  refine (cR.out 513 w8 p G8 _ (by decide) HO8.out).mono ?_
  rintro e w9 ⟨ya, yc, rfl, hO, hlt, hrd, hz, hbl⟩
  have C9 := Hid.mk' (cS.out w9 p G8 d2 1 2 3 3 _ _ d2 (noE 3) hO HS.out.2.2.2.2.2.2 (by omega) HS.out.2.2.1 rfl (by decide) (by decide) (by decide) (fun w' hk => rd_keep hrd hk (fun k hf a n c he => by
    have h1 := hbl a n c he
    have h2 := hlt k hf
    omega)) hz)
  clear hO hlt hrd hz hbl HO8
  go_wp2_with fail
  refine C9.out.mono ?_
  rintro e w10 ⟨rfl, G10, hO⟩
  have HO10 := Hid.mk' hO
  clear hO C9
  go_wp2_with fail
  refine (cS.out w10 p G10 d2 1 3 3 1 (.slice none 0 0) [] d2 (noE 1) HO10.out HS.out.2.2.2.2.2.2 (by omega) HS.out.2.2.2.1 rfl (by decide) (by decide) (by decide) (fun w' _ => cK.out w') (.inl rfl)).mono ?_
  rintro e w11 ⟨rfl, G11, hO⟩
  have HO11 := Hid.mk' hO
  clear hO HO10 cS cR
  go_wp2_with fail
  refine (cWk.out w11 p G11 d2 HO11.out).mono ?_
  rintro e w12 ⟨rfl, hO⟩
  have HO12 := Hid.mk' hO
  clear hO HO11 cWk
  go_wp2_with fail
  refine (cW2.out w12 p G11 HO12.out).mono ?_
  rintro e w13 ⟨rfl, hO⟩
  have HO13 := Hid.mk' hO
  clear hO HO12
  go_wp2_with fail
  refine (cI.out w13 p G11 HO13.out).mono ?_
  rintro e w14 ⟨rfl, hO⟩
  have HO14 := Hid.mk' hO
  clear hO HO13 cI
  go_wp2_with fail
  refine (cQ.out 3 w14 p G11 _ (by decide) (by decide) HO14.out).mono ?_
  rintro e w15 ⟨rfl, hO⟩
  have HO15 := Hid.mk' hO
  clear hO HO14
  go_wp2_with fail
  refine (cQ.out 1 w15 p G11 _ (by decide) (by decide) HO15.out).mono ?_
  rintro e w16 ⟨rfl, hO⟩
  have HO16 := Hid.mk' hO
  clear hO HO15 cQ
  go_wp2_with fail
  refine (cW2.out w16 p G11 HO16.out).mono ?_
  rintro e w17 ⟨rfl, hO⟩
  have HB := Hid.mk' hO.bel
  clear hO HO16 cW2
  go_wp2
  go_ret
  exact ⟨rfl, HB.out⟩
end Ae
end Go.Proofs.YtlgjnefieflmbaaDoor
/- The closed law's turned bytes: the disk at each time. -/
namespace Go.Proofs.YtlgjnefieflmbaaDoor
set_option linter.ambiguousOpen false
open Go.RowKit
namespace Ae
open Sm Ft Dk Pk
set_option linter.unusedSimpArgs false
set_option linter.unusedVariables false

/-- The image lies there, in two blocks and its header. -/
structure Lay3 (D : Dsk) (P0 P1 h : List UInt8) : Prop where
  n : D.n = 5
  left : D.left = -1
  nb : Nb D
  r0 : rdT D 0 = h
  r1 : rdT D 1 = P0
  r2 : rdT D 2 = P1

theorem Lay3.may {D : Dsk} {P0 P1 h : List UInt8} (H : Lay3 D P0 P1 h) : may D 0 2 = true := by
  rw [Ae.may, H.n]
  decide

theorem wr_yes {D : Dsk} (hn : D.n = 5) (hl : D.left = -1) (i : Int) (s : List UInt8) (h0 : 0 ≤ i) (h1 : i < 5) (hs : s.length ≤ 256) : wrN D i s = 0 ∧ (wrD D i s).n = 5 ∧ (wrD D i s).left = -1 ∧ ∀ j, 0 ≤ j → j < 5 → rdT (wrD D i s) j = if j = i then s else rdT D j := by
  obtain ⟨o1, o2⟩ := wr_on (d := D) (i := i) (s := s) hl h0 (by omega)
  rw [if_neg (by omega)] at o1
  refine ⟨o1, by rw [wrD_n, hn], o2, fun j j0 j1 => ?_⟩
  rw [rdT_wrote D i s j o1 (by omega)]
  split
  · rename_i h
    rw [if_pos (by omega)]
  · rename_i h
    rw [if_neg (by omega)]

/-- A raw write of the image, turned, is seen; and written again, it is as it was. -/
theorem turned_seen {D : Dsk} {X P0 P1 : List UInt8} (hX : X = P0 ++ P1) (h0 : P0.length = 256) (h1 : P1.length = 44) (H : Lay3 D P0 P1 (hdr 4 X)) (i : Nat) (r : Raw) (hr : [((1 : Int), P0), (2, P1), (0, hdr 4 X)][i]? = some r) (k : Nat) (hk : k < r.2.length) :
    wrN D r.1 (turnB r.2 k) = 0 ∧ Nb (wrD D r.1 (turnB r.2 k)) ∧ load (wrD D r.1 (turnB r.2 k)) 0 2 = (21, 0, []) ∧ wrN (wrD D r.1 (turnB r.2 k)) r.1 r.2 = 0 ∧ Lay3 (wrD (wrD D r.1 (turnB r.2 k)) r.1 r.2) P0 P1 (hdr 4 X) := by
  have hXl : X.length = 300 := by rw [hX, List.length_append]; omega
  have hhl := hdr_len 4 X
  have hrl : r.2.length ≤ 256 ∧ 0 ≤ r.1 ∧ r.1 < 5 := by
    match i, hr with
    | 0, hr => cases hr; exact ⟨by show P0.length ≤ 256; omega, by simp, by simp⟩
    | 1, hr => cases hr; exact ⟨by show P1.length ≤ 256; omega, by simp, by simp⟩
    | 2, hr => cases hr; exact ⟨by show (hdr 4 X).length ≤ 256; omega, by simp, by simp⟩
  obtain ⟨a1, a2, a3, a4⟩ := wr_yes H.n H.left r.1 (turnB r.2 k) hrl.2.1 hrl.2.2 (by rw [turnB_len]; omega)
  obtain ⟨b1, b2, b3, b4⟩ := wr_yes a2 a3 r.1 r.2 hrl.2.1 hrl.2.2 (by omega)
  have hm : may (wrD D r.1 (turnB r.2 k)) 0 2 = true := by rw [may, a2]; decide
  refine ⟨a1, H.nb.wr _ _, ?_, b1, b2, b3, (H.nb.wr _ _).wr _ _, ?_, ?_, ?_⟩
  · match i, hr with
    | 0, hr =>
      cases hr
      simp only at a4 hm hk ⊢
      have q0 := a4 0 (by decide) (by decide)
      have q1 := a4 1 (by decide) (by decide)
      have q2 := a4 2 (by decide) (by decide)
      rw [if_neg (by decide), H.r0] at q0
      rw [if_pos rfl] at q1
      rw [if_neg (by decide), H.r2] at q2
      have hXt : turnB X k = turnB P0 k ++ P1 := by
        rw [turnB, hX, List.set_append_left k _ hk, turnB]
        congr 3
        rw [List.getD_eq_getElem?_getD, List.getD_eq_getElem?_getD, List.getElem?_append_left hk]
      obtain ⟨Q0, Q1, hq, l0, l1, he⟩ := pcs_two (turnB X k) 44 (by rw [turnB_len, hXl]) (by omega) (by omega)
      rw [hXt] at he
      obtain ⟨rfl, rfl⟩ := List.append_inj he (by rw [turnB_len, l0, h0])
      refine load_data (X := X) (X' := turnB X k) (by decide) (by omega) (by omega) hm q0 ?_ (crc_turn X k (by omega))
      rw [← turnB_len X k]
      refine lie_pcs _ _ _ _ (Nat.le_refl _) fun m hm => ?_
      rw [hq] at hm ⊢
      match m, hm with
      | 0, _ => exact q1
      | 1, _ => exact q2
    | 1, hr =>
      cases hr
      simp only at a4 hm hk ⊢
      have q0 := a4 0 (by decide) (by decide)
      have q1 := a4 1 (by decide) (by decide)
      have q2 := a4 2 (by decide) (by decide)
      rw [if_neg (by decide), H.r0] at q0
      rw [if_neg (by decide), H.r1] at q1
      rw [if_pos rfl] at q2
      have hXt : turnB X (256 + k) = P0 ++ turnB P1 k := by
        rw [turnB, hX, List.set_append_right (256 + k) _ (by omega), turnB, h0, Nat.add_sub_cancel_left]
        congr 3
        rw [List.getD_eq_getElem?_getD, List.getD_eq_getElem?_getD, List.getElem?_append_right (by omega), h0, Nat.add_sub_cancel_left]
      obtain ⟨Q0, Q1, hq, l0, l1, he⟩ := pcs_two (turnB X (256 + k)) 44 (by rw [turnB_len, hXl]) (by omega) (by omega)
      rw [hXt] at he
      obtain ⟨rfl, rfl⟩ := List.append_inj he (by rw [l0, h0])
      refine load_data (X := X) (X' := turnB X (256 + k)) (by decide) (by omega) (by omega) hm q0 ?_ (crc_turn X (256 + k) (by omega))
      rw [← turnB_len X (256 + k)]
      refine lie_pcs _ _ _ _ (Nat.le_refl _) fun m hm => ?_
      rw [hq] at hm ⊢
      match m, hm with
      | 0, _ => exact q1
      | 1, _ => exact q2
    | 2, hr =>
      cases hr
      simp only at a4 hm hk ⊢
      have q0 := a4 0 (by decide) (by decide)
      rw [if_pos rfl] at q0
      exact load_head k (by omega) hm q0
  all_goals
    rw [b4 _ (by decide) (by decide), a4 _ (by decide) (by decide)]
    match i, hr with
    | 0, hr => cases hr; first | rw [if_pos rfl] | (rw [if_neg (by simp), if_neg (by simp)]; first | exact H.r0 | exact H.r1 | exact H.r2)
    | 1, hr => cases hr; first | rw [if_pos rfl] | (rw [if_neg (by simp), if_neg (by simp)]; first | exact H.r0 | exact H.r1 | exact H.r2)
    | 2, hr => cases hr; first | rw [if_pos rfl] | (rw [if_neg (by simp), if_neg (by simp)]; first | exact H.r0 | exact H.r1 | exact H.r2)

theorem Lay3.img {D : Dsk} {X P0 P1 : List UInt8} (hX : X = P0 ++ P1) (h0 : P0.length = 256) (h1 : P1.length = 44) (H : Lay3 D P0 P1 (hdr 4 X)) : Img D 0 2 4 X := by
  have hXl : X.length = 300 := by rw [hX, List.length_append]; omega
  obtain ⟨Q0, Q1, hq, l0, l1, he⟩ := pcs_two X 44 hXl (by omega) (by omega)
  rw [hX] at he
  obtain ⟨rfl, rfl⟩ := List.append_inj he (by rw [l0, h0])
  refine ⟨H.may, by decide, by omega, by omega, H.r0, fun m hm => ?_⟩
  rw [hq] at hm ⊢
  match m, hm with
  | 0, _ => exact H.r1
  | 1, _ => exact H.r2

theorem turnH (X : List UInt8) (hX : X.length = 300) : ∃ d1 P0 P1, save ⟨5, -1, []⟩ 0 2 4 X = (0, d1) ∧ d1.tr = [(1, P0), (2, P1), (0, hdr 4 X)] ∧ X = P0 ++ P1 ∧ P0.length = 256 ∧ P1.length = 44 ∧ Lay3 d1 P0 P1 (hdr 4 X) := by
  obtain ⟨P0, P1, hp, h0, h1, he⟩ := pcs_two X 44 hX (by omega) (by omega)
  have hN0 : Nb ⟨5, -1, []⟩ := ⟨by decide, by decide, by decide, by decide, fun r hr => by simp at hr⟩
  have hu : ups 1 [P0, P1] ⟨5, -1, []⟩ = (0, ⟨5, -1, [(1, P0), (2, P1)]⟩) := by simp [ups, wrN, wrD, h0, h1]
  have hl1 := hdr_len 4 X
  have s1 : save ⟨5, -1, []⟩ 0 2 4 X = (0, ⟨5, -1, [(1, P0), (2, P1), (0, hdr 4 X)]⟩) := by
    rw [save, if_pos (by decide), if_neg (by rw [hX]; decide), hp, show fst 0 2 4 = 1 from rfl, hu]
    simp [wrN, wrD, hl1]
  have hN1 := hN0.save 0 2 4 X
  have hI := save_img (d := ⟨5, -1, []⟩) (a := 0) (n := 2) (ep := 4) (x := X) (by decide) (by decide) (by rw [s1])
  rw [s1] at hN1 hI
  have q0 := hI.body 0 (by rw [hp]; simp)
  have q1 := hI.body 1 (by rw [hp]; simp)
  rw [hp] at q0 q1
  exact ⟨_, P0, P1, s1, rfl, he, h0, h1, rfl, rfl, hN1, hI.head, q0, q1⟩

end Ae
end Go.Proofs.YtlgjnefieflmbaaDoor
/- The closed law's turned bytes. -/
namespace Go.Proofs.YtlgjnefieflmbaaDoor
set_option linter.ambiguousOpen false
open Go.RowKit
namespace Ae
open Sm Ft Dk Pk
set_option linter.unusedSimpArgs false
set_option linter.unusedVariables false

theorem txA_take (l : List UInt8) (k : Nat) : (tx l).extract 0 k = tx (l.take k) := by
  apply ByteArray.ext
  simp

theorem txA_drop (l : List UInt8) (k : Nat) : (tx l).extract k l.length = tx (l.drop k) := by
  apply ByteArray.ext
  simp
  rw [List.take_of_length_le (by simp)]

theorem txA_app (a b : List UInt8) : tx a ++ tx b = tx (a ++ b) := by
  apply ByteArray.ext
  simp [tx]

theorem cutA_to (l : List UInt8) (k : Nat) (h : k ≤ l.length) (w : World) : (Instr.slice 9 (.string (tx l)) none (some (.int .i64 (k : Int))) none).run Tryd.prog w = .ok (.string (tx (l.take k))) w := by
  have hs : (tx l).size = l.length := rfl
  have hu := Tryd.underlying9
  have e := txA_take l k
  simp [Instr.slice, Instr.sliceBounds, Instr.sliceBound, asIntOf, run_underlying hu, hs, h, e]

theorem cutA_from (l : List UInt8) (k : Nat) (h : k ≤ l.length) (w : World) : (Instr.slice 9 (.string (tx l)) (some (.int .i64 (k : Int))) none none).run Tryd.prog w = .ok (.string (tx (l.drop k))) w := by
  have hs : (tx l).size = l.length := rfl
  have hu := Tryd.underlying9
  have e := txA_drop l k
  simp [Instr.slice, Instr.sliceBounds, Instr.sliceBound, asIntOf, run_underlying hu, hs, h, e]

/-- A disk, and a row of raw writes beside it. -/
def Tn (Rep : World → Nat → (Nat → Prop) → Dsk → Prop) (w : World) (p g : Nat) (ob : Obj) (wx : World) (D : Dsk) : Prop := ∃ F, Od Rep w wx p F D ∧ ¬ F g ∧ wx.heap[g]? = some ob

section
variable {Rep : World → Nat → (Nat → Prop) → Dsk → Prop} {w wx w' : World} {p g : Nat} {ob : Obj} {D : Dsk}

theorem Tn.below (H : Says Rep) (h : Tn Rep w p g ob wx D) (hb : Below wx.heap.size wx w') : Tn Rep w p g ob w' D := by
  obtain ⟨F, h1, h2, h3⟩ := h
  exact ⟨F, h1.below H hb, h2, (hb.block _ (Array.getElem?_eq_some_iff.1 h3).1).trans h3⟩

theorem Tn.bel (h : Tn Rep w p g ob wx D) : Below w.heap.size w wx := h.choose_spec.1.bel

theorem Tn.write (H : Says Rep) (h : Tn Rep w p g ob wx D) (b : Int) (s : List UInt8) (hb : 0 ≤ b ∧ b ≤ 9) (hs : s.length ≤ 1000) (ht : D.tr.length ≤ 100000) (hw : wrN D b s = 0) :
    Calls Tryd.prog 11 #[ptr p, nu b, .string (tx s)] wx fun e w' => e = .returned .nilIface ∧ Tn Rep w p g ob w' (wrD D b s) := by
  obtain ⟨F, h1, h2, h3⟩ := h
  refine (H.write wx p F D b s h1.rep (by omega) (by omega) (by unfold maxLen; omega)).mono ?_
  rintro e w' ⟨rfl, G, r1, r2, r3⟩
  refine ⟨by rw [hw]; rfl, G, h1.turn H r1 r2 r3, fun hc => ?_, r2.at h3 h2⟩
  have := (Array.getElem?_eq_some_iff.1 h3).1
  rcases r3 g hc with h4 | h4
  · exact h2 h4
  · omega
end

theorem cell_of_ob {W V : World} {g : Nat} {ob : Obj} (h1 : W.heap[g]? = some ob) (h2 : V.heap[g]? = some ob) (o : Nat) : W.cell? ⟨g, o, none⟩ = V.cell? ⟨g, o, none⟩ := by
  simp [World.cell?, h1, h2]

theorem turn_text (b : List UInt8) (k : Nat) (h : k < b.length) : b.take k ++ [byI b k ^^^ 64] ++ b.drop (k + 1) = turnB b k := by
  rw [turnB, byI, List.set_eq_take_append_cons_drop, if_pos h, List.append_assoc]
  rfl

theorem xor_64 (y : UInt8) : bits .xor .u8 (y.toNat : Int) 64 = ((y ^^^ 64).toNat : Int) := by
  have h := u8_xor_nat y.toNat 64 y.toNat_lt (by decide)
  have e : ((64 : Nat) : Int) = 64 := rfl
  rw [e] at h
  rw [h]
  congr 1

set_option maxRecDepth 100000 in
set_option maxHeartbeats 8000000 in
theorem knownTurned_yes {Rep : World → Nat → (Nat → Prop) → Dsk → Prop} (H : Says Rep) (SV : SaveC Rep) (LD : LoadC Rep) (w : World) (hE : Er.Handle w) :
    Calls Tryd.prog 27 #[] w fun e w' => e = .returned (.bool true) ∧ Below w.heap.size w w' := by
  obtain ⟨d1, P0, P1, s1, htr, hX, hp0, hp1, hL1⟩ := turnH (rowA 300) (rowA_len 300)
  have hl1 := hdr_len 4 (rowA 300)
  have hN0 : Nb ⟨5, -1, []⟩ := ⟨by decide, by decide, by decide, by decide, fun r hr => by simp at hr⟩
  have ht1 : d1.tr.length = 3 := by rw [htr]; rfl
  obtain ⟨R, hR⟩ : ∃ R : List Raw, [((1 : Int), P0), (2, P1), (0, hdr 4 (rowA 300))] = R := ⟨_, rfl⟩
  have hRl : R.length = 3 := by rw [← hR]; rfl
  have HRR : Hid (∀ (i : Nat) (r : Raw), R[i]? = some r → 0 ≤ r.1 ∧ r.1 ≤ 4 ∧ r.2.length ≤ 256) := fun i r hr => by
    rw [← hR] at hr
    match i, hr with
    | 0, hr => cases hr; exact ⟨by simp, by simp, by show P0.length ≤ 256; omega⟩
    | 1, hr => cases hr; exact ⟨by simp, by simp, by show P1.length ≤ 256; omega⟩
    | 2, hr => cases hr; exact ⟨by simp, by simp, by show (hdr 4 (rowA 300)).length ≤ 256; omega⟩
  have HE := Hid.mk' hE
  have HH := Hid.mk' H
  have cF := Hid.mk' (fresh_any H 5 w (by decide) (by decide))
  have cR : Hid (∀ wx : World, Calls Tryd.prog 47 #[nu 300] wx fun e w' => ∃ xa xc, e = .returned (.slice xa 300 xc) ∧ RdB w' (.slice xa 300 xc) (rowA 300) ∧ Nz (.slice xa 300 xc) ∧ (∀ a n' c, Value.slice xa 300 xc = .slice (some a) n' c → wx.heap.size ≤ a.block) ∧ Below wx.heap.size wx w') := fun wx => (row_any 300 wx (by omega)).mono (by
    rintro e w' ⟨x, rfl, ho, hb⟩
    have hz := nz_own ho
    have hr := own_rd' ho (rowA_len 300)
    have hblk : ∀ a n' c, x = .slice (some a) n' c → wx.heap.size ≤ a.block := fun a n' c he => by
      subst he
      exact (ho.lt a.block rfl).1
    obtain ⟨xa, xc, rfl, _⟩ := Nm.own_shape ho
    exact ⟨xa, xc, rfl, hr, hz, hblk, hb⟩)
  have cS : Hid (∀ wx p F v, Od Rep w wx p F ⟨5, -1, []⟩ → (∀ w', Keep F wx w' → RdB w' v (rowA 300)) → Nz v → Calls Tryd.prog 23 #[ptr p, nu 0, nu 2, .int .u32 4, v] wx fun e w' => e = .returned .nilIface ∧ ∃ G, Od Rep w w' p G d1) := fun wx p F v h hv hz => by
    have := SV wx p F ⟨5, -1, []⟩ 0 2 4 v (rowA 300) h.rep hN0 (by decide) (by decide) (by decide) (by decide) hv hz
    rw [s1] at this
    refine this.mono ?_
    rintro e w' ⟨rfl, G, r1, r2, r3⟩
    exact ⟨rfl, G, h.turn HH.out r1 r2 r3⟩
  have cT : Hid (∀ wx p F, Od Rep w wx p F d1 → Calls Tryd.prog 19 #[ptr p] wx fun e w' => ∃ g c ob, e = .returned (.slice (some ⟨g, 0, none⟩) 3 c) ∧ 3 ≤ c ∧ c ≤ maxLen ∧ Tn Rep w p g ob w' d1 ∧ (∀ W : World, W.heap[g]? = some ob → ∀ (i : Nat) (r : Raw), R[i]? = some r → W.cell? ⟨g, i * 2, none⟩ = some (nu r.1) ∧ W.cell? ⟨g, i * 2 + 1, none⟩ = some (.string (tx r.2)))) := fun wx p F h => by
    refine (HH.out.trail wx p F d1 h.rep (by omega)).mono ?_
    rintro e w' ⟨v, rfl, ho, hb⟩
    rw [ht1, htr, hR] at ho
    obtain ⟨a, c, rfl, hc1, hc2, hx⟩ := Nm.own_shape ho
    obtain ⟨g, rfl⟩ := hx (by decide)
    obtain ⟨g1, g2⟩ := ho.lt g rfl
    refine ⟨g, c, w'.heap[g], rfl, hc1, hc2, ⟨F, h.below HH.out hb, fun hc => ?_, Array.getElem?_eq_getElem g2⟩, fun W hW i r hr => ?_⟩
    · have := HH.out.lt h.rep g hc
      omega
    · have := raw_cells ho i r hr hRl
      rw [cell_of_ob hW (Array.getElem?_eq_getElem g2), cell_of_ob hW (Array.getElem?_eq_getElem g2)]
      exact this
  have cL : Hid (∀ wx p g ob D, Tn Rep w p g ob wx D → Nb D → D.tr.length ≤ 100000 → load D 0 2 = (21, 0, []) → Calls Tryd.prog 38 #[ptr p, nu 0, nu 2] wx fun e w' => ∃ r, e = .returned (.tuple #[.int .u32 0, r, noE 21]) ∧ Tn Rep w p g ob w' D) := fun wx p g ob D h hN ht hl => by
    obtain ⟨F, h1, h2⟩ := id h
    have := LD wx p F D 0 2 h1.rep hN (by omega) (by decide) (by decide)
    rw [hl] at this
    refine this.mono ?_
    rintro e w' ⟨r, he, _, hb⟩
    exact ⟨r, he, h.below HH.out hb⟩
  have cQ : Hid (∀ wx, Er.Handle wx → Calls Tryd.prog 9 #[noE 21, nu 21] wx fun e w' => e = .returned (.bool true) ∧ Below wx.heap.size wx w') := fun wx hg => plainL 21 (by decide) wx hg
  have cI : Hid (∀ wx p g ob D v, Tn Rep w p g ob wx D → Lay3 D P0 P1 (hdr 4 (rowA 300)) → D.tr.length ≤ 100000 → RdB wx v (rowA 300) → Calls Tryd.prog 24 #[ptr p, nu 0, nu 2, .int .u32 4, v] wx fun e w' => e = .returned (.bool true) ∧ Tn Rep w p g ob w' D) := fun wx p g ob D v h hL ht hv => by
    obtain ⟨F, h1, h2⟩ := id h
    refine (is_any LD wx p F D 0 2 4 v (rowA 300) h1.rep hL.nb (by omega) (hL.img hX hp0 hp1) hv).mono ?_
    rintro e w' ⟨rfl, hb⟩
    exact ⟨rfl, h.below HH.out hb⟩
  have HTS : Hid (∀ D, Lay3 D P0 P1 (hdr 4 (rowA 300)) → ∀ (i : Nat) (r : Raw), R[i]? = some r → ∀ k, k < r.2.length → wrN D r.1 (turnB r.2 k) = 0 ∧ Nb (wrD D r.1 (turnB r.2 k)) ∧ load (wrD D r.1 (turnB r.2 k)) 0 2 = (21, 0, []) ∧ wrN (wrD D r.1 (turnB r.2 k)) r.1 r.2 = 0 ∧ Lay3 (wrD (wrD D r.1 (turnB r.2 k)) r.1 r.2) P0 P1 (hdr 4 (rowA 300))) := fun D hL i r hr k hk => turned_seen hX hp0 hp1 hL i r (hR ▸ hr) k hk
  have HL1 := Hid.mk' hL1
  have HR2 : Hid (R[2]? = some (0, hdr 4 (rowA 300))) := by rw [← hR]; rfl
  clear H SV LD hE s1 htr hX hL1 hN0 hR
  go_enter Tryd.func27, Tryd.ntmps27
  go_wp2_with fail
  refine cF.out.mono ?_
  rintro e w1 ⟨p, F, rfl, r1, r2, r3⟩
  have HO1 : Hid (Od Rep w w1 p F ⟨5, -1, []⟩) := ⟨r1, r2, r3⟩
  clear r1 r2 r3 cF
  go_wp2_with fail
  refine (cR.out w1).mono ?_
  rintro e w2 ⟨xa, xc, rfl, hrd, hz, hbl, hb⟩
  have C2 := Hid.mk' (cS.out w2 p F _ (HO1.out.below HH.out hb) (fun w' hk => rd_keep hrd hk (fun k hf a n c he => by
    have h1 := hbl a n c he
    have h2 := HH.out.lt HO1.out.rep k hf
    omega)) hz)
  clear hrd hz hbl hb HO1 cS
  go_wp2_with fail
  refine C2.out.mono ?_
  rintro e w3 ⟨rfl, G, hO⟩
  have HO3 := Hid.mk' hO
  clear hO C2
  go_wp2_with fail
  refine (cT.out w3 p G HO3.out).mono ?_
  rintro e w4 ⟨g, c, ob, rfl, hc1, hc2, hT4, hce⟩
  have HT4 := Hid.mk' hT4
  have HCE := Hid.mk' hce
  unfold maxLen at hc2
  clear hT4 hce HO3 cT
  have HS4 : Hid (∃ D, Tn Rep w p g ob w4 D ∧ Lay3 D P0 P1 (hdr 4 (rowA 300)) ∧ D.tr.length ≤ 3 + 1000 * 0) := ⟨d1, HT4.out, HL1.out, by omega⟩
  clear HT4 HL1 ht1
  go_wp2
  go_loopw [3, 4, 5, 6, 7, 8, 9] (fun iv _ _ _ _ _ _ wr => ∃ i : Nat, i ≤ 3 ∧ iv = nu (i : Int) ∧ Hid (∃ D, Tn Rep w p g ob wr D ∧ Lay3 D P0 P1 (hdr 4 (rowA 300)) ∧ D.tr.length ≤ 3 + 1000 * i)) (fun iv _ _ _ _ _ _ _ => 3 - (intOf iv).toNat)
  case atStart => exact ⟨0, by omega, rfl, HS4⟩
  case round =>
    obtain ⟨i, hi, rfl, HSi⟩ := hrel
    clear HS4
    have hi0 : (0 : Int) ≤ (i : Int) := by omega
    by_cases hi3 : i < 3
    · have hi3' : (i : Int) < 3 := by omega
      obtain ⟨r, hr⟩ : ∃ r, R[i]? = some r := ⟨R[i]'(by omega), List.getElem?_eq_getElem _⟩
      obtain ⟨rb, b⟩ := r
      obtain ⟨hb0, hb4, hbl⟩ := HRR.out i _ hr
      simp only at hb0 hb4 hbl
      have HRi := Hid.mk' hr
      obtain ⟨f, hf⟩ : ∃ f, tx b = f := ⟨_, rfl⟩
      have hfs : f.size = b.length := by rw [← hf]; rfl
      have HCi : Hid (∀ W : World, W.heap[g]? = some ob → W.cell? ⟨g, i * 2, none⟩ = some (nu rb) ∧ W.cell? ⟨g, i * 2 + 1, none⟩ = some (.string f)) := fun W hW => by
        have := HCE.out W hW i _ hr
        rw [← hf]
        exact this
      have HF := Hid.mk' hf
      clear hr hf
      have HSi2 : Hid (∃ D, Tn Rep w p g ob wr D ∧ Lay3 D P0 P1 (hdr 4 (rowA 300)) ∧ D.tr.length ≤ 3 + 1000 * i + 2 * 0) := HSi
      go_wp2
      rename World => w5
      go_loopw [4, 5, 6, 7, 8, 9] (fun kv _ _ _ _ _ wr => ∃ k : Nat, k ≤ b.length ∧ kv = nu (k : Int) ∧ Hid (∃ D, Tn Rep w p g ob wr D ∧ Lay3 D P0 P1 (hdr 4 (rowA 300)) ∧ D.tr.length ≤ 3 + 1000 * i + 2 * k)) (fun kv _ _ _ _ _ _ => b.length - (intOf kv).toNat)
      case atStart => exact ⟨0, by omega, rfl, HSi2⟩
      case round =>
        obtain ⟨k, hk, rfl, HSk⟩ := hrel
        clear HSi HSi2
        obtain ⟨D, hTn, hLy, htl⟩ := HSk.out
        obtain ⟨z0, z1⟩ := HCi.out wr hTn.choose_spec.2.2
        have hk0 : (0 : Int) ≤ (k : Int) := by omega
        by_cases hkb : k < b.length
        · have hkI : (k : Int) < (f.size : Int) := by omega
          obtain ⟨t1, t2, t3, t4, t5⟩ := HTS.out D hLy i _ HRi.out k hkb
          simp only at t1 t2 t3 t4 t5
          obtain ⟨y, hy⟩ : ∃ y, byI b k = y := ⟨_, rfl⟩
          have hTT := turn_text b k hkb
          rw [hy] at hTT
          have hx1 := xor_64 y
          obtain ⟨y0, hy0⟩ : ∃ n : Nat, y.toNat = n := ⟨_, rfl⟩
          obtain ⟨y1, hy1⟩ : ∃ n : Nat, (y ^^^ 64).toNat = n := ⟨_, rfl⟩
          rw [hy0, hy1] at hx1
          have hidx : ∀ wx, (Instr.index 9 (.string f) (.int .i64 (k : Int))).run Tryd.prog wx = .ok (.int .u8 (y0 : Int)) wx := fun wx => by
            have := idx_at b k hkb wx
            rw [HF.out, hy] at this
            rw [this, ← hy0]
          obtain ⟨f1, hf1⟩ : ∃ x, tx (b.take k) = x := ⟨_, rfl⟩
          obtain ⟨f3, hf3⟩ : ∃ x, tx (b.drop (k + 1)) = x := ⟨_, rfl⟩
          obtain ⟨fy, hfy⟩ : ∃ x, tx [y ^^^ 64] = x := ⟨_, rfl⟩
          have hsl1 : ∀ wx, (Instr.slice 9 (.string f) none (some (.int .i64 (k : Int))) none).run Tryd.prog wx = .ok (.string f1) wx := fun wx => by
            have := cutA_to b k (by omega) wx
            rw [HF.out, hf1] at this
            exact this
          obtain ⟨k', hk'⟩ : ∃ k', k + 1 = k' := ⟨_, rfl⟩
          have hk'0 : (0 : Int) ≤ (k : Int) + 1 := by omega
          have hk'f : (k : Int) + 1 ≤ (f.size : Int) := by omega
          have hk't : ((k : Int) + 1).toNat = k' := by omega
          have hsl3 : ∀ wx, (Instr.slice 9 (.string f) (some (.int .i64 ((k : Int) + 1))) none none).run Tryd.prog wx = .ok (.string f3) wx := fun wx => by
            have := cutA_from b (k + 1) (by omega) wx
            rw [HF.out, hf3] at this
            exact this
          have hE1 : f.extract 0 k = f1 := by rw [← HF.out, ← hf1]; exact txA_take b k
          have hE3 : f.extract k' f.size = f3 := by rw [← HF.out, ← hf3, ← hk']; exact txA_drop b (k + 1)
          have zz1 : f1.size ≤ 256 := by
            rw [← hf1]
            show (b.take k).length ≤ 256
            rw [List.length_take]
            omega
          have zz3 : f3.size ≤ 256 := by
            rw [← hf3]
            show (b.drop (k + 1)).length ≤ 256
            rw [List.length_drop]
            omega
          have zzy : fy.size ≤ 1 := by rw [← hfy]; exact Nat.le_refl _
          obtain ⟨f2, hf2⟩ : ∃ x, f1 ++ fy = x := ⟨_, rfl⟩
          obtain ⟨f4, hf4⟩ : ∃ x, f2 ++ f3 = x := ⟨_, rfl⟩
          have HF4 : Hid (f4 = tx (turnB b k)) := by
            show _ = _
            rw [← hf4, ← hf2, ← hf1, ← hf3, ← hfy, txA_app, txA_app, hTT]
          have zz2 : f2.size ≤ 300 := by
            rw [← hf2, ByteArray.size_append]
            omega
          have had1 : ∀ wx, (Op.stringOp .add f1 fy).run Tryd.prog wx = .ok (.string f2) wx := fun wx => by
            rw [← hf2]
            have hsz : f1.size + fy.size ≤ 9223372036854775807 := by omega
            simp [go_sem, hsz]
          have had2 : ∀ wx, (Op.stringOp .add f2 f3).run Tryd.prog wx = .ok (.string f4) wx := fun wx => by
            rw [← hf4]
            have hsz : f2.size + f3.size ≤ 9223372036854775807 := by omega
            simp [go_sem, hsz]
          have hrdy : ∀ wx : World, RdB (wx.alloc (.cells #[.int .u8 (y1 : Int)] 5)) (.slice (some ⟨wx.heap.size, 0, none⟩) 1 1) [y ^^^ 64] := fun wx => by
            have := rd_newA wx [y ^^^ 64] (by simp)
            rw [← hy1]
            exact this
          have hcv1 := conv_rd (hrdy wr)
          have hcv2 := conv_rd ((hrdy wr).below (Below.refl _ _).drew)
          have hcv3 := conv_rd (hrdy wr.drew)
          rw [hfy] at hcv1 hcv2 hcv3
          have hkw : (k : Int) + 1 ≤ 300 := by omega
          have hwr : IntKind.i64.wrap ((k : Int) + 1) = (k : Int) + 1 := by rw [IntKind.wrap_i64]; omega
          have hTd : Hid (Tn Rep w p g ob (wr.alloc (.cells #[.int .u8 (y1 : Int)] 5)).drew D) := hTn.below HH.out ((Below.refl _ _).alloc (Nat.le_refl _) _).drew
          have HTU : Hid (wrN D rb (turnB b k) = 0 ∧ Nb (wrD D rb (turnB b k)) ∧ load (wrD D rb (turnB b k)) 0 2 = (21, 0, []) ∧ wrN (wrD D rb (turnB b k)) rb b = 0 ∧ Lay3 (wrD (wrD D rb (turnB b k)) rb b) P0 P1 (hdr 4 (rowA 300))) := ⟨t1, t2, t3, t4, t5⟩
          clear hy hTT hy0 hy1 hf1 hf3 hfy hf2 hf4 hrdy hk' t1 t2 t3 t4 t5 hTn hLy
          go_upto_region 12 with fail
          go_cut [6] from 41 to 56 (fun tv wr => tv = .string f4 ∧ Hid (Tn Rep w p g ob wr D))
          case first =>
            first | go_region_with (fail) | fail
            all_goals (go_wp2_with fail; go_meet; exact ⟨rfl, hTd⟩)
          case rest =>
          rename World => W6
          obtain ⟨rfl, hT6⟩ := hcut
          obtain ⟨v0, v1⟩ := HCi.out W6 hT6.out.choose_spec.2.2
          have htl2 := wrD_tr D rb (turnB b k)
          have htl3 := wrD_tr (wrD D rb (turnB b k)) rb b
          have C6 : Hid (Calls Tryd.prog 11 #[ptr p, nu rb, .string f4] W6 fun e w' => e = .returned .nilIface ∧ Tn Rep w p g ob w' (wrD D rb (turnB b k))) := by
            show Calls _ _ _ _ _
            rw [HF4.out]
            exact hT6.out.write HH.out rb (turnB b k) (by omega) (by rw [turnB_len]; omega) (by omega) HTU.out.1
          clear z0 z1 hcv1 hcv2 hcv3 hTd hsl1 hsl3 had1 had2 hidx hE1 hE3 HSk
          go_wp2_with fail
          refine C6.out.mono ?_
          rintro e W7 ⟨rfl, hT7⟩
          have C7 := Hid.mk' (cL.out W7 p g ob _ hT7 HTU.out.2.1 (by omega) HTU.out.2.2.1)
          clear C6 hT6 hT7 v0 v1
          go_wp2_with fail
          refine C7.out.mono ?_
          rintro e W8 ⟨rv, rfl, hT8⟩
          have HT8 := Hid.mk' hT8
          have C8 := Hid.mk' (cQ.out W8 (HE.out.below hT8.bel))
          clear hT8 C7
          go_wp2_with fail
          refine C8.out.mono ?_
          rintro e W9 ⟨rfl, hb9⟩
          have hT9 := HT8.out.below HH.out hb9
          obtain ⟨v0, v1⟩ := HCi.out W9 hT9.choose_spec.2.2
          have C9 : Hid (Calls Tryd.prog 11 #[ptr p, nu rb, .string f] W9 fun e w' => e = .returned .nilIface ∧ Tn Rep w p g ob w' (wrD (wrD D rb (turnB b k)) rb b)) := by
            show Calls _ _ _ _ _
            rw [← HF.out]
            exact hT9.write HH.out rb b (by omega) (by omega) (by omega) HTU.out.2.2.2.1
          clear hb9 hT9 C8 HT8
          go_wp2_with fail
          refine C9.out.mono ?_
          rintro e W10 ⟨rfl, hT10⟩
          have HS10 : Hid (∃ D, Tn Rep w p g ob W10 D ∧ Lay3 D P0 P1 (hdr 4 (rowA 300)) ∧ D.tr.length ≤ 3 + 1000 * i + 2 * (k + 1)) := ⟨_, hT10, HTU.out.2.2.2.2, by omega⟩
          clear hT10 C9 v0 v1
          go_wp2
          go_roundw
          case rel => exact ⟨k + 1, by omega, by go_num, HS10⟩
          case measure => simp [intOf]; omega
        · have hkI : ¬ (k : Int) < (f.size : Int) := by omega
          have HS11 : Hid (∃ D, Tn Rep w p g ob wr D ∧ Lay3 D P0 P1 (hdr 4 (rowA 300)) ∧ D.tr.length ≤ 3 + 1000 * (i + 1)) := ⟨D, hTn, hLy, by omega⟩
          clear hTn hLy HSk
          go_wp2
          go_roundw
          case rel => exact ⟨i + 1, by omega, by go_num, HS11⟩
          case measure => simp [intOf]; omega
    · obtain rfl : i = 3 := by omega
      obtain ⟨D, hTn, hLy, htl⟩ := HSi.out
      have HTn := Hid.mk' hTn
      have HLy := Hid.mk' hLy
      obtain ⟨fh, hfh⟩ : ∃ fh, tx (hdr 4 (rowA 300)) = fh := ⟨_, rfl⟩
      have HC2 : Hid (∀ W : World, W.heap[g]? = some ob → W.cell? ⟨g, 4, none⟩ = some (nu 0) ∧ W.cell? ⟨g, 5, none⟩ = some (.string fh)) := fun W hW => by
        have := HCE.out W hW 2 _ HR2.out
        rw [← hfh]
        exact this
      obtain ⟨f4, hf4⟩ : ∃ f4, fh ++ ⟨#[120]⟩ = f4 := ⟨_, rfl⟩
      have hT17 : Hid (f4 = tx (hdr 4 (rowA 300) ++ [120])) := by
        show _ = _
        rw [← hf4, ← hfh]
        exact txA_app _ [120]
      have zh : fh.size = 16 := by rw [← hfh]; exact tx_lenA hl1
      have had2 : ∀ wx, (Op.stringOp .add fh ⟨#[120]⟩).run Tryd.prog wx = .ok (.string f4) wx := fun wx => by
        rw [← hf4]
        have e1 : (⟨#[120]⟩ : ByteArray).size = 1 := rfl
        have hsz : fh.size + (⟨#[120]⟩ : ByteArray).size ≤ 9223372036854775807 := by rw [e1]; omega
        generalize (⟨#[120]⟩ : ByteArray) = fx at *
        simp [go_sem, hsz]
      have h17 : (hdr 4 (rowA 300) ++ [120]).length = 17 := by rw [List.length_append, hl1]; rfl
      obtain ⟨w1', w2', w3', w4'⟩ := wr_yes hLy.n hLy.left 0 (hdr 4 (rowA 300) ++ [120]) (by decide) (by decide) (by omega)
      have HW : Hid (wrN D 0 (hdr 4 (rowA 300) ++ [120]) = 0 ∧ Nb (wrD D 0 (hdr 4 (rowA 300) ++ [120])) ∧ load (wrD D 0 (hdr 4 (rowA 300) ++ [120])) 0 2 = (21, 0, [])) := by
        refine ⟨w1', hLy.nb.wr _ _, load_long (by rw [may, w2']; decide) ?_⟩
        rw [w4' 0 (by decide) (by decide), if_pos rfl]
        exact h17
      have htl2 := wrD_tr D 0 (hdr 4 (rowA 300) ++ [120])
      have hwr0 := HTn.out.bel
      clear hTn hLy HSi hfh hf4 w1' w2' w3' w4' hwr0
      go_wp2_with fail
      refine (cR.out wr).mono ?_
      rintro e W2 ⟨ya, yc, rfl, hrd, _, _, hb⟩
      have C2 := Hid.mk' (cI.out W2 p g ob D _ (HTn.out.below HH.out hb) HLy.out (by omega) hrd)
      clear hrd hb
      go_wp2_with fail
      refine C2.out.mono ?_
      rintro e W3 ⟨rfl, hT3⟩
      obtain ⟨v0, v1⟩ := HC2.out W3 hT3.choose_spec.2.2
      have C3 : Hid (Calls Tryd.prog 11 #[ptr p, nu 0, .string f4] W3 fun e w' => e = .returned .nilIface ∧ Tn Rep w p g ob w' (wrD D 0 (hdr 4 (rowA 300) ++ [120]))) := by
        show Calls _ _ _ _ _
        rw [hT17.out]
        exact hT3.write HH.out 0 (hdr 4 (rowA 300) ++ [120]) (by decide) (by omega) (by omega) HW.out.1
      clear hT3 C2
      go_wp2_with fail
      refine C3.out.mono ?_
      rintro e W4 ⟨rfl, hT4⟩
      have C4 := Hid.mk' (cL.out W4 p g ob _ hT4 HW.out.2.1 (by omega) HW.out.2.2)
      clear hT4 C3 v0 v1 had2
      go_wp2_with fail
      refine C4.out.mono ?_
      rintro e W5 ⟨rv, rfl, hT5⟩
      have HB5 := Hid.mk' hT5.bel
      have C5 := Hid.mk' (cQ.out W5 (HE.out.below hT5.bel))
      clear hT5 C4
      go_wp2_with fail
      refine C5.out.mono ?_
      rintro e W6 ⟨rfl, hb⟩
      have HB6 := Hid.mk' (below_fromS HB5.out hb)
      clear hb C5
      go_wp2
      go_ret
      exact ⟨rfl, HB6.out⟩
end Ae
end Go.Proofs.YtlgjnefieflmbaaDoor
/- The closed law on areas. -/
namespace Go.Proofs.YtlgjnefieflmbaaDoor
set_option linter.ambiguousOpen false
open Go.RowKit
namespace Ae
open Sm Ft Dk Pk

set_option maxRecDepth 100000 in
theorem areaKnown_yes {Rep : World → Nat → (Nat → Prop) → Dsk → Prop} (H : Says Rep) (SW : ∀ (w : World) (p : Nat) (F : Nat → Prop) (d : Dsk), Rep w p F d → Calls Tryd.prog 17 #[ptr p] w fun e w' => e = .returned (nu (d.tr.length : Int)) ∧ Below w.heap.size w w') (SV : SaveC Rep) (LD : LoadC Rep) (w : World) (hE : Er.Handle w) :
    Calls Tryd.prog 6 #[] w fun e w' => e = .returned (.bool true) ∧ Below w.heap.size w w' := by
  have HE := Hid.mk' hE
  have c1 : Hid (∀ wx, Below w.heap.size w wx → Calls Tryd.prog 25 #[] wx fun e w' => e = .returned (.bool true) ∧ Below w.heap.size w w') := fun wx hb => (knownSaid_yes H SW SV LD wx (HE.out.below hb)).mono (by
    rintro e w' ⟨rfl, hb'⟩
    exact ⟨rfl, below_fromS hb hb'⟩)
  have c2 : Hid (∀ wx, Below w.heap.size w wx → Calls Tryd.prog 26 #[] wx fun e w' => e = .returned (.bool true) ∧ Below w.heap.size w w') := fun wx hb => (knownCuts_yes H SV LD wx (HE.out.below hb)).mono (by
    rintro e w' ⟨rfl, hb'⟩
    exact ⟨rfl, below_fromS hb hb'⟩)
  have c3 : Hid (∀ wx, Below w.heap.size w wx → Calls Tryd.prog 27 #[] wx fun e w' => e = .returned (.bool true) ∧ Below w.heap.size w w') := fun wx hb => (knownTurned_yes H SV LD wx (HE.out.below hb)).mono (by
    rintro e w' ⟨rfl, hb'⟩
    exact ⟨rfl, below_fromS hb hb'⟩)
  have c4 : Hid (∀ wx, Below w.heap.size w wx → Calls Tryd.prog 28 #[] wx fun e w' => e = .returned (.bool true) ∧ Below w.heap.size w w') := fun wx hb => (knownPlaces_yes H SW SV LD wx (HE.out.below hb)).mono (by
    rintro e w' ⟨rfl, hb'⟩
    exact ⟨rfl, below_fromS hb hb'⟩)
  clear H SW SV LD hE HE
  go_enter Tryd.func6, Tryd.ntmps6
  go_wp2_with fail
  refine (c1.out _ (Below.refl _ _)).mono ?_
  rintro e w1 ⟨rfl, hb⟩
  have HB1 := Hid.mk' hb
  clear hb c1
  go_wp2_with fail
  refine (c2.out _ HB1.out).mono ?_
  rintro e w2 ⟨rfl, hb⟩
  have HB2 := Hid.mk' hb
  clear hb c2
  go_wp2_with fail
  refine (c3.out _ HB2.out).mono ?_
  rintro e w3 ⟨rfl, hb⟩
  have HB3 := Hid.mk' hb
  clear hb c3
  go_wp2_with fail
  refine (c4.out _ HB3.out).mono ?_
  rintro e w4 ⟨rfl, hb⟩
  have HB4 := Hid.mk' hb
  clear hb c4
  go_wp2
  go_ret
  exact ⟨rfl, HB4.out⟩
end Ae
end Go.Proofs.YtlgjnefieflmbaaDoor
