/- A key out of its bytes. -/
import Derived.Test.YtfflmpmhacfijaaDoorKey
import Derived.Test.YtfflmpmhacfijaaDoorPlace
import Derived.Laws.IdiomStrings
namespace Go.Proofs.YtfflmpmhacfijaaDoor
set_option linter.ambiguousOpen false
open Go.RowKit
namespace Tg
open Sm
set_option linter.unusedSimpArgs false
set_option linter.unusedVariables false

/-- What '[]byte(s)' makes. -/
def cp (w : World) (l : List UInt8) : Nat := grownCap w l.length 0 5

def ob (w : World) (l : List UInt8) : Obj := .cells (bytesRow (tx l) (cp w l)) 5 ((bytesRow (tx l) (cp w l)).size, (bytesRow (tx l) (cp w l)).size + 1)

theorem conv_any (l : List UInt8) (w : World) : (convert 9 22 (.string (tx l))).run Tryd.prog w = .ok (.slice (some ⟨w.heap.size, 0, none⟩) l.length (cp w l)) (w.drew.alloc (ob w l)) :=
  run_bytes_of_string w 9 22 5 (tx l) Tryd.underlying9 Tryd.underlying22 Tryd.underlying5

theorem cp_le (w : World) (l : List UInt8) : l.length ≤ cp w l := grownCap_ge _ _ _ _

theorem ob_rd (l : List UInt8) (hl : l.length ≤ maxLen) (w wx : World) (H : Nat) (h : wx.heap[H]? = some (ob w l)) : RdB wx (.slice (some ⟨H, 0, none⟩) l.length (cp w l)) l := by
  refine ⟨_, _, rfl, cp_le w l, grownCap_le_maxLen _ _ _ _ hl, fun _ => ⟨H, 0, rfl, (Array.getElem?_eq_some_iff.1 h).1, fun j hj => ?_⟩⟩
  unfold ob bytesRow at h
  rw [Nat.zero_add]
  simp [World.cell?, h, Array.getElem?_append, hj]

theorem hpD (w : World) : w.drew.heap = w.heap := rfl

theorem hpA (w : World) (o : Obj) : (w.alloc o).heap = w.heap.push o := rfl

theorem tx_take (l : List UInt8) (k : Nat) : (tx l).extract 0 k = tx (l.take k) := by
  apply ByteArray.ext
  simp

theorem tx_drop (l : List UInt8) (k : Nat) : (tx l).extract k l.length = tx (l.drop k) := by
  apply ByteArray.ext
  simp
  rw [List.take_of_length_le (by simp)]

theorem cut_to (l : List UInt8) (k : Nat) (h : k ≤ l.length) (w : World) : (Instr.slice 9 (.string (tx l)) none (some (.int .i64 (k : Int))) none).run Tryd.prog w = .ok (.string (tx (l.take k))) w := by
  have hu := Tryd.underlying9
  have hs : (tx l).size = l.length := rfl
  have h1 : (0 : Int) ≤ (k : Int) ∧ (k : Int) ≤ (l.length : Int) := by omega
  simp [Instr.slice, Instr.sliceBounds, Instr.sliceBound, asIntOf, run_underlying hu, hs]
  rw [if_pos h, tx_take]

theorem cut_from (l : List UInt8) (k : Nat) (h : k ≤ l.length) (w : World) : (Instr.slice 9 (.string (tx l)) (some (.int .i64 (k : Int))) none none).run Tryd.prog w = .ok (.string (tx (l.drop k))) w := by
  have hu := Tryd.underlying9
  have hs : (tx l).size = l.length := rfl
  have h1 : (0 : Int) ≤ (k : Int) ∧ (k : Int) ≤ (l.length : Int) := by omega
  simp [Instr.slice, Instr.sliceBounds, Instr.sliceBound, asIntOf, run_underlying hu, hs]
  rw [if_pos h, tx_drop]

theorem new_no (l : List UInt8) (w : World) (h : l.length ≠ 16) (hm : l.length ≤ maxLen) :
    Calls Tryd.prog 7 #[.string (tx l)] w fun e w' => e = .returned (.tuple #[.pointer none, Er.noV 14]) ∧ w' = w := by
  have hs : (tx l).size = l.length := rfl
  have hb : ((l.length : Int) != 16) = true := by rw [bne_iff_ne]; omega
  unfold maxLen at hm
  generalize tx l = b at *
  go_enter Tryd.func7, Tryd.ntmps7
  go_wp2
  go_ret2
  exact ⟨rfl, rfl⟩

/-- What a key's halves are laid over. -/
def begCells : List Value := [.int .u64 8317987319222330741, .int .u64 7237128888997146477, .int .u64 7816392313619706465, .int .u64 8387220255154660723]

def Beg (w : World) : Prop := ∀ j v, begCells[j]? = some v → w.cell? ⟨0, j, none⟩ = some v

theorem Beg.lt {w : World} (h : Beg w) : 0 < w.heap.size := by
  have h0 := h 0 _ rfl
  rcases Nat.lt_or_ge 0 w.heap.size with k | k
  · exact k
  · simp [World.cell?, Array.getElem?_eq_none k] at h0

theorem Beg.below {w w' : World} (h : Beg w) (hb : Below w.heap.size w w') : Beg w' := fun j v hj => (hb.cell (p := ⟨0, j, none⟩) h.lt).trans (h j v hj)

/-- The key of two halves. -/
def keyV (k0 k1 : Int) : V4 := ⟨xr 8317987319222330741 k0, xr 7237128888997146477 k1, xr 7816392313619706465 k0, xr 8387220255154660723 k1⟩

/-- A key lies there. -/
def KeyAt (w : World) (g : Nat) (v : V4) : Prop := w.heap[g]? = some (.cells #[u8v v.a, u8v v.b, u8v v.c, u8v v.d] 49)

theorem KeyAt.below {w w' : World} {g : Nat} {v : V4} (h : KeyAt w g v) (hb : Below w.heap.size w w') : KeyAt w' g v := by
  unfold KeyAt at *
  rw [hb.block g (Array.getElem?_eq_some_iff.1 h).1]
  exact h

theorem KeyAt.cells {w : World} {g : Nat} {v : V4} (h : KeyAt w g v) : w.cell? ⟨g, 0, none⟩ = some (u8v v.a) ∧ w.cell? ⟨g, 1, none⟩ = some (u8v v.b) ∧ w.cell? ⟨g, 2, none⟩ = some (u8v v.c) ∧ w.cell? ⟨g, 3, none⟩ = some (u8v v.d) := by
  unfold KeyAt at h
  simp [World.cell?, h]

theorem KeyAt.free {w : World} {g : Nat} {v : V4} (h : KeyAt w g v) (i : Nat) : w.frozen? ⟨g, i, none⟩ = false := by
  unfold KeyAt at h
  simp [World.frozen?, h]

/-- The first halves of a key's bytes. -/
def k0L (l : List UInt8) : Int := lowK (l.take 8) 8

def k1L (l : List UInt8) : Int := lowK (l.drop 8) 8

theorem below3 (w : World) (a b c : Obj) : Below w.heap.size w (((w.alloc a).alloc b).alloc c).drew.drew.drew :=
  (((((Below.refl _ _).alloc (Nat.le_refl _) _).alloc (by simp) _).alloc (by simp; omega) _).drew).drew.drew

theorem two_cells {w : World} {g : Nat} {k0 k1 : Int} (h : w.heap[g]? = some (.cells #[u8v k0, u8v k1] 45)) : w.cell? ⟨g, 0, none⟩ = some (u8v k0) ∧ w.cell? ⟨g, 1, none⟩ = some (u8v k1) := by
  simp [World.cell?, h]

/-- The key, as far as its halves are laid over. -/
def stp (k0 k1 : Int) : Nat → V4
  | 0 => ⟨8317987319222330741, 7237128888997146477, 7816392313619706465, 8387220255154660723⟩
  | 1 => ⟨xr 8317987319222330741 k0, 7237128888997146477, 7816392313619706465, 8387220255154660723⟩
  | 2 => ⟨xr 8317987319222330741 k0, xr 7237128888997146477 k1, 7816392313619706465, 8387220255154660723⟩
  | 3 => ⟨xr 8317987319222330741 k0, xr 7237128888997146477 k1, xr 7816392313619706465 k0, 8387220255154660723⟩
  | _ => keyV k0 k1

set_option maxHeartbeats 4000000 in
theorem new_ok (l : List UInt8) (w : World) (h : l.length = 16) (hB : Beg w) :
    Calls Tryd.prog 7 #[.string (tx l)] w fun e w' => ∃ g, e = .returned (.tuple #[.pointer (some ⟨g, 0, none⟩), .nilIface]) ∧ w.heap.size ≤ g ∧ KeyAt w' g (keyV (k0L l) (k1L l)) ∧ Below w.heap.size w w' := by
  have hs : (tx l).size = 16 := h
  have e81 : (l.take 8).length = 8 := by rw [List.length_take]; omega
  have e82 : (l.drop 8).length = 8 := by rw [List.length_drop]; omega
  have s1 : ∀ w, (Instr.slice 9 (.string (tx l)) none (some (.int .i64 8)) none).run Tryd.prog w = .ok (.string (tx (l.take 8))) w := fun w => cut_to l 8 (by omega) w
  have s2 : ∀ w, (Instr.slice 9 (.string (tx l)) (some (.int .i64 8)) none none).run Tryd.prog w = .ok (.string (tx (l.drop 8))) w := fun w => cut_from l 8 (by omega) w
  obtain ⟨c1, o1, v1, C1⟩ : ∃ (c : World → Nat) (o : World → Obj), (∀ w, (convert 9 22 (.string (tx (l.take 8)))).run Tryd.prog w = .ok (.slice (some ⟨w.heap.size, 0, none⟩) 8 (c w)) (w.drew.alloc (o w))) ∧ Hid (∀ (w wx : World) (H : Nat), wx.heap[H]? = some (o w) → Calls Tryd.prog 19 #[.slice (some ⟨H, 0, none⟩) 8 (c w)] wx fun e w' => e = .returned (.int .u64 (k0L l)) ∧ w' = wx) := by
    refine ⟨fun w => cp w (l.take 8), fun w => ob w (l.take 8), fun w => ?_, fun w wx H hh => ?_⟩
    · have := conv_any (l.take 8) w
      rwa [e81] at this
    · have := word_any _ _ wx (ob_rd (l.take 8) (by rw [e81]; decide) w wx H hh) (by omega)
      rw [e81] at this
      exact this
  obtain ⟨c2, o2, v2, C2⟩ : ∃ (c : World → Nat) (o : World → Obj), (∀ w, (convert 9 22 (.string (tx (l.drop 8)))).run Tryd.prog w = .ok (.slice (some ⟨w.heap.size, 0, none⟩) 8 (c w)) (w.drew.alloc (o w))) ∧ Hid (∀ (w wx : World) (H : Nat), wx.heap[H]? = some (o w) → Calls Tryd.prog 19 #[.slice (some ⟨H, 0, none⟩) 8 (c w)] wx fun e w' => e = .returned (.int .u64 (k1L l)) ∧ w' = wx) := by
    refine ⟨fun w => cp w (l.drop 8), fun w => ob w (l.drop 8), fun w => ?_, fun w wx H hh => ?_⟩
    · have := conv_any (l.drop 8) w
      rwa [e82] at this
    · have := word_any _ _ wx (ob_rd (l.drop 8) (by rw [e82]; decide) w wx H hh) (by omega)
      rw [e82] at this
      exact this
  have HB := Hid.mk' hB
  clear h e81 e82 hB
  generalize k0L l = k0 at *
  generalize k1L l = k1 at *
  generalize l.take 8 = l1 at *
  generalize l.drop 8 = l2 at *
  generalize tx l = b at *
  generalize tx l1 = b1 at *
  generalize tx l2 = b2 at *
  go_enter Tryd.func7, Tryd.ntmps7
  go_wp2_with fail
  go_cut [4] from 11 to 19 (fun v4 wr => ∃ g, v4 = .pointer (some ⟨g, 0, none⟩) ∧ Hid (w.heap.size ≤ g) ∧ Hid (wr.heap[g]? = some (.cells #[u8v k0, u8v k1] 45)) ∧ Hid (Below w.heap.size w wr))
  case first =>
    go_region_with (go_at_call 19; (first | (with_reducible refine (C1.out _ _ _ ?hh).mono ?_; case hh => (simp only [hpD, hpA, Array.getElem?_push, Array.size_push]; simp [Nat.add_assoc])) | (with_reducible refine (C2.out _ _ _ ?hh).mono ?_; case hh => (simp only [hpD, hpA, Array.getElem?_push, Array.size_push]; simp [Nat.add_assoc])) | fail); rintro e w' ⟨rfl, rfl⟩)
    all_goals (go_wp2_with fail; go_meet; refine ⟨_, rfl, Hid.mk' ?_, Hid.mk' ?_, Hid.mk' (below3 _ _ _ _)⟩)
    all_goals first | omega | (simp only [hpD, hpA, Array.getElem?_push, Array.size_push]; simp [Nat.add_assoc]; done) | fail
  obtain ⟨g, rfl, hg, hh, hb⟩ := hcut
  have hgl := (Array.getElem?_eq_some_iff.1 hh.out).1
  have b0 := HB.out.below hb.out 0 _ rfl
  have b1 := HB.out.below hb.out 1 _ rfl
  have b2 := HB.out.below hb.out 2 _ rfl
  have b3 := HB.out.below hb.out 3 _ rfl
  have hK : Hid (KeyAt (wc.alloc (.cells #[u8v 8317987319222330741, u8v 7237128888997146477, u8v 7816392313619706465, u8v 8387220255154660723] 49)) wc.heap.size (stp k0 k1 0)) := heap_alloc_new _ _
  have hA : Hid (Below wc.heap.size wc (wc.alloc (.cells #[u8v 8317987319222330741, u8v 7237128888997146477, u8v 7816392313619706465, u8v 8387220255154660723] 49))) := (Below.refl _ _).alloc (Nat.le_refl _) _
  have hle : Hid (w.heap.size ≤ wc.heap.size) := hb.out.size
  go_wp2
  go_loopw [6, 23] (fun i6 iv wr => ∃ k : Nat, k ≤ 4 ∧ iv = nu k ∧ Hid (KeyAt wr wc.heap.size (stp k0 k1 k)) ∧ Hid (Below wc.heap.size wc wr)) (fun _ iv _ => 4 - (intOf iv).toNat)
  case atStart => exact ⟨0, by omega, rfl, hK, hA⟩
  case round =>
    clear b0 b1 b2 b3
    obtain ⟨k, hk, rfl, hKr, hbr⟩ := hrel
    by_cases hq : k < 4
    · obtain ⟨c0, c1, c2, c3⟩ := hKr.out.cells
      have hf := hKr.out.free
      obtain ⟨e0, e1⟩ := two_cells (g := g) (k0 := k0) (k1 := k1) (by rw [hbr.out.block g hgl]; exact hh.out)
      obtain rfl | rfl | rfl | rfl : k = 0 ∨ k = 1 ∨ k = 2 ∨ k = 3 := by omega
      all_goals simp only [Int.cast_ofNat_Int, stp] at *
      · have hN : Hid (KeyAt (wr.setCell ⟨wc.heap.size, 0, none⟩ (.int .u64 (bits .xor .u64 8317987319222330741 k0))).drew wc.heap.size (stp k0 k1 1)) := heap_setCell_same _ wc.heap.size 0 _ _ _ hKr.out
        have hM : Hid (Below wc.heap.size wc (wr.setCell ⟨wc.heap.size, 0, none⟩ (.int .u64 (bits .xor .u64 8317987319222330741 k0))).drew) := (hbr.out.setCell (p := ⟨wc.heap.size, 0, none⟩) (Nat.le_refl _) _).drew
        go_wp2_with fail
        go_region
        go_wp2
        go_roundw
        case rel => exact ⟨1, by omega, by go_num, hN, hM⟩
        case measure => simp [intOf]
      · have hN : Hid (KeyAt (wr.setCell ⟨wc.heap.size, 1, none⟩ (.int .u64 (bits .xor .u64 7237128888997146477 k1))).drew wc.heap.size (stp k0 k1 2)) := heap_setCell_same _ wc.heap.size 1 _ _ _ hKr.out
        have hM : Hid (Below wc.heap.size wc (wr.setCell ⟨wc.heap.size, 1, none⟩ (.int .u64 (bits .xor .u64 7237128888997146477 k1))).drew) := (hbr.out.setCell (p := ⟨wc.heap.size, 1, none⟩) (Nat.le_refl _) _).drew
        go_wp2_with fail
        go_region
        go_wp2
        go_roundw
        case rel => exact ⟨2, by omega, by go_num, hN, hM⟩
        case measure => simp [intOf]
      · have hN : Hid (KeyAt (wr.setCell ⟨wc.heap.size, 2, none⟩ (.int .u64 (bits .xor .u64 7816392313619706465 k0))).drew wc.heap.size (stp k0 k1 3)) := heap_setCell_same _ wc.heap.size 2 _ _ _ hKr.out
        have hM : Hid (Below wc.heap.size wc (wr.setCell ⟨wc.heap.size, 2, none⟩ (.int .u64 (bits .xor .u64 7816392313619706465 k0))).drew) := (hbr.out.setCell (p := ⟨wc.heap.size, 2, none⟩) (Nat.le_refl _) _).drew
        go_wp2_with fail
        go_region
        go_wp2
        go_roundw
        case rel => exact ⟨3, by omega, by go_num, hN, hM⟩
        case measure => simp [intOf]
      · have hN : Hid (KeyAt (wr.setCell ⟨wc.heap.size, 3, none⟩ (.int .u64 (bits .xor .u64 8387220255154660723 k1))).drew wc.heap.size (stp k0 k1 4)) := heap_setCell_same _ wc.heap.size 3 _ _ _ hKr.out
        have hM : Hid (Below wc.heap.size wc (wr.setCell ⟨wc.heap.size, 3, none⟩ (.int .u64 (bits .xor .u64 8387220255154660723 k1))).drew) := (hbr.out.setCell (p := ⟨wc.heap.size, 3, none⟩) (Nat.le_refl _) _).drew
        go_wp2_with fail
        go_region
        go_wp2
        go_roundw
        case rel => exact ⟨4, by omega, by go_num, hN, hM⟩
        case measure => simp [intOf]
    · obtain rfl : k = 4 := by omega
      simp only [Int.cast_ofNat_Int]
      go_wp2
      go_ret2
      exact ⟨_, rfl, hle.out, hKr.out, hb.out.trans (hbr.out.mono hle.out)⟩
end Tg
end Go.Proofs.YtfflmpmhacfijaaDoor
