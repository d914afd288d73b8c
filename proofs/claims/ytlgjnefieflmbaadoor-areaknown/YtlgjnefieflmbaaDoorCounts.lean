/- What counts on: New, Add, Value, and Of. -/
import Derived.Test.YtlgjnefieflmbaaDoorRegs
namespace Go.Proofs.YtlgjnefieflmbaaDoor
set_option linter.ambiguousOpen false
open Go.RowKit
namespace Sm
set_option linter.unusedSimpArgs false
set_option linter.unusedVariables false

/-- In the block g lies a sum, its register r. -/
def Rg (w : World) (g r : Nat) : Prop := w.heap[g]? = some (.cells #[u4 r] 141 (0, 0))

theorem Rg.cell {w : World} {g r : Nat} (h : Rg w g r) : w.cell? ⟨g, 0, none⟩ = some (u4 r) := by
  simp [World.cell?, show w.heap[g]? = _ from h]

theorem Rg.lt {w : World} {g r : Nat} (h : Rg w g r) : g < w.heap.size := (Array.getElem?_eq_some_iff.1 (show w.heap[g]? = _ from h)).1

theorem Rg.free {w : World} {g r : Nat} (h : Rg w g r) : w.frozen? ⟨g, 0, none⟩ = false := frozen_of_row w g 0 _ _ h

theorem Rg.set {w : World} {g r : Nat} (h : Rg w g r) (s : Nat) : Rg (w.setCell ⟨g, 0, none⟩ (u4 s)) g s := heap_setCell_same w g 0 _ _ (u4 s) h

/-- All blocks but g are as they were. -/
structure Only (g : Nat) (w w' : World) : Prop where
  os : w'.os = w.os
  tape : w'.tape = w.tape
  output : w'.output = w.output
  size : w.heap.size ≤ w'.heap.size
  block : ∀ k, k < w.heap.size → k ≠ g → w'.heap[k]? = w.heap[k]?

theorem Only.refl (g : Nat) (w : World) : Only g w w := ⟨rfl, rfl, rfl, Nat.le_refl _, fun _ _ _ => rfl⟩

theorem Only.set {g : Nat} {w w' : World} (h : Only g w w') (v : Value) : Only g w (w'.setCell ⟨g, 0, none⟩ v) :=
  ⟨h.os, h.tape, h.output, by simpa [World.setCell] using h.size, fun k hk hg => (heap_setCell_other w' ⟨g, 0, none⟩ k v hg).trans (h.block k hk hg)⟩

theorem Only.below {g n : Nat} {w w' : World} (h : Only g w w') (hn : n ≤ g) (hw : n ≤ w.heap.size) : Below n w w' :=
  ⟨h.os, h.tape, h.output, h.size, fun k hk => h.block k (by omega) (by omega)⟩

theorem Only.cell {g : Nat} {w w' : World} (h : Only g w w') (p : Addr) (hp : p.block < w.heap.size) (hg : p.block ≠ g) : w'.cell? p = w.cell? p := by
  unfold World.cell?
  rw [h.block p.block hp hg]

theorem Only.row {g : Nat} {w w' : World} {v : Value} {l : List UInt8} (h : Only g w w') (hR : RdB w v l) (hg : 0 < l.length → v.ownBlock ≠ some g) : RdB w' v l := by
  obtain ⟨a, cap, rfl, h2, h3, h4⟩ := hR
  refine ⟨a, cap, rfl, h2, h3, fun h0 => ?_⟩
  obtain ⟨b, o, rfl, e2, e3⟩ := h4 h0
  exact ⟨b, o, rfl, Nat.lt_of_lt_of_le e2 h.size, fun j hj => (h.cell ⟨b, o + j, none⟩ e2 (fun e => hg h0 (by simpa [Value.ownBlock] using e))).trans (e3 j hj)⟩

theorem new_any (w : World) : Calls Tryd.prog 79 #[] w fun e w' => e = .returned (.pointer (some ⟨w.heap.size, 0, none⟩)) ∧ w' = w.alloc (.cells #[u4 4294967295] 141) := by
  go_enter Tryd.func79, Tryd.ntmps79
  go_wp2
  go_ret
  exact ⟨rfl, rfl⟩

theorem value_any (g r : Nat) (w : World) (hr : r < 4294967296) (h : Rg w g r) :
    Calls Tryd.prog 81 #[.pointer (some ⟨g, 0, none⟩)] w fun e w' => e = .returned (u4 (4294967295 - r)) ∧ w' = w := by
  have hc := h.cell
  have hn := not_u4 r hr
  go_enter Tryd.func81, Tryd.ntmps81
  go_wp2
  go_ret
  exact ⟨ret_u4 (by first | exact hn | rfl), rfl⟩

set_option maxHeartbeats 1000000 in
theorem add_any (g r : Nat) (v : Value) (l : List UInt8) (w : World) (hr : r < 4294967296) (h : Rg w g r) (hR : RdB w v l) (hg : 0 < l.length → v.ownBlock ≠ some g) :
    Calls Tryd.prog 80 #[.pointer (some ⟨g, 0, none⟩), v] w fun e w' => e = .returned (.tuple #[]) ∧ Rg w' g (reg r l) ∧ Only g w w' := by
  have HR : Hid (∀ w', Only g w w' → RdB w' v l) := fun w' ho => ho.row hR hg
  obtain ⟨a, cap, rfl, hc, hm, hcell⟩ := hR
  unfold maxLen at hm
  have HC : Hid (0 < l.length → ∃ b o, a = some ⟨b, o, none⟩ ∧ b ≠ g ∧ b < w.heap.size ∧ ∀ j (hj : j < l.length), w.cell? ⟨b, o + j, none⟩ = some (by1 l[j])) := fun h0 => by
    obtain ⟨b, o, rfl, e2, e3⟩ := hcell h0
    exact ⟨b, o, rfl, fun e => hg h0 (by simpa [Value.ownBlock] using e), e2, e3⟩
  clear hcell hg HR
  go_enter Tryd.func80, Tryd.ntmps80
  go_wp2
  go_loopw [8] (fun i wr => ∃ k : Nat, k ≤ l.length ∧ i = nu k ∧ Rg wr g (reg r (l.take k)) ∧ Only g w wr) (fun i _ => l.length - (intOf i).toNat)
  case atStart => exact ⟨0, by omega, rfl, h, Only.refl _ _⟩
  case round =>
    obtain ⟨k, hk, rfl, hrg, hon⟩ := hrel
    by_cases hq : k < l.length
    · obtain ⟨b, o, rfl, hbg, hbl, hx⟩ := HC.out (by omega)
      have hcx : wr.cell? ⟨b, o + k, none⟩ = some (by1 l[k]) := (hon.cell ⟨b, o + k, none⟩ hbl hbg).trans (hx k hq)
      have hl1 := reg_lt (l.take k) r hr
      have hd' : Hid (nx (reg r (l.take k)) l[k] = reg r (l.take (k + 1))) := (reg_take l r k hq).symm
      clear HC hx
      generalize l[k] = x at *
      generalize reg r (l.take k) = s at *
      have c := behind_any s x ⟨g, 0, none⟩ wr hl1 hrg.cell
      have hp := hrg.cell
      have hf := hrg.free
      have hrg2 := hrg.set (nx s x)
      have hon2 := hon.set (u4 (nx s x))
      generalize nx s x = m at *
      have HG : Hid (Rg (wr.setCell ⟨g, 0, none⟩ (u4 m)) g m) := hrg2
      have HN : Hid (Only g w (wr.setCell ⟨g, 0, none⟩ (u4 m))) := hon2
      clear hrg2 hon2 hon hrg
      go_wp2_with fail
      refine c.mono ?_
      rintro e w3 ⟨rfl, hq3⟩
      subst w3
      go_wp2
      go_roundw
      case rel => exact ⟨k + 1, by omega, by go_num, (by rw [← hd'.out]; exact HG.out), HN.out⟩
      case measure => simp [intOf]; omega
    · obtain rfl : k = l.length := by omega
      rw [List.take_length] at hrg
      go_wp2
      go_end0
      exact ⟨rfl, hrg, hon⟩

set_option maxHeartbeats 1000000 in
theorem of_any (v : Value) (l : List UInt8) (w : World) (hR : RdB w v l) :
    Calls Tryd.prog 71 #[v] w fun e w' => e = .returned (u4 (crc l)) ∧ Below w.heap.size w w' := by
  have c1 := new_any w
  have hrg : Rg (w.alloc (.cells #[u4 4294967295] 141)) w.heap.size 4294967295 := heap_alloc_new w _
  have hb1 : Below w.heap.size w (w.alloc (.cells #[u4 4294967295] 141)) := (Below.refl _ _).alloc (Nat.le_refl _) _
  have hne : 0 < l.length → v.ownBlock ≠ some w.heap.size := fun h0 e => by
    obtain ⟨a, cap, rfl, _, _, h4⟩ := hR
    obtain ⟨b, o, rfl, e2, _⟩ := h4 h0
    have : b = w.heap.size := by simpa [Value.ownBlock] using e
    omega
  have c2 := add_any w.heap.size 4294967295 v l _ (by decide) hrg (hR.below hb1) hne
  have hlt := reg_lt l 4294967295 (by decide)
  have hcr : Hid (4294967295 - reg 4294967295 l = crc l) := rfl
  generalize reg 4294967295 l = r at *
  generalize HW : w.alloc (.cells #[u4 4294967295] 141) = w1 at *
  clear HW
  go_enter Tryd.func71, Tryd.ntmps71
  go_wp2_with fail
  refine c1.mono ?_
  rintro e w2 ⟨rfl, hq⟩
  subst w2
  go_wp2_with fail
  refine c2.mono ?_
  rintro e w3 ⟨rfl, hrg3, hon⟩
  have hb3 : Below w.heap.size w w3 := hb1.trans (hon.below (Nat.le_refl _) hb1.size)
  have c3 := value_any w.heap.size r w3 hlt hrg3
  go_wp2_with fail
  refine c3.mono ?_
  rintro e w4 ⟨rfl, hq⟩
  subst w4
  go_wp2
  go_ret
  exact ⟨by rw [← hcr.out]; rfl, hb3⟩
end Sm
end Go.Proofs.YtlgjnefieflmbaaDoor
