/- The program's reader: how it lies in memory, what goes ahead of it, and how that gives up. -/
import Derived.Test.YtnllplholfhbdaaDoorPutP10
import Derived.Test.YtnllplholfhbdaaDoorShelf
import Derived.Defers
import Derived.Recover
namespace Go.Proofs.YtnllplholfhbdaaDoor
set_option linter.ambiguousOpen false
open Go.RowKit
namespace Pk
namespace Pp
open Sm Ft
set_option linter.unusedSimpArgs false
set_option linter.unusedVariables false

/-- A reader of the program: a text, what is left. -/
structure Rd (w : World) (p : Nat) (l : List UInt8) : Prop where
  blk : w.heap[p]? = some (.cells #[.string (tx l)] 118)
  sz : l.length ≤ 140737488351232

def RR (w : World) (p : Nat) (F : Nat → Prop) (l : List UInt8) : Prop := Rd w p l ∧ F = fun k => k = p

theorem Rd.keep {G : Nat → Prop} {w w' : World} {p : Nat} {l : List UInt8} (h : Rd w p l) (hk : Keep G w w') (hn : ¬ G p) : Rd w' p l := ⟨hk.at h.blk hn, h.sz⟩

theorem Rd.below {w w' : World} {p : Nat} {l : List UInt8} (h : Rd w p l) (hb : Below w.heap.size w w') : Rd w' p l := h.keep (Keep.of_below (F := fun _ => False) hb) (fun h => h)

theorem Rd.lt {w : World} {p : Nat} {l : List UInt8} (h : Rd w p l) : p < w.heap.size := (Array.getElem?_eq_some_iff.1 h.blk).1

theorem Rd.cells {w : World} {p : Nat} {l : List UInt8} (h : Rd w p l) : w.cell? ⟨p, 0, none⟩ = some (.string (tx l)) ∧ w.frozen? ⟨p, 0, none⟩ = false := by
  simp [World.cell?, World.frozen?, h.blk]

theorem Rd.set {w : World} {p : Nat} {l m : List UInt8} (h : Rd w p l) (hm : m.length ≤ l.length) : Rd (w.setCell ⟨p, 0, none⟩ (.string (tx m))) p m ∧ Keep (fun k => k = p) w (w.setCell ⟨p, 0, none⟩ (.string (tx m))) :=
  ⟨⟨heap_setCell_same _ p 0 _ _ _ h.blk, Nat.le_trans hm h.sz⟩, (Keep.refl (fun i => i = p) w).setCell (p := ⟨p, 0, none⟩) (.inl rfl) _⟩

/-- What goes ahead of a reader: what is left, and why it gave up. -/
structure Tk (w : World) (q : Nat) (l : List UInt8) (y : Int) : Prop where
  blk : w.heap[q]? = some (.cells #[.string (tx l), .int .i64 y] 145)
  sz : l.length ≤ 140737488351232

theorem Tk.keep {G : Nat → Prop} {w w' : World} {p : Nat} {l : List UInt8} {y : Int} (h : Tk w p l y) (hk : Keep G w w') (hn : ¬ G p) : Tk w' p l y := ⟨hk.at h.blk hn, h.sz⟩

theorem Tk.below {w w' : World} {p : Nat} {l : List UInt8} {y : Int} (h : Tk w p l y) (hb : Below w.heap.size w w') : Tk w' p l y := h.keep (Keep.of_below (F := fun _ => False) hb) (fun h => h)

theorem Tk.lt {w : World} {p : Nat} {l : List UInt8} {y : Int} (h : Tk w p l y) : p < w.heap.size := (Array.getElem?_eq_some_iff.1 h.blk).1

theorem Tk.cells {w : World} {p : Nat} {l : List UInt8} {y : Int} (h : Tk w p l y) : w.cell? ⟨p, 0, none⟩ = some (.string (tx l)) ∧ w.cell? ⟨p, 1, none⟩ = some (.int .i64 y) ∧ w.frozen? ⟨p, 0, none⟩ = false ∧ w.frozen? ⟨p, 1, none⟩ = false := by
  simp [World.cell?, World.frozen?, h.blk]

theorem Tk.left {w : World} {p : Nat} {l m : List UInt8} {y : Int} (h : Tk w p l y) (hm : m.length ≤ l.length) : Tk (w.setCell ⟨p, 0, none⟩ (.string (tx m))) p m y ∧ Keep (fun k => k = p) w (w.setCell ⟨p, 0, none⟩ (.string (tx m))) :=
  ⟨⟨heap_setCell_same _ p 0 _ _ _ h.blk, Nat.le_trans hm h.sz⟩, (Keep.refl (fun i => i = p) w).setCell (p := ⟨p, 0, none⟩) (.inl rfl) _⟩

theorem Tk.why {w : World} {p : Nat} {l : List UInt8} {y : Int} (h : Tk w p l y) (z : Int) : Tk (w.setCell ⟨p, 1, none⟩ (.int .i64 z)) p l z ∧ Keep (fun k => k = p) w (w.setCell ⟨p, 1, none⟩ (.int .i64 z)) :=
  ⟨⟨heap_setCell_same _ p 1 _ _ _ h.blk, h.sz⟩, (Keep.refl (fun i => i = p) w).setCell (p := ⟨p, 1, none⟩) (.inl rfl) _⟩

/-- A panic with an error's number. -/
@[reducible] def pan (n : Int) : Ending := .panicked [{ v := .iface 60 (.int .i64 n), recovered := false }]

theorem keep_dn {F : Nat → Prop} {w w' : World} (h : Keep F w w') (n : Nat) : Keep F w (w'.drewN n) := ⟨h.os, h.tape, h.output, h.size, h.block⟩

theorem keep_below {F : Nat → Prop} {w a b : World} (h : Keep F w a) (k : Below a.heap.size a b) : Keep F w b := h.trans (Keep.of_below (F := fun _ => False) k) (fun _ _ hf => hf.elim)

theorem one_cell {w : World} {g : Nat} {v : Value} {t : TypeId} (h : w.heap[g]? = some (.cells #[v] t)) : w.cell? ⟨g, 0, none⟩ = some v ∧ w.frozen? ⟨g, 0, none⟩ = false := by simp [World.cell?, World.frozen?, h]

theorem cut_toU (l : List UInt8) (k : Nat) (h : k ≤ l.length) (w : World) : (Instr.slice 9 (.string (tx l)) none (some (.int .u64 (k : Int))) none).run Tryd.prog w = .ok (.string (tx (l.take k))) w := by
  have hu := Tryd.underlying9
  have hs : (tx l).size = l.length := rfl
  have h1 : (0 : Int) ≤ (k : Int) ∧ (k : Int) ≤ (l.length : Int) := by omega
  simp [Instr.slice, Instr.sliceBounds, Instr.sliceBound, asIntOf, run_underlying hu, hs]
  rw [if_pos h, tx_take]

theorem cut_fromU (l : List UInt8) (k : Nat) (h : k ≤ l.length) (w : World) : (Instr.slice 9 (.string (tx l)) (some (.int .u64 (k : Int))) none none).run Tryd.prog w = .ok (.string (tx (l.drop k))) w := by
  have hu := Tryd.underlying9
  have hs : (tx l).size = l.length := rfl
  have h1 : (0 : Int) ≤ (k : Int) ∧ (k : Int) ≤ (l.length : Int) := by omega
  simp [Instr.slice, Instr.sliceBounds, Instr.sliceBound, asIntOf, run_underlying hu, hs]
  rw [if_pos h, tx_drop]

theorem giveUp_any (w : World) (q : Nat) (l : List UInt8) (y z : Int) (h : Tk w q l y) :
    Calls Tryd.prog 70 #[ptr q, .int .i64 z] w fun e w' => e = pan z ∧ Tk w' q l z ∧ Keep (fun k => k = q) w w' := by
  obtain ⟨q0, q1, f0, f1⟩ := h.cells
  obtain ⟨hT, hK⟩ := h.why z
  have HT := Hid.mk' hT
  have HK := Hid.mk' hK
  clear hT hK h
  go_enter Tryd.func70, Tryd.ntmps70
  go_wp2
  exact ⟨rfl, rfl, HT.out, HK.out⟩

theorem next_no (w : World) (q : Nat) (l : List UInt8) (y : Int) (n : Nat) (h : Tk w q l y) (hn : l.length < n) (hn64 : n < 18446744073709551616) :
    Calls Tryd.prog 69 #[ptr q, u6 n] w fun e w' => e = pan 2 ∧ Tk w' q l 2 ∧ Keep (fun k => k = q) w w' := by
  obtain ⟨q0, q1, f0, f1⟩ := h.cells
  have C := Hid.mk' (giveUp_any w q l y 2 h)
  have hs : (tx l).size = l.length := rfl
  have hsz := h.sz
  have hlt : (l.length : Int) < (n : Int) := by omega
  clear h
  obtain ⟨f, hf⟩ : ∃ f, tx l = f := ⟨_, rfl⟩
  rw [hf] at q0 hs
  clear hf
  go_enter Tryd.func69, Tryd.ntmps69
  go_wp2_with fail
  refine C.out.mono ?_
  rintro e w3 ⟨rfl, hT, hK⟩
  have HT := Hid.mk' hT
  have HK := Hid.mk' hK
  clear hT hK C q0 q1 f0 f1
  go_wp2
  exact ⟨rfl, rfl, HT.out, HK.out⟩

theorem next_yes (w : World) (q : Nat) (l : List UInt8) (y : Int) (n : Nat) (h : Tk w q l y) (hn : n ≤ l.length) :
    Calls Tryd.prog 69 #[ptr q, u6 n] w fun e w' => e = .returned (.string (tx (l.take n))) ∧ Tk w' q (l.drop n) y ∧ Keep (fun k => k = q) w w' := by
  obtain ⟨q0, q1, f0, f1⟩ := h.cells
  obtain ⟨hT, hK⟩ := h.left (m := l.drop n) (by simp)
  have HT := Hid.mk' hT
  have HK := Hid.mk' hK
  have s1 := fun wx => cut_toU l n hn wx
  have s2 := fun wx => cut_fromU l n hn wx
  have hs : (tx l).size = l.length := rfl
  have hsz := h.sz
  have hlt : ¬ (l.length : Int) < (n : Int) := by omega
  clear hT hK h
  obtain ⟨f, hf⟩ : ∃ f, tx l = f := ⟨_, rfl⟩
  obtain ⟨f1', hf1⟩ : ∃ f, tx (l.take n) = f := ⟨_, rfl⟩
  obtain ⟨f2', hf2⟩ : ∃ f, tx (l.drop n) = f := ⟨_, rfl⟩
  rw [hf] at q0 hs
  rw [hf2] at HK HT
  rw [hf1]
  simp only [hf, hf1, hf2] at s1 s2
  clear hf hf1
  go_enter Tryd.func69, Tryd.ntmps69
  go_wp2
  go_ret
  exact ⟨rfl, HT.out, HK.out⟩

theorem index_one (x : UInt8) (w : World) : (Instr.index 9 (.string (tx [x])) (.int .i64 0)).run Tryd.prog w = .ok (.int .u8 (x.toNat : Int)) w := by
  have h : (tx [x])[0]? = some x := rfl
  simp [Instr.index, run_underlying Tryd.underlying9, asIntOf, h]

/-- What a number ahead leaves: the number and the bytes behind it, or a panic with its error's number, which is also why it gave up. -/
def Out (w w' : World) (q : Nat) (l : List UInt8) (y : Int) (e : Ending) : Prop :=
  Keep (fun i => i = q) w w' ∧ (((num l).2.2 = 0 ∧ e = .returned (.int .u64 ((num l).1 : Int)) ∧ Tk w' q (l.drop (num l).2.1) y) ∨ ((num l).2.2 ≠ 0 ∧ e = pan ((num l).2.2 : Int) ∧ ∃ m, Tk w' q m ((num l).2.2 : Int)))

set_option maxRecDepth 100000 in
set_option maxHeartbeats 2000000 in
theorem number_take (w : World) (p : Nat) (all : List UInt8) (y : Int) (h : Tk w p all y) :
    Calls Tryd.prog 66 #[ptr p] w fun e w' => Out w w' p all y e := by
  have cY : Hid (∀ wx j, Tk wx p (all.drop j) y → (hj : j < all.length) → Calls Tryd.prog 69 #[ptr p, .int .u64 1] wx fun e w' => e = .returned (.string (tx [all[j]])) ∧ Tk w' p (all.drop (j + 1)) y ∧ Keep (fun i => i = p) wx w') := fun wx j h hj => by
    have := next_yes wx p (all.drop j) y 1 h (by simp; omega)
    rw [List.drop_drop, List.drop_eq_getElem_cons hj, List.take_succ_cons, List.take_zero] at this
    exact this
  have cN : Hid (∀ wx j, Tk wx p (all.drop j) y → j = all.length → Calls Tryd.prog 69 #[ptr p, .int .u64 1] wx fun e w' => e = pan 2 ∧ Tk w' p (all.drop j) 2 ∧ Keep (fun i => i = p) wx w') := fun wx j h hj => next_no wx p (all.drop j) y 1 h (by simp; omega) (by decide)
  have cG : Hid (∀ wx j, Tk wx p (all.drop j) y → Calls Tryd.prog 70 #[ptr p, .int .i64 4] wx fun e w' => e = pan 4 ∧ Tk w' p (all.drop j) 4 ∧ Keep (fun i => i = p) wx w') := fun wx j h => giveUp_any wx p (all.drop j) y 4 h
  have H := Hid.mk' h
  clear h
  go_enter Tryd.func66, Tryd.ntmps66
  go_wp2
  go_loopw [3, 4] (fun uv iv wr => ∃ i u : Nat, i ≤ 9 ∧ i ≤ all.length ∧ iv = nu i ∧ uv = .int .u64 (u : Int) ∧ Hid (u < 128 ^ i) ∧ Hid (num all = numG (10 - i) i u (all.drop i)) ∧ Hid (Tk wr p (all.drop i) y) ∧ Hid (Keep (fun i => i = p) w wr)) (fun _ iv _ => 10 - (intOf iv).toNat)
  case atStart => exact ⟨0, 0, by omega, by omega, rfl, rfl, (by show 0 < 128 ^ 0; decide), rfl, H, Keep.refl _ _⟩
  case round =>
    obtain ⟨i, u, hi, hil, rfl, rfl, hu, hN, hR, hK⟩ := hrel
    by_cases hend : i = all.length
    · have C := Hid.mk' (cN.out _ _ hR.out hend)
      have hfin : Hid (num all = (0, 0, 2)) := by
        show _ = _
        rw [hN.out, List.drop_of_length_le (by omega), numG_nil _ _ _ (by omega)]
      go_wp2_with fail
      refine C.out.mono ?_
      rintro e w3 ⟨rfl, hT3, hK3⟩
      have HK3 := Hid.mk' (hK.out.trans hK3 (fun _ _ h => h))
      have HT3 := Hid.mk' hT3
      clear hT3 hK3 C
      go_wp2
      exact ⟨rfl, HK3.out, .inr ⟨by rw [hfin.out]; decide, by rw [hfin.out]; rfl, _, by rw [hfin.out]; exact HT3.out⟩⟩
    · have hlt : i < all.length := by omega
      have hx : all[i].toNat < 256 := all[i].toNat_lt
      have C := Hid.mk' (cY.out _ _ hR.out hlt)
      have hN' : Hid (num all = if (i = 9 ∧ 1 < all[i].toNat) ∨ (0 < i ∧ all[i].toNat = 0) then (0, 0, 4) else if all[i].toNat < 128 then (u + all[i].toNat * 128 ^ i, i + 1, 0) else numG (10 - (i + 1)) (i + 1) (u + (all[i].toNat - 128) * 128 ^ i) (all.drop (i + 1))) := by
        show _ = _
        rw [hN.out, List.drop_eq_getElem_cons hlt, numG_cons _ _ _ _ _ (by omega), show 10 - i - 1 = 10 - (i + 1) by omega]
      have hindex := fun wx => index_one all[i] wx
      obtain ⟨f, hf⟩ : ∃ f : ByteArray, tx [all[i]] = f := ⟨_, rfl⟩
      rw [hf] at C
      simp only [hf] at hindex
      clear hf
      generalize all[i].toNat = x at *
      have hrem : (x : Int).tmod 128 = ((x % 128 : Nat) : Int) := by rw [Int.tmod_eq_emod_of_nonneg (by omega)]; omega
      have hi0 : (0 : Int) ≤ (i : Int) := by omega
      go_wp2_with fail
      refine C.out.mono ?_
      rintro e w3 ⟨rfl, hR3, hK3⟩
      have HG := Hid.mk' (cG.out _ _ hR3)
      have HR3 := Hid.mk' hR3
      have HK3 := Hid.mk' (hK.out.trans hK3 (fun _ _ h => h))
      clear hR3 hK3 C
      by_cases hC : (i = 9 ∧ 1 < x) ∨ (0 < i ∧ x = 0)
      · have hfin : Hid (num all = (0, 0, 4)) := by show _ = _; rw [hN'.out, if_pos hC]
        have hcomb : (((x : Int) == 0) = true ∧ (0 : Int) < (i : Int)) ∨ (((x : Int) == 0) = false ∧ (1 : Int) < (x : Int) ∧ ((i : Int) == 9) = true) := by
          simp only [beq_iff_eq, beq_eq_false_iff_ne]
          omega
        clear hC
        rcases hcomb with ⟨e1, e2⟩ | ⟨e1, e2, e3⟩ <;> (
          go_wp2_with fail
          refine HG.out.mono ?_
          rintro e w4 ⟨rfl, hT4, hK4⟩
          have HK4 := Hid.mk' (HK3.out.trans hK4 (fun _ _ h => h))
          have HT4 := Hid.mk' hT4
          clear hT4 hK4 HG
          go_wp2
          exact ⟨rfl, HK4.out, .inr ⟨by rw [hfin.out]; decide, by rw [hfin.out]; rfl, _, by rw [hfin.out]; exact HT4.out⟩⟩)
      · obtain ⟨y', hy⟩ : ∃ y' : Nat, x % 128 = y' := ⟨_, rfl⟩
        rw [hy] at hrem
        have hy128 : y' < 128 := by omega
        have hcomb : (((x : Int) == 0) = true ∧ ¬ (0 : Int) < (i : Int) ∧ ¬ (1 : Int) < (x : Int)) ∨ (((x : Int) == 0) = false ∧ ¬ (1 : Int) < (x : Int)) ∨ (((x : Int) == 0) = false ∧ (1 : Int) < (x : Int) ∧ ((i : Int) == 9) = false) := by
          simp only [beq_iff_eq, beq_eq_false_iff_ne]
          omega
        have hlt2 := seven_lt u y' i hu.out hy128 (by omega) (fun h9 => by omega)
        have hor := Hid.mk' (or_more u y' i hu.out hy128 hlt2.2)
        have hu2 := Hid.mk' hlt2.1
        clear hlt2 HG
        by_cases hl : x < 128
        · have hl' : (x : Int) < 128 := by omega
          have hxy : x = y' := by omega
          have hfin : Hid (num all = (u + y' * 128 ^ i, i + 1, 0)) := by show _ = _; rw [hN'.out, if_neg hC, if_pos hl, ← hxy]
          clear hC hy hxy
          rcases hcomb with ⟨e1, e2, e3⟩ | hcomb
          · have hor0 : Hid (bits .or .u64 (u : Int) (y' : Int) = ((u + y' * 128 ^ i : Nat) : Int)) := by
              show _ = _
              have h1 : i = 0 := by omega
              have h2 := hu.out
              have h3 : x = 0 := by simpa using e1
              subst h1 h3
              have h4 : y' = 0 := by have := hrem; simp at this; omega
              have h5 : u = 0 := by simpa using h2
              subst h4 h5
              rfl
            go_wp2
            go_ret
            exact ⟨HK3.out, .inl ⟨by rw [hfin.out], by rw [hfin.out]; show Ending.returned (.int .u64 (bits .or .u64 (u : Int) (y' : Int))) = _; rw [hor0.out], by rw [hfin.out]; exact HR3.out⟩⟩
          · rcases hcomb with ⟨e1, e2⟩ | ⟨e1, e2, e3⟩ <;> (go_wp2; go_ret; exact ⟨HK3.out, .inl ⟨by rw [hfin.out], by rw [hfin.out]; show Ending.returned (.int .u64 (bits .or .u64 (u : Int) (IntKind.u64.wrap ((y' : Int) * 2 ^ (7 * i))))) = _; rw [hor.out], by rw [hfin.out]; exact HR3.out⟩⟩)
        · have hl' : ¬ (x : Int) < 128 := by omega
          have hxy : x - 128 = y' := by omega
          have hN2 : Hid (num all = numG (10 - (i + 1)) (i + 1) (u + y' * 128 ^ i) (all.drop (i + 1))) := by show _ = _; rw [hN'.out, if_neg hC, if_neg hl, hxy]
          have hi9 : i + 1 ≤ 9 := by omega
          clear hC hy hxy
          rcases hcomb with ⟨e1, e2, e3⟩ | ⟨e1, e2⟩ | ⟨e1, e2, e3⟩
          · omega
          · omega
          · go_wp2
            go_roundw
            case rel => exact ⟨i + 1, u + y' * 128 ^ i, hi9, by omega, by go_num, (by rw [hor.out]), hu2, hN2, HR3, HK3⟩
            case measure => simp [intOf]; omega

theorem clone_s (s : ByteArray) (w : World) (h : s.size ≤ 281474976710656) :
    Calls Tryd.prog 71 #[.string s] w fun e w' => e = .returned (.string s) ∧ Below w.heap.size w w' := by
  go_enter Tryd.func71, Tryd.ntmps71
  go_wp2_with (go_at_call 72; refine (Tryd.stringslite_Clone _ _ h).mono ?_; rintro e w1 ⟨rfl, hb1⟩)
  go_ret
  exact ⟨rfl, hb1⟩

/-- What a text ahead leaves. -/
def OutT (w w' : World) (q : Nat) (l : List UInt8) (m : Nat) (y : Int) (e : Ending) : Prop :=
  Keep (fun i => i = q) w w' ∧ (((taken l m).2.2 = 0 ∧ e = .returned (.string (tx (taken l m).1)) ∧ Tk w' q (l.drop (taken l m).2.1) y) ∨ ((taken l m).2.2 ≠ 0 ∧ e = pan ((taken l m).2.2 : Int) ∧ ∃ r, Tk w' q r ((taken l m).2.2 : Int)))

set_option maxRecDepth 100000 in
theorem text_take (w : World) (p : Nat) (l : List UInt8) (y : Int) (m : Nat) (h : Tk w p l y) (hm : m < 18446744073709551616) :
    Calls Tryd.prog 68 #[ptr p, u6 m] w fun e w' => OutT w w' p l m y e := by
  have C := Hid.mk' (number_take w p l y h)
  have hsz := Hid.mk' h.sz
  obtain ⟨v, n, no, hn⟩ : ∃ v n no, num l = (v, n, no) := ⟨_, _, _, rfl⟩
  have hv : no = 0 → v < 18446744073709551616 ∧ n ≤ l.length := fun h0 => by
    subst h0
    obtain ⟨a, _, b, _⟩ := num_back l v n hn
    exact ⟨a, b⟩
  have HV := Hid.mk' hv
  have hT : Hid (taken l m = if no ≠ 0 then ([], 0, no) else if m < v then ([], 0, 3) else if l.length - n < v then ([], 0, 2) else ((l.drop n).take v, n + v, 0)) := by
    show _ = _
    unfold taken
    rw [hn]
  have HN := Hid.mk' hn
  clear h hv hn
  go_enter Tryd.func68, Tryd.ntmps68
  go_wp2_with fail
  refine C.out.mono ?_
  rintro e w1 ⟨hK1, hO1⟩
  rw [HN.out] at hO1
  have HK1 := Hid.mk' hK1
  clear hK1 C
  rcases hO1 with ⟨h0, rfl, hT1⟩ | ⟨h0, rfl, r, hT1⟩
  · simp only at h0 hT1
    have hTk := Hid.mk' hT1
    have hvn := HV.out h0
    clear hT1
    have hv64 : v < 18446744073709551616 := hvn.1
    have hnl : n ≤ l.length := hvn.2
    have hT2 : Hid (taken l m = if m < v then ([], 0, 3) else if l.length - n < v then ([], 0, 2) else ((l.drop n).take v, n + v, 0)) := by
      show _ = _
      rw [hT.out, if_neg (by omega)]
    clear hT hvn HV
    by_cases hmv : m < v
    · have hmv' : (m : Int) < (v : Int) := by omega
      have hfin : Hid (taken l m = ([], 0, 3)) := by show _ = _; rw [hT2.out, if_pos hmv]
      have CG := Hid.mk' (giveUp_any w1 p _ y 3 hTk.out)
      go_wp2_with fail
      refine CG.out.mono ?_
      rintro e w2 ⟨rfl, hT3, hK3⟩
      have HT3 := Hid.mk' hT3
      have HK3 := Hid.mk' (HK1.out.trans hK3 (fun _ _ h => h))
      clear hT3 hK3 CG
      go_wp2
      exact ⟨rfl, HK3.out, .inr ⟨by rw [hfin.out]; decide, by rw [hfin.out]; rfl, _, by rw [hfin.out]; exact HT3.out⟩⟩
    · have hmv' : ¬ (m : Int) < (v : Int) := by omega
      by_cases hs : l.length - n < v
      · have hfin : Hid (taken l m = ([], 0, 2)) := by show _ = _; rw [hT2.out, if_neg hmv, if_pos hs]
        have CX := Hid.mk' (next_no w1 p _ y v hTk.out (by simp; omega) hv64)
        go_wp2_with fail
        refine CX.out.mono ?_
        rintro e w2 ⟨rfl, hT3, hK3⟩
        have HT3 := Hid.mk' hT3
        have HK3 := Hid.mk' (HK1.out.trans hK3 (fun _ _ h => h))
        clear hT3 hK3 CX
        go_wp2
        exact ⟨rfl, HK3.out, .inr ⟨by rw [hfin.out]; decide, by rw [hfin.out]; rfl, _, by rw [hfin.out]; exact HT3.out⟩⟩
      · have hfin : Hid (taken l m = ((l.drop n).take v, n + v, 0)) := by show _ = _; rw [hT2.out, if_neg hmv, if_neg hs]
        have CX := Hid.mk' (next_yes w1 p _ y v hTk.out (by simp; omega))
        have hlen : (tx ((l.drop n).take v)).size ≤ 281474976710656 := by
          show ((l.drop n).take v).length ≤ _
          have := hsz.out
          simp
          omega
        have CC : Hid (∀ wx, Calls Tryd.prog 71 #[.string (tx ((l.drop n).take v))] wx fun e w' => e = .returned (.string (tx ((l.drop n).take v))) ∧ Below wx.heap.size wx w') := fun wx => clone_s _ _ hlen
        clear hlen
        obtain ⟨f, hf⟩ : ∃ f, tx ((l.drop n).take v) = f := ⟨_, rfl⟩
        rw [hf] at CX CC
        have HF := Hid.mk' hf
        clear hf
        go_wp2_with fail
        refine CX.out.mono ?_
        rintro e w2 ⟨rfl, hT3, hK3⟩
        have HT3 := Hid.mk' hT3
        have HK3 := Hid.mk' (HK1.out.trans hK3 (fun _ _ h => h))
        clear hT3 hK3 CX
        go_wp2_with fail
        refine (CC.out _).mono ?_
        rintro e w3 ⟨rfl, hb4⟩
        have HT4 := Hid.mk' (HT3.out.below hb4)
        have HK4 := Hid.mk' (keep_below HK3.out hb4)
        clear hb4 CC
        go_wp2
        go_ret
        exact ⟨HK4.out, .inl ⟨by rw [hfin.out], by rw [hfin.out, HF.out]; rfl, by rw [hfin.out]; have := HT4.out; rw [List.drop_drop] at this; exact this⟩⟩
  · simp only at h0 hT1
    have hfin : Hid (taken l m = ([], 0, no)) := by show _ = _; rw [hT.out, if_pos h0]
    have HT1 := Hid.mk' hT1
    have H0 := Hid.mk' h0
    clear hT1 h0
    go_wp2
    exact ⟨rfl, HK1.out, .inr ⟨by rw [hfin.out]; exact H0.out, by rw [hfin.out], _, by rw [hfin.out]; exact HT1.out⟩⟩
end Pp
end Pk
end Go.Proofs.YtnllplholfhbdaaDoor
