/- The keyed sum of a row of bytes, by the program. -/
import Derived.Test.YtfflmpmhacfijaaDoorNew
namespace Go.Proofs.YtfflmpmhacfijaaDoor
set_option linter.ambiguousOpen false
open Go.RowKit
namespace Tg
open Sm
set_option linter.unusedSimpArgs false
set_option linter.unusedVariables false

/-- The last word. -/
def lastW (n : Int) (l : List UInt8) : Int := bits .or .u64 (lowK l l.length) (IntKind.u64.wrap (n * 72057594037927936))

/-- The sum of what is left, n bytes being there. -/
def goes (n : Int) (v : V4) (l : List UInt8) : Int :=
  if h : 8 ≤ l.length then goes n (wth v (lowK (l.take 8) 8)) (l.drop 8) else fin (wth v (lastW n l))
termination_by l.length
decreasing_by rw [List.length_drop]; omega

theorem goes_long (n : Int) (v : V4) (l : List UInt8) (h : 8 ≤ l.length) : goes n v l = goes n (wth v (lowK (l.take 8) 8)) (l.drop 8) := by
  rw [goes, dif_pos h]

theorem goes_short (n : Int) (v : V4) (l : List UInt8) (h : l.length < 8) : goes n v l = fin (wth v (lastW n l)) := by
  rw [goes, dif_neg (by omega)]

/-- How long a slice is. -/
def lnV : Value → Nat
  | .slice _ n _ => n
  | _ => 0

theorem Lies.below' {w wx w' : World} {g : Nat} {v : V4} (h : Lies w g v) (hb : Below wx.heap.size wx w') (e : wx.heap = w.heap) : Lies w' g v := Lies.below (w := wx) (by unfold Lies at *; rw [e]; exact h) hb

theorem below_more {w wr wx w' : World} (h : Below w.heap.size w wr) (hb : Below wx.heap.size wx w') (e : wx.heap = wr.heap) (e1 : wx.os = wr.os) (e2 : wx.tape = wr.tape) (e3 : wx.output = wr.output) : Below w.heap.size w w' := by
  have h2 : Below w.heap.size w wx := ⟨e1.trans h.os, e2.trans h.tape, e3.trans h.output, by rw [e]; exact h.size, fun k hk => by rw [e]; exact h.block k hk⟩
  exact h2.trans (hb.mono h2.size)

set_option maxHeartbeats 2000000 in
theorem keySum_any (kv : V4) (gk : Nat) (b : Value) (l : List UInt8) (w : World) (hK : KeyAt w gk kv) (hR : RdB w b l) :
    Calls Tryd.prog 10 #[.pointer (some ⟨gk, 0, none⟩), b] w fun e w' => e = .returned (u8v (goes l.length kv l)) ∧ Below w.heap.size w w' := by
  have cO : Hid (∀ (v : Value) (l : List UInt8) (w : World), RdB w v l → l.length ≤ 8 → Calls Tryd.prog 19 #[v] w fun e w' => e = .returned (.int .u64 (lowK l l.length)) ∧ w' = w) := word_any
  have cW : Hid (∀ (v : V4) (m : Int) (w : World), Calls Tryd.prog 23 #[st v, u8v m] w fun e w' => e = .returned (st (wth v m)) ∧ Below w.heap.size w w') := with_any
  have cS : Hid (∀ (v : V4) (w : World), Calls Tryd.prog 24 #[st v] w fun e w' => e = .returned (u8v (fin v)) ∧ Below w.heap.size w w') := sum_any
  obtain ⟨x0, x1, x2, x3⟩ := hK.cells
  obtain ⟨a, cap, rfl, hc, hm, hcell⟩ := hR
  have HR : Hid (RdB w (.slice a l.length cap) l) := ⟨a, cap, rfl, hc, hm, hcell⟩
  have hL : Hid (Lies (w.alloc (.cells #[u8v kv.a, u8v kv.b, u8v kv.c, u8v kv.d] 47)) w.heap.size kv) := heap_alloc_new _ _
  have hA : Hid (Below w.heap.size w (w.alloc (.cells #[u8v kv.a, u8v kv.b, u8v kv.c, u8v kv.d] 47))) := (Below.refl _ _).alloc (Nat.le_refl _) _
  clear hcell hK
  unfold maxLen at hm
  obtain ⟨n, hn⟩ : ∃ n : Nat, n = l.length := ⟨_, rfl⟩
  have HE : Hid (goes n kv l = goes l.length kv l) := by rw [hn]; rfl
  go_enter Tryd.func10, Tryd.ntmps10
  go_wp2
  go_loopw [1] (fun bv wr => ∃ (v : V4) (r : List UInt8) (a : Option Addr) (cap : Nat), bv = .slice a r.length cap ∧ r.length ≤ cap ∧ cap ≤ 9223372036854775807 ∧ Hid (RdB w (.slice a r.length cap) r) ∧ Hid (Lies wr w.heap.size v) ∧ Hid (Below w.heap.size w wr) ∧ Hid (goes l.length v r = goes l.length kv l)) (fun bv _ => lnV bv)
  case atStart => exact ⟨kv, l, a, cap, rfl, hc, hm, HR, hL, hA, rfl⟩
  case round =>
    clear x0 x1 x2 x3
    obtain ⟨v, r, a, cap, rfl, hc, hm, HR, hLr, hBr, hG⟩ := hrel
    by_cases hq : 8 ≤ r.length
    · have e8 : (r.take 8).length = 8 := by rw [List.length_take]; omega
      have s1 : ∀ w, (Instr.slice 22 (.slice a r.length cap) none (some (.int .i64 8)) none).run Tryd.prog w = .ok (.slice a 8 cap) w := fun w => slice_to a r.length cap 8 (by omega) w
      have s2 : ∀ w, (Instr.slice 22 (.slice a r.length cap) (some (.int .i64 8)) none none).run Tryd.prog w = .ok (.slice (further a cap 8) (r.length - 8) (cap - 8)) w := fun w => slice_from a r.length cap 8 hq hc w
      have hR8 : Hid (RdB w (.slice a 8 cap) (r.take 8)) := RdB.take HR.out 8 hq
      have hRd : Hid (RdB w (.slice (further a cap 8) (r.length - 8) (cap - 8)) (r.drop 8)) := RdB.drop HR.out 8 hq
      have hG' : Hid (goes l.length (wth v (lowK (r.take 8) 8)) (r.drop 8) = goes l.length kv l) := by
        show _ = _
        rw [← goes_long _ _ _ hq]; exact hG.out
      have cO1 : Hid (∀ wx, Below w.heap.size w wx → Calls Tryd.prog 19 #[.slice a 8 cap] wx fun e w' => e = .returned (.int .u64 (lowK (r.take 8) 8)) ∧ w' = wx) := fun wx hb => by
        have := cO.out _ _ wx (hR8.out.below hb) (by omega)
        rw [e8] at this
        exact this
      have hdl : (r.drop 8).length = r.length - 8 := List.length_drop
      generalize lowK (r.take 8) 8 = m at *
      generalize r.drop 8 = r2 at *
      generalize further a cap 8 = a2 at *
      clear e8 hR8
      obtain ⟨v0, v1, v2, v3⟩ := v
      obtain ⟨c0, c1, c2, c3⟩ := hLr.out.cells
      go_wp2_with fail
      go_cut [] from 17 to 21 (fun wc => Hid (Lies wc w.heap.size (wth ⟨v0, v1, v2, v3⟩ m)) ∧ Hid (Below w.heap.size w wc))
      case first =>
        go_region_with (first | (go_at_call 19; refine (cO1.out _ ?hh).mono ?_; (case hh => (first | exact hBr.out.drew | exact hBr.out | exact hBr.out.drew.drew | fail)); rintro e w' ⟨rfl, rfl⟩) | (go_at_call 23; refine (cW.out ⟨v0, v1, v2, v3⟩ m _).mono ?_; rintro e w3 ⟨rfl, h3⟩; have hl3 : Hid (Lies w3 w.heap.size ⟨v0, v1, v2, v3⟩) := Lies.below' hLr.out h3 rfl; obtain ⟨d0, d1, d2, d3⟩ := hl3.out.cells; have f0 := hl3.out.free; have hb3 : Hid (Below w.heap.size w w3) := below_more hBr.out h3 rfl rfl rfl rfl) | fail)
        all_goals (go_wp2_with fail; go_meet; exact ⟨Lies.put hl3.out (wth ⟨v0, v1, v2, v3⟩ m), below_put hb3.out _ (Nat.le_refl _) (wth ⟨v0, v1, v2, v3⟩ m)⟩)
      obtain ⟨hL2, hB2⟩ := hcut
      generalize wth ⟨v0, v1, v2, v3⟩ m = v' at *
      clear c0 c1 c2 c3
      go_wp2
      go_roundw
      case rel => exact ⟨v', r2, a2, cap - 8, by rw [hdl], by omega, by omega, by rw [hdl]; exact hRd, hL2, hB2, hG'⟩
      case measure => simp [lnV]; omega
    · have hr8 : r.length < 8 := by omega
      have hG' : Hid (goes l.length kv l = fin (wth v (lastW l.length r))) := by
        show _ = _
        rw [← hG.out, goes_short _ _ _ hr8]
      have cO1 : Hid (∀ wx, Below w.heap.size w wx → Calls Tryd.prog 19 #[.slice a r.length cap] wx fun e w' => e = .returned (.int .u64 (lowK r r.length)) ∧ w' = wx) := fun wx hb => cO.out _ _ wx (HR.out.below hb) (by omega)
      obtain ⟨v0, v1, v2, v3⟩ := v
      obtain ⟨c0, c1, c2, c3⟩ := hLr.out.cells
      go_wp2_with fail
      go_region_with (first | (go_at_call 19; refine (cO1.out _ ?hh).mono ?_; (case hh => (first | exact hBr.out.drew | exact hBr.out | exact hBr.out.drew.drew | fail)); rintro e w' ⟨rfl, rfl⟩) | (go_at_call 23; refine (cW.out ⟨v0, v1, v2, v3⟩ (lastW l.length r) _).mono ?_; rintro e w3 ⟨rfl, h3⟩; have hb3 : Hid (Below w.heap.size w w3) := below_more hBr.out h3 rfl rfl rfl rfl) | (go_at_call 24; refine (cS.out (wth ⟨v0, v1, v2, v3⟩ (lastW l.length r)) _).mono ?_; rintro e w4 ⟨rfl, h4⟩; have hb4 : Hid (Below w.heap.size w w4) := below_more hb3.out h4 rfl rfl rfl rfl) | fail)
      all_goals (go_wp2; go_ret; exact ⟨ret_u8v hG'.out.symm, hb4.out⟩)
end Tg
end Go.Proofs.YtfflmpmhacfijaaDoor
