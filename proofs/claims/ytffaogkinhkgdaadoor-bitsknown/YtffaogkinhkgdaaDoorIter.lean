/- The iterators of package bits: All hands out a set's numbers. -/
import Derived.Test.YtffaogkinhkgdaaDoorNums
import Derived.Test.YtffaogkinhkgdaaDoorRange
import Derived.Shelf.Spec.TrailingZeros
namespace Go.Proofs.YtffaogkinhkgdaaDoor
open Go.RowKit
namespace Bt
set_option linter.unusedSimpArgs false
set_option linter.unusedVariables false
attribute [local go_sem] Oper.semAt_some

/-- The library's table, in its variable. -/
@[reducible] def Tab (w : World) : Prop := TabAt 0 Lib.deBruijn64tab w

theorem Tab.leaves {X : Nat → Prop} {lo hi : Nat} {A B : World} (h : Tab A) (hl : Rf.Leaves X lo hi A B) (hX : X 0) : Tab B := fun j hj => hl.cell (a := ⟨0, j, none⟩) (.inl hX) (h j hj)

theorem tz_core (x k idx : Nat) (w : World) (hx0 : ((x : Int) == 0) = false)
    (key : IntKind.u64.wrap (bits BinOp.and IntKind.u64 (x : Int) (IntKind.u64.wrap (-(x : Int))) * 285870213051353865) / 288230376151711744 = (idx : Int))
    (hi : idx < 64) (hk : k < 64) (hcell : w.cell? ⟨0, idx, none⟩ = some (.int .u8 k)) :
    Calls Tryd.prog 16 #[st x] w fun e w' => e = .returned (nu k) ∧ w' = w := by
  go_enter Tryd.func16, Tryd.ntmps16
  go_wp2_with (simp only [key])
  go_ret
  exact ⟨rfl, rfl⟩

theorem tz_any (x : Nat) (w : World) (hx : x < 18446744073709551616) (h0 : x ≠ 0) (hT : Tab w) :
    Calls Tryd.prog 16 #[st x] w fun e w' => e = .returned (nu (Lib.ctz 64 x : Nat)) ∧ w' = w := by
  obtain ⟨hlow, hk⟩ := Lib.lowest_bit 64 x h0 hx
  obtain ⟨hi, htab⟩ := Lib.deBruijn64_at _ hk
  exact tz_core x _ _ w (by rw [beq_eq_false_iff_ne]; omega) (tz64_key x _ hx h0 hlow) hi hk (by rw [hT _ hi, htab])

theorem allMake_any (s : Nat) (w : World) : Calls Tryd.prog 7 #[st s] w fun e w' => e = .returned (.func (.func 15) #[] #[.pointer (some ⟨w.heap.size, 0, none⟩)]) ∧ w' = w.alloc (.cells #[st s] 23) := by
  go_enter Tryd.func7, Tryd.ntmps7
  go_wp2
  go_ret
  exact ⟨rfl, rfl⟩

theorem all_seq (s Bs : Nat) (w : World) (hs : s < 18446744073709551616) (hBs : w.cell? ⟨Bs, 0, none⟩ = some (st s)) (hlt : Bs < w.heap.size) (hT : Tab w) (h1 : 0 < w.heap.size) :
    Rf.Seq Tryd.prog 15 #[.pointer (some ⟨Bs, 0, none⟩)] (fun i : Nat => #[nu i]) (fun b => b = 0) 0 (numsL s 64) w := by
  intro l J Jx W hW hJ hJx hY h0
  have hc : W.cell? ⟨Bs, 0, none⟩ = some (st s) := (hW.cell (p := ⟨Bs, 0, none⟩) hlt).trans hBs
  have hT2 : Tab W := fun j hj => (hW.cell (p := ⟨0, j, none⟩) h1).trans (hT j hj)
  clear hT hBs
  refine callsIn_of_wp Tryd.func15 rfl trivial ?_ rfl
  simp only [Tryd.ntmps15, List.size_toArray, List.length_cons, List.length_nil, Nat.reduceAdd, Nat.reduceSub, Array.replicate_succ, Array.replicate_zero, List.push_toArray, List.append_toArray, List.nil_append, List.cons_append]
  gi_wp2
  gi_loopw [3] (fun v wr => ∃ (pre : List Nat) (r : Nat), r < 18446744073709551616 ∧ v = st r ∧ Hid (numsL s 64 = pre ++ numsL r 64) ∧ Hid (Tab wr) ∧ W.heap.size ≤ wr.heap.size ∧ J pre wr) (fun v _ => (intOf v).toNat)
  case atStart =>
    exact ⟨[], s, hs, rfl, rfl, hT2, Nat.le_refl _, h0⟩
  case round =>
    obtain ⟨pre, r, hr, rfl, hL, hTr, hsz, hJr⟩ := hrel
    by_cases hz : r = 0
    · subst hz
      have hL2 : Hid (numsL s 64 = pre) := by
        show _ = _
        rw [hL.out, numsL_zero, List.append_nil]
      clear hL
      gi_wp2
      go_end0
      exact ⟨⟨_, rfl⟩, .inl (by rw [hL2.out]; exact hJr)⟩
    · obtain ⟨e1, e2, e3⟩ := nums_low r hz hr
      have ct := tz_any r wr hr hz hTr.out
      have hb : ((r : Int) == 0) = false := by rw [beq_eq_false_iff_ne]; omega
      have hsub : IntKind.u64.wrap ((r : Int) - 1) = ((r - 1 : Nat) : Int) := by rw [IntKind.wrap_u64]; omega
      have hand := u64_and_nat r (r - 1) hr (by omega)
      have hpre : pre ++ [Lib.ctz 64 r] <+: numsL s 64 := by rw [hL.out, e1]; exact ⟨numsL (r &&& (r - 1)) 64, by simp⟩
      have hL3 : Hid (numsL s 64 = (pre ++ [Lib.ctz 64 r]) ++ numsL (r &&& (r - 1)) 64) := by
        show _ = _
        rw [hL.out, e1]; simp
      clear hL e1
      obtain ⟨fn, tmps, assign, body, hy, hR⟩ := hY pre (Lib.ctz 64 r) wr hpre (by omega) hJr
      generalize Lib.ctz 64 r = c at *
      generalize hr' : r - 1 = r1 at *
      generalize hq : r &&& r1 = q at *
      have hq2 : q < 18446744073709551616 := by omega
      clear hz hr' hq
      gi_wp2_with fail
      refine ⟨trivial, (callsIn_wide.2 ct).mono ?_⟩
      rintro e w1 ⟨rfl, rfl⟩
      gi_wp2_with fail
      refine hR.mono ?_
      rintro e W3 (⟨rfl, hJ3, hk3⟩ | ⟨rfl, hJx3, _⟩)
      · have hT3 : Hid (Tab W3) := hTr.out.leaves hk3 rfl
        gi_wp2_with (simp only [hsub, hand])
        go_roundw
        case rel => exact ⟨pre ++ [c], q, hq2, rfl, hL3, hT3, Nat.le_trans hsz hk3.size, hJ3⟩
        case measure => simp [intOf]; omega
      · gi_wp2
        refine bodyPost_ret (results_none rfl _ _ _) rfl ?_
        exact ⟨⟨_, rfl⟩, .inr ⟨pre ++ [c], hpre, hJx3⟩⟩
end Bt
end Go.Proofs.YtffaogkinhkgdaaDoor
