/- The keyed sum of a row of bytes, by the document's answer. -/
import Derived.Test.YtfflmpmhacfijaaDoorSum
namespace Go.Proofs.YtfflmpmhacfijaaDoor
set_option linter.ambiguousOpen false
open Go.RowKit
namespace Tg
open Sm
set_option linter.unusedSimpArgs false
set_option linter.unusedVariables false

theorem xr_comm (x y : Int) : xr x y = xr y x := by
  unfold xr bits
  simp only [BitVec.xor_comm]

theorem slice_mid (a : Option Addr) (len cap i j : Nat) (h : i ≤ j) (hj : j ≤ cap) (w : World) : (Instr.slice 22 (.slice a len cap) (some (.int .i64 (i : Int))) (some (.int .i64 (j : Int))) none).run Tryd.prog w = .ok (.slice (further a cap i) (j - i) (cap - i)) w := by
  have h1 : (0 : Int) ≤ (i : Int) ∧ (i : Int) ≤ (j : Int) := by omega
  have h2 : (0 : Int) ≤ (j : Int) ∧ (j : Int) ≤ (cap : Int) := by omega
  have hu := Tryd.underlying22
  cases a with
  | none =>
    simp [Instr.slice, Instr.sliceBounds, Instr.sliceBound, asIntOf, run_underlying hu, further]
    rw [if_pos hj, if_pos h]
  | some ad =>
    simp [Instr.slice, Instr.sliceBounds, Instr.sliceBound, asIntOf, run_underlying hu, Addr.add, further]
    rw [if_pos hj, if_pos h]

theorem and_255 (n : Nat) (h : n < 9223372036854775808) : bits .and .i64 (n : Int) 255 = ((n % 256 : Nat) : Int) := by
  unfold bits
  show IntKind.i64.wrap ((BitVec.ofInt 64 (n : Int) &&& BitVec.ofInt 64 ((255 : Nat) : Int)).toNat : Int) = _
  rw [BitVec.toNat_and, ofInt_u64 n (by omega), ofInt_u64 255 (by decide), show (255 : Nat) = 2 ^ 8 - 1 from rfl, Nat.and_two_pow_sub_one_eq_mod]
  have := Nat.mod_lt n (show 2 ^ 8 > 0 by decide)
  simp only [IntKind.wrap_i64]
  omega

theorem last_eq (n : Nat) : IntKind.u64.wrap (((n % 256 : Nat) : Int) * 72057594037927936) = IntKind.u64.wrap ((n : Int) * 72057594037927936) := by
  rw [IntKind.wrap_u64, IntKind.wrap_u64]
  omega
/-- Rounds. -/
def rr : Nat → V4 → V4
  | 0, v => v
  | n + 1, v => rr n (rnd v)

theorem fin_rr (v : V4) : fin v = (let u := rr 4 ⟨v.a, v.b, xr v.c 255, v.d⟩; xr (xr (xr u.a u.b) u.c) u.d) := rfl

theorem keyV_eq (k0 k1 : Int) : (⟨xr k0 8317987319222330741, xr k1 7237128888997146477, xr k0 7816392313619706465, xr k1 8387220255154660723⟩ : V4) = keyV k0 k1 := by
  unfold keyV
  rw [xr_comm k0, xr_comm k1, xr_comm k0, xr_comm k1]

set_option maxHeartbeats 4000000 in
theorem refSum_any (kl : List UInt8) (b : Value) (l : List UInt8) (w : World) (hkl : kl.length = 16) (hR : RdB w b l) (hl : l.length ≤ 16777216) :
    Calls Tryd.prog 11 #[.string (tx kl), b] w fun e w' => e = .returned (u8v (goes l.length (keyV (k0L kl) (k1L kl)) l)) ∧ Below w.heap.size w w' := by
  have e81 : (kl.take 8).length = 8 := by rw [List.length_take]; omega
  have e82 : (kl.drop 8).length = 8 := by rw [List.length_drop]; omega
  obtain ⟨c, o, hcc, v1, C1⟩ : ∃ (c : World → Nat) (o : World → Obj), (∀ w, 16 ≤ c w) ∧ (∀ w, (convert 9 22 (.string (tx kl))).run Tryd.prog w = .ok (.slice (some ⟨w.heap.size, 0, none⟩) 16 (c w)) (w.drew.alloc (o w))) ∧ Hid (∀ w wx H, wx.heap[H]? = some (o w) → RdB wx (.slice (some ⟨H, 0, none⟩) 16 (c w)) kl) := by
    refine ⟨fun w => cp w kl, fun w => ob w kl, fun w => by rw [← hkl]; exact cp_le w kl, fun w => ?_, fun w wx H hh => ?_⟩
    · have := conv_any kl w
      rwa [hkl] at this
    · have := ob_rd kl (by rw [hkl]; decide) w wx H hh
      rwa [hkl] at this
  have hcw := hcc w
  have hX0 : Hid ((w.drew.alloc (o w)).heap[w.heap.size]? = some (o w)) := heap_alloc_new _ _
  have hX : Hid (RdB (w.alloc (o w)).drew (.slice (some ⟨w.heap.size, 0, none⟩) kl.length (c w)) kl) := by
    show RdB _ _ _
    rw [hkl]
    exact C1.out w _ w.heap.size hX0.out
  have hBX : Hid (Below w.heap.size w (w.alloc (o w)).drew) := ((Below.refl _ _).alloc (Nat.le_refl _) _).drew
  have L1 : Hid (Calls Tryd.prog 25 #[.slice (some ⟨w.heap.size, 0, none⟩) 8 (c w)] (w.alloc (o w)).drew fun e w' => e = .returned (.int .u64 (k0L kl)) ∧ w' = (w.alloc (o w)).drew) := by
    have := low_any _ _ _ (RdB.take hX.out 8 (by omega)) (by omega)
    rw [e81] at this
    exact this
  have L2 : Hid (Calls Tryd.prog 25 #[.slice (further (some ⟨w.heap.size, 0, none⟩) (c w) 8) 8 (c w - 8)] (w.alloc (o w)).drew fun e w' => e = .returned (.int .u64 (k1L kl)) ∧ w' = (w.alloc (o w)).drew) := by
    have h2 := RdB.drop hX.out 8 (by omega)
    rw [hkl] at h2
    have := low_any _ _ _ h2 (by omega)
    rw [e82] at this
    exact this
  have s1 : ∀ wx, (Instr.slice 22 (.slice (some ⟨w.heap.size, 0, none⟩) 16 (c w)) none (some (.int .i64 8)) none).run Tryd.prog wx = .ok (.slice (some ⟨w.heap.size, 0, none⟩) 8 (c w)) wx := fun wx => slice_to _ 16 (c w) 8 (by omega) wx
  have s2 : ∀ wx, (Instr.slice 22 (.slice (some ⟨w.heap.size, 0, none⟩) 16 (c w)) (some (.int .i64 8)) none none).run Tryd.prog wx = .ok (.slice (further (some ⟨w.heap.size, 0, none⟩) (c w) 8) 8 (c w - 8)) wx := fun wx => slice_from _ 16 (c w) 8 (by omega) (by omega) wx
  have hKV := Hid.mk' (keyV_eq (k0L kl) (k1L kl))
  obtain ⟨a, cap, rfl, hc, hm, hcell⟩ := hR
  have HR : Hid (RdB w (.slice a l.length cap) l) := ⟨a, cap, rfl, hc, hm, hcell⟩
  have hA := Hid.mk' (and_255 l.length (by omega))
  have hA2 := Hid.mk' (last_eq l.length)
  clear hcell hcc hX hX0 C1 e81 e82
  unfold maxLen at hm
  generalize k0L kl = k0 at *
  generalize k1L kl = k1 at *
  generalize keyV k0 k1 = kv at *
  generalize hS2 : further (some ⟨w.heap.size, 0, none⟩) (c w) 8 = ax at *
  clear hS2
  go_enter Tryd.func11, Tryd.ntmps11
  go_wp2_with fail
  refine L1.out.mono ?_
  rintro e w1 ⟨rfl, hw⟩
  subst w1
  go_wp2_with fail
  refine L2.out.mono ?_
  rintro e w1 ⟨rfl, hw⟩
  subst w1
  clear s1 s2 L1 L2 v1
  go_wp2
  go_loopw [8, 9, 10, 11, 12, 13] (fun x0 x1 x2 x3 at_ xm wr => ∃ (v : V4) (p : Nat), x0 = u8v v.a ∧ x1 = u8v v.b ∧ x2 = u8v v.c ∧ x3 = u8v v.d ∧ at_ = nu p ∧ p ≤ l.length + 8 ∧ Hid (Below w.heap.size w wr) ∧ Hid ((p ≤ l.length ∧ goes l.length v (l.drop p) = goes l.length kv l) ∨ (l.length < p ∧ fin v = goes l.length kv l))) (fun _ _ _ _ at_ _ _ => l.length + 8 - (intOf at_).toNat)
  case atStart => exact ⟨⟨_, _, _, _⟩, 0, rfl, rfl, rfl, rfl, rfl, by omega, hBX, .inl ⟨by omega, by rw [← hKV.out]; rfl⟩⟩
  case round =>
    obtain ⟨v, p, rfl, rfl, rfl, rfl, rfl, hp, hBr, hG⟩ := hrel
    by_cases hq : p ≤ l.length
    · obtain ⟨v0, v1, v2, v3⟩ := v
      have hdl : (l.drop p).length = l.length - p := List.length_drop
      have hG1 : Hid (goes l.length ⟨v0, v1, v2, v3⟩ (l.drop p) = goes l.length kv l) := by
        rcases hG.out with h | h
        · exact h.2
        · omega
      by_cases hq2 : p + 8 ≤ l.length
      · have hRd : RdB w (.slice (further a cap p) (l.drop p).length (cap - p)) (l.drop p) := by rw [hdl]; exact RdB.drop HR.out p hq
        have e8 : ((l.drop p).take 8).length = 8 := by rw [List.length_take]; omega
        have cL : Hid (Calls Tryd.prog 25 #[.slice (further a cap p) 8 (cap - p)] wr fun e w' => e = .returned (.int .u64 (lowK ((l.drop p).take 8) 8)) ∧ w' = wr) := by
          have := low_any _ _ wr ((RdB.take hRd 8 (by omega)).below hBr.out) (by omega)
          rw [e8] at this
          exact this
        have s3 : ∀ wx, (Instr.slice 22 (.slice a l.length cap) (some (.int .i64 (p : Int))) (some (.int .i64 ((p : Int) + 8))) none).run Tryd.prog wx = .ok (.slice (further a cap p) 8 (cap - p)) wx := fun wx => by
          have := slice_mid a l.length cap p (p + 8) (by omega) (by omega) wx
          rw [show p + 8 - p = 8 by omega] at this
          rw [show ((p : Int) + 8) = ((p + 8 : Nat) : Int) by omega]
          exact this
        have hG2 : Hid (goes l.length (wth ⟨v0, v1, v2, v3⟩ (lowK ((l.drop p).take 8) 8)) (l.drop (p + 8)) = goes l.length kv l) := by
          show _ = _
          rw [← hG1.out, goes_long _ _ (l.drop p) (by omega), List.drop_drop]
        generalize lowK ((l.drop p).take 8) 8 = m at *
        generalize further a cap p = ap at *
        clear hRd e8 hG hG1
        have c1 := refRound ⟨v0, v1, v2, xr v3 m⟩ wr
        have hu := Hid.mk' (show wth ⟨v0, v1, v2, v3⟩ m = (let u := rnd (rnd ⟨v0, v1, v2, xr v3 m⟩); ⟨xr u.a m, u.b, u.c, u.d⟩) from rfl)
        unfold xr at c1 hu
        generalize rnd ⟨v0, v1, v2, bits .xor .u64 v3 m⟩ = u at *
        obtain ⟨u0, u1, u2, u3⟩ := u
        have c2 := refRound ⟨u0, u1, u2, u3⟩ wr
        generalize rnd ⟨u0, u1, u2, u3⟩ = z at *
        obtain ⟨z0, z1, z2, z3⟩ := z
        go_wp2_with fail
        refine cL.out.mono ?_
        rintro e w' ⟨rfl, hw⟩
        subst w'
        go_wp2_with fail
        refine c1.mono ?_
        rintro e w' ⟨rfl, hw⟩
        subst w'
        go_wp2_with fail
        refine c2.mono ?_
        rintro e w' ⟨rfl, hw⟩
        subst w'
        go_wp2
        go_roundw
        case rel => exact ⟨⟨bits .xor .u64 z0 m, z1, z2, z3⟩, p + 8, rfl, rfl, rfl, rfl, by go_num, by omega, hBr, .inl ⟨hq2, by rw [← hG2.out, hu.out]⟩⟩
        case measure => simp [intOf]; omega
      · have hRd : RdB w (.slice (further a cap p) (l.length - p) (cap - p)) (l.drop p) := RdB.drop HR.out p hq
        have cL : Hid (Calls Tryd.prog 25 #[.slice (further a cap p) (l.length - p) (cap - p)] wr fun e w' => e = .returned (.int .u64 (lowK (l.drop p) (l.drop p).length)) ∧ w' = wr) := low_any _ _ wr (hRd.below hBr.out) (by omega)
        have s3 : ∀ wx, (Instr.slice 22 (.slice a l.length cap) (some (.int .i64 (p : Int))) none none).run Tryd.prog wx = .ok (.slice (further a cap p) (l.length - p) (cap - p)) wx := fun wx => slice_from a l.length cap p hq hc wx
        have hG2 : Hid (fin (wth ⟨v0, v1, v2, v3⟩ (lastW l.length (l.drop p))) = goes l.length kv l) := by
          show _ = _
          rw [← hG1.out, goes_short _ _ (l.drop p) (by omega)]
        have hm' : lastW l.length (l.drop p) = bits .or .u64 (lowK (l.drop p) (l.drop p).length) ((l.length : Int) % 256 * 72057594037927936) := by
          unfold lastW
          rw [IntKind.wrap_u64, show ((l.length : Int) * 72057594037927936) % 18446744073709551616 = (l.length : Int) % 256 * 72057594037927936 by omega]
        generalize lowK (l.drop p) (l.drop p).length = lw at *
        generalize lastW l.length (l.drop p) = m at *
        generalize further a cap p = ap at *
        have ha := hA.out
        have hm2 := hm'.symm
        have hd2 : (decide ((p : Int) + 8 ≤ (l.length : Int))) = false := by rw [decide_eq_false_iff_not]; omega
        clear hRd hG hG1 hm'
        have c1 := refRound ⟨v0, v1, v2, xr v3 m⟩ wr
        have hu := Hid.mk' (show wth ⟨v0, v1, v2, v3⟩ m = (let u := rnd (rnd ⟨v0, v1, v2, xr v3 m⟩); ⟨xr u.a m, u.b, u.c, u.d⟩) from rfl)
        unfold xr at c1 hu
        generalize rnd ⟨v0, v1, v2, bits .xor .u64 v3 m⟩ = u at *
        obtain ⟨u0, u1, u2, u3⟩ := u
        have c2 := refRound ⟨u0, u1, u2, u3⟩ wr
        generalize rnd ⟨u0, u1, u2, u3⟩ = z at *
        obtain ⟨z0, z1, z2, z3⟩ := z
        go_wp2_with fail
        refine cL.out.mono ?_
        rintro e w' ⟨rfl, hw⟩
        subst w'
        go_wp2_with fail
        refine c1.mono ?_
        rintro e w' ⟨rfl, hw⟩
        subst w'
        go_wp2_with fail
        refine c2.mono ?_
        rintro e w' ⟨rfl, hw⟩
        subst w'
        go_wp2
        go_roundw
        case rel => exact ⟨⟨bits .xor .u64 z0 m, z1, z2, z3⟩, p + 8, rfl, rfl, rfl, rfl, by go_num, by omega, hBr, .inr ⟨by omega, by rw [← hG2.out, hu.out]⟩⟩
        case measure => simp [intOf]; omega
    · have hp2 : l.length < p := by omega
      have hG1 : Hid (fin v = goes l.length kv l) := by
        rcases hG.out with h | h
        · omega
        · exact h.2
      obtain ⟨v0, v1, v2, v3⟩ := v
      have hF := Hid.mk' (fin_rr ⟨v0, v1, v2, v3⟩)
      rename World => w2
      go_wp2
      go_loopw [8, 9, 10, 11, 14] (fun x0 x1 x2 x3 iv wr => ∃ (u : V4) (k : Nat), x0 = u8v u.a ∧ x1 = u8v u.b ∧ x2 = u8v u.c ∧ x3 = u8v u.d ∧ iv = nu k ∧ k ≤ 4 ∧ Hid (Below w.heap.size w wr) ∧ Hid (rr (4 - k) u = rr 4 ⟨v0, v1, xr v2 255, v3⟩)) (fun _ _ _ _ iv _ => 4 - (intOf iv).toNat)
      case atStart => exact ⟨⟨_, _, _, _⟩, 0, rfl, rfl, rfl, rfl, rfl, by omega, hBr, rfl⟩
      case round =>
        obtain ⟨u, k, rfl, rfl, rfl, rfl, rfl, hk, hBr2, hU⟩ := hrel
        obtain ⟨u0, u1, u2, u3⟩ := u
        by_cases hq3 : k < 4
        · have c1 := refRound ⟨u0, u1, u2, u3⟩ wr
          have hU' : Hid (rr (4 - (k + 1)) (rnd ⟨u0, u1, u2, u3⟩) = rr 4 ⟨v0, v1, xr v2 255, v3⟩) := by
            show _ = _
            rw [← hU.out, show 4 - k = (4 - (k + 1)) + 1 by omega]
            rfl
          generalize rnd ⟨u0, u1, u2, u3⟩ = z at *
          obtain ⟨z0, z1, z2, z3⟩ := z
          go_wp2_with fail
          refine c1.mono ?_
          rintro e w' ⟨rfl, hw⟩
          subst w'
          go_wp2
          go_roundw
          case rel => exact ⟨⟨_, _, _, _⟩, k + 1, rfl, rfl, rfl, rfl, by go_num, by omega, hBr2, hU'⟩
          case measure => simp [intOf]; omega
        · obtain rfl : k = 4 := by omega
          simp only [Int.cast_ofNat_Int]
          go_wp2
          go_ret
          exact ⟨ret_u8v (by rw [← hG1.out, hF.out, ← hU.out]; rfl), hBr2.out⟩
end Tg
end Go.Proofs.YtfflmpmhacfijaaDoor
