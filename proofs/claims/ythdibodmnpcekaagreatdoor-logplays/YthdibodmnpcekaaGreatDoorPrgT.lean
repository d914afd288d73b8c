import Derived.Test.YthdibodmnpcekaaGreatDoorPrgR
import Derived.Deep.RegionHeld3
/- The program's record: Frame, and how many blocks a record has. -/
namespace Go.Proofs.YthdibodmnpcekaaGreatDoor
set_option linter.ambiguousOpen false
open Go.RowKit
namespace Rc
namespace Pr
open Sm Pk
set_option linter.unusedSimpArgs false
set_option linter.unusedVariables false

theorem max_two (a b : Int) (w : World) : (Builtin.max_ #[3, 3] 3 #[.int .i64 a, .int .i64 b]).run Tryz.prog w = .ok (.int .i64 (if a < b then b else a)) w := run_max_int2 ..

set_option maxRecDepth 100000 in
theorem blocks_p (n : Nat) (w : World) (hn : n ≤ 1000000) :
    Calls Tryz.prog 40 #[nu (n : Int)] w fun e w' => e = .returned (nu ((1 + (n - 245 + 254) / 255 : Nat) : Int)) ∧ w' = w := by
  obtain ⟨m, hm⟩ : ∃ m, n - 245 = m := ⟨_, rfl⟩
  have hmax : ∀ wx, (Builtin.max_ #[3, 3] 3 #[.int .i64 ((n : Int) - 245), .int .i64 0]).run Tryz.prog wx = .ok (.int .i64 (m : Int)) wx := fun wx => by
    rw [max_two, ← hm]
    congr 2
    split <;> omega
  rw [hm]
  have hml : m ≤ 1000000 := by omega
  have hd : ((m : Int) + 255 - 1).tdiv 255 = (((m + 254) / 255 : Nat) : Int) := by
    rw [Int.tdiv_eq_ediv_of_nonneg (by omega)]
    omega
  clear hm
  go_enter Tryz.func40, Tryz.ntmps40
  go_wp2
  go_ret
  exact ⟨ret_nu (by omega), rfl⟩

theorem tx_app (a b : List UInt8) : tx a ++ tx b = tx (a ++ b) := by
  apply ByteArray.ext
  simp [tx]

set_option maxRecDepth 100000 in
set_option maxHeartbeats 2000000 in
theorem frame_p : FrameC := by
  intro w ep v p hep hR hz hl
  obtain ⟨i0, ji, hz0, hz1, hz2⟩ := info_parts (show (Tryz.prog.info? 9).map (fun i => (i.zero, i.size, i.bytes)) = some (some (.string ⟨#[]⟩), 1, 16) by kernel_rfl)
  by_cases h : 512 < p.length
  · rw [framed, if_pos h, if_pos h]
    obtain ⟨a, cap, rfl, _⟩ := hR
    have hI : (512 : Int) < (p.length : Int) := by omega
    go_enter Tryz.func48, Tryz.ntmps48
    go_wp2
    go_ret2
    exact ⟨_, rfl, World.ownsRow_nil _ _ _ _, Below.refl _ _⟩
  · rw [framed, if_neg h, if_neg h]
    obtain ⟨n, hn⟩ : ∃ n, p.length = n := ⟨_, rfl⟩
    obtain ⟨k0, hk0⟩ : ∃ k, min n 245 = k := ⟨_, rfl⟩
    have hmin : ∀ wx, (Builtin.min_ #[3, 3] 3 #[.int .i64 (n : Int), .int .i64 245]).run Tryz.prog wx = .ok (.int .i64 (k0 : Int)) wx := fun wx => by
      rw [min_two, ← hk0]
      congr 2
      split <;> omega
    have HR := Hid.mk' hR
    obtain ⟨a, cap, rfl, hc1, hc2, _⟩ := id hR
    rw [hn] at hc1 HR h ⊢
    have hkn : k0 ≤ n := by omega
    have hsl := fun wx => slice_to a n cap k0 (by omega) wx
    have hsf := fun wx => slice_from a n cap k0 hkn hc1 wx
    have htk : p.take k0 = p.take 245 := by
      rw [← hk0]
      rcases Nat.le_total n 245 with q | q
      · rw [Nat.min_eq_left q, List.take_of_length_le (by omega), List.take_of_length_le (by omega)]
      · rw [Nat.min_eq_right q]
    have hdk : p.drop k0 = p.drop 245 := by
      rw [← hk0]
      rcases Nat.le_total n 245 with q | q
      · rw [Nat.min_eq_left q, List.drop_eq_nil_of_le (by omega), List.drop_eq_nil_of_le (by omega)]
      · rw [Nat.min_eq_right q]
    have HTR : Hid (∀ wx, Below w.heap.size w wx → RdB wx (.slice a k0 cap) (p.take 245)) := fun wx hx => by
      have h1 := HR.out.below hx
      rw [← hn] at h1
      have := h1.take k0 (by omega)
      rw [htk] at this
      exact this
    have HDR : Hid (∀ wx, Below w.heap.size w wx → RdB wx (.slice (further a cap k0) (n - k0) (cap - k0)) (p.drop 245)) := fun wx hx => by
      have h1 := HR.out.below hx
      rw [← hn] at h1
      have := h1.drop k0 (by omega)
      rw [hdk, hn] at this
      exact this
    obtain ⟨F1, hF1⟩ : ∃ f, tx (p.take 245) = f := ⟨_, rfl⟩
    obtain ⟨FT, hFT⟩ : ∃ f, tx (topB ep p) = f := ⟨_, rfl⟩
    have s1 : F1.size ≤ 512 := by
      rw [← hF1]
      show (p.take 245).length ≤ 512
      rw [List.length_take]
      omega
    have s2 : FT.size = 11 := by
      rw [← hFT]
      exact topB_len ep p
    have s2' : FT.size ≤ 11 := by omega
    obtain ⟨F2, hF2⟩ : ∃ f, FT ++ F1 = f := ⟨_, rfl⟩
    have HF2 : Hid (F2 = tx (firstB ep p)) := by
      show _ = _
      rw [← hF2, ← hFT, ← hF1, tx_app]
      rfl
    have HCV : Hid (∀ wx, Below w.heap.size w wx → (convert 46 9 (.slice a k0 cap)).run Tryz.prog wx = .ok (.string F1) wx) := fun wx hx => by
      have := conv_rd (HTR.out wx hx)
      rw [hF1] at this
      exact this
    have cH : Hid (∀ wx, Below w.heap.size w wx → Calls Tryz.prog 64 #[.int .u32 (ep : Int), .slice a n cap] wx fun e w' => e = .returned (.string FT) ∧ (convert 46 9 (.slice a k0 cap)).run Tryz.prog w' = .ok (.string F1) w' ∧ Below w.heap.size w w') := fun wx hx => by
      refine (heading_p ep _ p wx hep (HR.out.below hx) (by omega)).mono ?_
      rintro e w' ⟨rfl, hb⟩
      rw [hFT]
      have hb' := hx.trans (hb.mono hx.size)
      exact ⟨rfl, HCV.out w' hb', hb'⟩
    obtain ⟨af, haf⟩ : ∃ x, further a cap k0 = x := ⟨_, rfl⟩
    obtain ⟨nf, hnf⟩ : ∃ x, n - k0 = x := ⟨_, rfl⟩
    obtain ⟨cf, hcf⟩ : ∃ x, cap - k0 = x := ⟨_, rfl⟩
    simp only [haf, hnf, hcf] at hsf HDR
    have hv1 := HCV.out w (Below.refl _ _)
    have hv2 := HCV.out w.drew (Below.refl _ _).drew
    obtain ⟨BB, hBB⟩ : ∃ x, blocks ep p = x := ⟨_, rfl⟩
    rw [hBB]
    have hI : ¬ (512 : Int) < (n : Int) := by omega
    have hBl : BB.length ≤ 3 := by
      rw [← hBB, blocks_len]
      omega
    have HBL := Hid.mk' hBl
    have HB0 : Hid (firstB ep p :: restB (p.drop 245) = BB) := hBB
    have HDL : Hid ((p.drop 245).length ≤ 512) := by
      show _ ≤ _
      rw [List.length_drop]
      omega
    have hadd : ∀ wx, (Op.stringOp .add FT F1).run Tryz.prog wx = .ok (.string F2) wx := fun wx => by
      rw [← hF2]
      have hsz : FT.size + F1.size ≤ 9223372036854775807 := by omega
      simp [go_sem, hsz]
    clear hR hz hF1 hFT s2 htk hdk haf hnf hcf hk0 hBB hBl hF2
    go_enter Tryz.func48, Tryz.ntmps48
    go_wp2_with fail
    go_region_held3 (fun w' => (convert 46 9 (.slice a k0 cap)).run Tryz.prog w' = .ok (.string F1) w') (first | assumption | exact hv1 | exact hv2 | exact HCV.out _ (hb5.alloc hb5.size _)) (first | (go_at_call 64; with_reducible refine (cH.out _ ?hb).mono ?_; (case hb => (first | exact Below.refl _ _ | exact (Below.refl _ _).drew | fail)); rintro e w5 ⟨rfl, hcv5, hb5⟩) | fail)
    have HO0 : Hid ((w5.alloc (.cells #[.string F2] 9)).ownsRow w.heap.size 9 1 (.slice (some ⟨w5.heap.size, 0, none⟩) 1 1) 1 ([firstB ep p].map Nm.txt)) := by
      have h1 := World.ownsRow_lit (size := 1) (e := 9) w5 #[.string F2] 1 hb5.size (by decide) rfl
      rw [HF2.out] at h1 ⊢
      exact h1
    have HB0' : Hid (Below w.heap.size w (w5.alloc (.cells #[.string F2] 9))) := hb5.alloc hb5.size _
    have HR0 := Hid.mk' (HDR.out _ (Below.refl _ _))
    clear hb5 hcv5 hv1 hv2 hsl hmin HCV HTR cH HDR
    go_wp2
    go_loopw [6, 7, 8] (fun _ lv sv wr => ∃ (q : List UInt8) (ds : List (List UInt8)) (m : Nat) (a' : Option Addr) (c' : Nat), sv = .slice a' m c' ∧ m ≤ 512 ∧ m ≤ c' ∧ Hid (q.length = m) ∧ Hid (ds ++ restB q = BB) ∧ Hid (RdB w (.slice a' m c') q) ∧ Hid (wr.ownsRow w.heap.size 9 1 lv ds.length (ds.map Nm.txt)) ∧ Hid (Below w.heap.size w wr)) (fun _ _ sv _ => match sv with | .slice _ m _ => m | _ => 0)
    case atStart =>
      refine ⟨p.drop 245, [firstB ep p], nf, af, cf, rfl, ?_, ?_, ?_, HB0.out, HR0, HO0, HB0'⟩
      · obtain ⟨_, _, e, _⟩ := HR0.out
        cases e
        exact HDL.out
      · obtain ⟨_, _, e, e2, _⟩ := HR0.out
        cases e
        exact e2
      · obtain ⟨_, _, e, _⟩ := HR0.out
        cases e
        rfl
    case round =>
    clear HO0 HR0 HB0'
    obtain ⟨q, ds, m, a', c', rfl, hm, hmc, HQ, HD, HRq, HO, HB⟩ := hrel
    by_cases hm0 : 0 < m
    · have hmI : (0 : Int) < (m : Int) := by omega
      obtain ⟨k, hk⟩ : ∃ k, min m 255 = k := ⟨_, rfl⟩
      have hmin : ∀ wx, (Builtin.min_ #[3, 3] 3 #[.int .i64 (m : Int), .int .i64 255]).run Tryz.prog wx = .ok (.int .i64 (k : Int)) wx := fun wx => by
        rw [min_two, ← hk]
        congr 2
        split <;> omega
      have hkm : k ≤ m := by omega
      have hk0' : 0 < k := by omega
      have hsl := fun wx => slice_to a' m c' k (by omega) wx
      have hsf := fun wx => slice_from a' m c' k hkm hmc wx
      have hqe : q ≠ [] := fun e => by
        have := HQ.out
        rw [e] at this
        simp at this
        omega
      have htk : q.take k = q.take 255 := by
        rw [← hk]
        rcases Nat.le_total m 255 with h' | h'
        · rw [Nat.min_eq_left h', List.take_of_length_le (by rw [HQ.out]; omega), List.take_of_length_le (by rw [HQ.out]; omega)]
        · rw [Nat.min_eq_right h']
      have hdk : q.drop k = q.drop 255 := by
        rw [← hk]
        rcases Nat.le_total m 255 with h' | h'
        · rw [Nat.min_eq_left h', List.drop_eq_nil_of_le (by rw [HQ.out]; omega), List.drop_eq_nil_of_le (by rw [HQ.out]; omega)]
        · rw [Nat.min_eq_right h']
      have hrt : RdB wr (.slice a' k c') (q.take 255) := by
        have h1 := HRq.out.below HB.out
        rw [← HQ.out] at h1
        have := h1.take k (by rw [HQ.out]; exact hkm)
        rw [htk] at this
        exact this
      have HRD : Hid (RdB w (.slice (further a' c' k) (m - k) (c' - k)) (q.drop 255)) := by
        have h1 := HRq.out
        rw [← HQ.out] at h1
        have := h1.drop k (by rw [HQ.out]; exact hkm)
        rw [hdk, HQ.out] at this
        exact this
      have HN : Hid ((q.drop 255).length = m - k) := by
        show _ = _
        rw [← hdk, List.length_drop, HQ.out]
      have hcv := conv_rd hrt
      obtain ⟨f, hf⟩ : ∃ f, tx (q.take 255) = f := ⟨_, rfl⟩
      rw [hf] at hcv
      have hfs2 : f.size ≤ 512 := by
        rw [← hf]
        show (q.take 255).length ≤ 512
        rw [List.length_take]
        omega
      obtain ⟨F3, hF3⟩ : ∃ x, (⟨#[99]⟩ : ByteArray) ++ f = x := ⟨_, rfl⟩
      have HF3 : Hid (F3 = tx (99 :: q.take 255)) := by
        show _ = _
        rw [← hF3, ← hf]
        exact tx_cons _
      have HD' : Hid ((ds ++ [99 :: q.take 255]) ++ restB (q.drop 255) = BB) := by
        show _ = _
        rw [← HD.out, restB_cons q hqe, List.append_assoc]
        rfl
      have hdl : ds.length ≤ 3 := by
        have := congrArg List.length HD.out
        rw [List.length_append] at this
        have := HBL.out
        omega
      have hS : Hid ((ds ++ [99 :: q.take 255]).map Nm.txt = ds.map Nm.txt ++ [.string F3]) := by
        show _ = _
        rw [List.map_append, HF3.out]
        rfl
      have hone : Hid (∀ x ∈ [Value.string F3], x.oneCell' = true) := by intro x hx; simp at hx; subst hx; rfl
      have hmx : Hid (ds.length + 1 ≤ maxLen) := by show _ ≤ _; unfold maxLen; omega
      have hby : Hid ((ds.length + 1) * 16 ≤ 140737488355328) := by show _ ≤ _; omega
      have hws : Hid (w.heap.size ≤ wr.heap.size) := HB.out.size
      obtain ⟨af', haf'⟩ : ∃ x, further a' c' k = x := ⟨_, rfl⟩
      obtain ⟨mf, hmf⟩ : ∃ x, m - k = x := ⟨_, rfl⟩
      obtain ⟨cf', hcf'⟩ : ∃ x, c' - k = x := ⟨_, rfl⟩
      simp only [haf', hmf, hcf'] at hsf HRD HN
      have hmf1 : mf < m := by omega
      have hmf2 : mf ≤ cf' := by omega
      clear hk htk hdk hrt hf hqe haf' hmf hcf' HF3
      go_wp2_with (at_builtin; refine wpList_append_own _ rfl _ _ 63 rfl w.heap.size 9 i0 (.string ⟨#[]⟩) 1 16 Tryz.underlying63 ji hz0 hz1 hz2 rfl (by decide) _ _ _ rfl (HO.out.alloc _) ⟨wr.heap.size, 0, none⟩ 1 1 [.string F3] rfl rfl (cell_one_new _ _ _) hone.out hmx.out hby.out (by have := hws.out; simp; omega) ?_; intro v' w4 hown4 hgrow _; rw [← hS.out] at hown4; have hO4 := Hid.mk' hown4; have hB4 : Hid (Below w.heap.size w w4) := Below.grown (HB.out.alloc hws.out _) hgrow (by have := hws.out; simp; omega) (fun k hk => (HO.out.lt k hk).1); clear hown4 hgrow)
      go_wp2
      go_roundw
      case rel => exact ⟨q.drop 255, ds ++ [99 :: q.take 255], mf, af', cf', rfl, by omega, hmf2, HN, HD', HRD, (by show World.ownsRow _ _ _ _ _ _ _; rw [List.length_append]; exact hO4.out), hB4⟩
      case measure => simp; omega
    · obtain rfl : m = 0 := by omega
      have hI0 : ¬ (0 : Int) < ((0 : Nat) : Int) := by omega
      have hfin : Hid (ds = BB) := by
        show _ = _
        rw [← HD.out, List.eq_nil_of_length_eq_zero HQ.out, restB_nil, List.append_nil]
      rw [hfin.out] at HO
      go_wp2
      go_ret2
      exact ⟨_, rfl, HO.out, HB.out⟩
end Pr
end Rc
end Go.Proofs.YthdibodmnpcekaaGreatDoor
