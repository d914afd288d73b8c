/- The program's heap: New. -/
import Derived.Test.YthjdpfmnbmnbhaaHqG
import Derived.Test.YthjdpfmnbmnbhaaShelf
import Derived.Laws.MakeOwn
import Derived.Laws.OwnMore
import Derived.Laws.CopyRow
namespace Go.Proofs.Ythjdpfmnbmnbhaa
set_option linter.ambiguousOpen false
open Go.RowKit
namespace Hq
open Hh Ft
set_option linter.unusedSimpArgs false
set_option linter.unusedVariables false
attribute [local go_sem] Oper.semAt_some

theorem sl_from (g n k : Nat) (h0 : 0 < k) (hk : k < n) (w : World) : (Instr.slice 22 (slc g n n) (some (nun k)) none none).run Try.prog w = .ok (.slice (some ⟨g, k, none⟩) (n - k) (n - k)) w := by
  have h1 : (0 : Int) ≤ (k : Int) ∧ (k : Int) ≤ (n : Int) := by omega
  have h2 : n ≠ k := by omega
  have h3 : k ≠ 0 := by omega
  have hu := Try.underlying22
  simp [Instr.slice, Instr.sliceBounds, Instr.sliceBound, asIntOf, run_underlying hu, Addr.add, h1, h2, h3]
  omega

theorem sl_to (g n k : Nat) (hk : k ≤ n) (w : World) : (Instr.slice 22 (slc g n n) none (some (nun k)) none).run Try.prog w = .ok (slc g k n) w := by
  have h1 : (0 : Int) ≤ (k : Int) ∧ (k : Int) ≤ (n : Int) := by omega
  have hu := Try.underlying22
  simp [Instr.slice, Instr.sliceBounds, Instr.sliceBound, asIntOf, run_underlying hu, Addr.add, h1]
  try omega

theorem infoI : (Try.prog.info? 3).map (fun i => (i.zero, i.size, i.bytes)) = some (some (.int .i64 0), 1, 8) := by kernel_rfl

theorem sizeI : (Try.prog.info? 3).map (·.size) = some 1 := by kernel_rfl

/-- A block of n ints, of which the first k are m1. -/
structure Fil (w : World) (g n k : Nat) : Prop where
  ex : ∃ cur : Array Value, w.heap[g]? = some (.cells cur 3 (0, 0)) ∧ cur.size = n ∧ ∀ j, j < k → cur[j]? = some (nu (-1))

/-- More of them are filled. -/
theorem fil_copy {w : World} {g n k m : Nat} (h : Fil w g n k) (hk : k + m ≤ n) (hm : m ≤ k) (dl dc sl sc : Nat) (hd : m = Nat.min sl dl) (ty : TypeId) : ∃ w', (Builtin.copy_ #[22, 22] ty #[.slice (some ⟨g, k, none⟩) dl dc, .slice (some ⟨g, 0, none⟩) sl sc]).run Try.prog w = .ok (nun m) w' ∧ Fil w' g n (k + m) ∧ Keep (fun b => b = g) w w' := by
  obtain ⟨cur, hg, hs, hc⟩ := h.ex
  have hl : (List.replicate m (nu (-1))).length = m := List.length_replicate
  have e1 : ∀ j v, (List.replicate m (nu (-1)))[j]? = some v → w.cell? ((⟨g, 0, none⟩ : Addr).add j) = some v := by
    intro j v hv
    have hj : j < m := by
      have := (List.getElem?_eq_some_iff.1 hv).1
      rwa [hl] at this
    rw [List.getElem?_replicate_of_lt hj] at hv
    rw [add_atI]
    simp only [World.cell?, hg]
    rw [← hv]
    exact hc j (by omega)
  have e2 : ∀ v ∈ List.replicate m (nu (-1)), v.oneCell' = true := by
    intro v hv
    rw [(List.mem_replicate.1 hv).2]
    rfl
  have hr := run_copy_row Try.prog w 22 22 ty 3 g k dl dc ⟨g, 0, none⟩ sl sc cur 3 (List.replicate m (nu (-1))) Try.underlying22 sizeI hg (by rw [hl]; exact hd) e1 (by rw [hl]; omega) e2
  rw [hl] at hr
  refine ⟨_, hr, ?_, ?_⟩
  · refine ⟨_, setRow_heap w g cur _ _ _ hg, ?_, fun j hj => ?_⟩
    · simp
      omega
    · rw [← Array.getElem?_toList]
      dsimp only
      have hcl : cur.toList.length = n := by rw [Array.length_toList]; exact hs
      rcases Nat.lt_or_ge j k with h1 | h1
      · rw [List.append_assoc, List.getElem?_append_left (by rw [List.length_take]; omega), List.getElem?_take_of_lt h1, Array.getElem?_toList]
        exact hc j h1
      · rw [List.getElem?_append_left (by simp; omega), List.getElem?_append_right (by rw [List.length_take]; omega), List.length_take, hcl, Nat.min_eq_left (by omega), List.getElem?_replicate_of_lt (by omega)]
  · exact ⟨rfl, rfl, rfl, by simp [World.setRow], fun b hb hne => setRow_other w g b _ hne⟩

theorem Fil.keep {w w' : World} {F : Nat → Prop} {g n k : Nat} (h : Fil w g n k) (hk : Keep F w w') (hn : ¬ F g) : Fil w' g n k := by
  obtain ⟨cur, hg, hs, hc⟩ := h.ex
  exact ⟨cur, hk.at hg hn, hs, hc⟩

theorem Fil.own {w : World} {g n : Nat} (h : Fil w g n n) (base : Nat) (hb : base ≤ g) (hn : n ≤ maxLen) : w.ownsRow base 3 1 (slc g n n) n ((List.replicate n (-1 : Int)).map nu) := by
  obtain ⟨cur, hg, hs, hc⟩ := h.ex
  refine ⟨by simp, .inr ⟨g, n, cur, rfl, hb, hg, Nat.le_refl _, hn, by rw [hs, Nat.mul_one], ?_⟩⟩
  rw [Nat.mul_one, List.take_of_length_le (by rw [Array.length_toList, hs]; exact Nat.le_refl _), List.map_replicate]
  refine List.ext_getElem? (fun j => ?_)
  rw [Array.getElem?_toList]
  rcases Nat.lt_or_ge j n with h1 | h1
  · rw [hc j h1, List.getElem?_replicate_of_lt h1]
  · rw [Array.getElem?_eq_none (by omega), List.getElem?_eq_none (by rw [List.length_replicate]; exact h1)]

theorem make_i (n : Nat) (hn : n ≤ 65536) (w : World) : ∃ w', (Instr.makeSlice 22 (.int .i64 (n : Int)) (.int .i64 (n : Int))).run Try.prog w = .ok (slc w.heap.size n n) w' ∧ Fil w' w.heap.size n 0 ∧ Below w.heap.size w w' := by
  obtain ⟨i0, ji, hz0, hz1, hz2⟩ := info_parts infoI
  obtain ⟨w', h1, h2, h3⟩ := run_makeSlice_full (P := Try.prog) w w.heap.size 22 3 i0 (.int .i64 0) 1 Try.underlying22 ji hz0 hz1 .i64 .i64 n (by omega) (by rw [hz2]; omega) (by unfold maxLen; omega) (Nat.le_refl _)
  refine ⟨w', h1, ?_, ⟨h3.os, h3.tape, h3.output, h3.size, fun k hk => h3.block k hk (by simp)⟩⟩
  rcases h2.2 with ⟨e, _⟩ | ⟨g, cap, cur, e, _, hg, _, _, hs, _⟩
  · simp at e
  · simp only [Value.slice.injEq, Option.some.injEq, Addr.mk.injEq, and_true, true_and] at e
    rw [← e.1] at hg
    exact ⟨cur, hg, by rw [hs, ← e.2, Nat.mul_one], by omega⟩

set_option maxRecDepth 100000 in
set_option maxHeartbeats 2000000 in
theorem repeat_p (w : World) (g n : Nat) (hg : w.cell? ⟨g, 0, none⟩ = some (nu (-1))) (h1 : 1 ≤ n) (hn : n ≤ 65536) :
    Calls Try.prog 33 #[slc g 1 1, nun n] w fun e w' => ∃ b, e = .returned (slc b n n) ∧ w.heap.size ≤ b ∧ Fil w' b n n ∧ Below w.heap.size w w' := by
  have hgl := cell_lt hg
  have cM := fun wx => Try.bits_Mul 1 n (by omega) (by omega) wx
  rw [show 1 * n / 18446744073709551616 = 0 by omega, show 1 * n % 18446744073709551616 = n by omega] at cM
  obtain ⟨wm, hmk, hfm, hbm⟩ := make_i n hn w
  have hw1 : IntKind.u64.wrap (n : Int) = n := by simp [IntKind.wrap, IntKind.bits, IntKind.signed]; omega
  have hw2 : IntKind.i64.wrap (n : Int) = n := by simp [IntKind.wrap, IntKind.bits, IntKind.signed]; omega
  have d0 : decide ((n : Int) < 0) = false := decide_eq_false (by omega)
  have d1 : ¬ ((n : Int) > 9223372036854775807) := by omega
  have d2 : ¬ (9223372036854775807 < (n : Int)) := by omega
  have hn0 : ¬ (n : Int) < 0 := by omega
  -- the first of them
  have hf0 : ∃ w0, (Builtin.copy_ #[22, 22] 3 #[slc w.heap.size n n, slc g 1 1]).run Try.prog wm = .ok (nun 1) w0 ∧ Fil w0 w.heap.size n 1 ∧ Below w.heap.size w w0 := by
    obtain ⟨cur, hgc, hs, hc⟩ := hfm.ex
    refine ⟨_, run_copy_row Try.prog wm 22 22 3 3 w.heap.size 0 n n ⟨g, 0, none⟩ 1 1 cur 3 [nu (-1)] Try.underlying22 sizeI hgc ?_ ?_ (by simp; omega) (by simp [Value.oneCell']), ?_, ?_⟩
    · show 1 = Nat.min 1 n
      exact (Nat.min_eq_left h1).symm
    · intro j v hv
      cases j with
      | zero =>
        simp at hv
        subst hv
        exact (hbm.cell (p := ⟨g, 0, none⟩) hgl).trans hg
      | succ j => simp at hv
    · refine ⟨_, setRow_heap wm w.heap.size cur _ _ _ hgc, by simp; omega, fun j hj => ?_⟩
      obtain rfl : j = 0 := by omega
      simp
    · exact hbm.trans ⟨rfl, rfl, rfl, by simp [World.setRow], fun k hk => setRow_other wm w.heap.size k _ (by omega)⟩
  obtain ⟨w0, hcp, hf0, hb0⟩ := hf0
  have HM := Hid.mk' cM
  have HF0 := Hid.mk' hf0
  have HB0 := Hid.mk' hb0
  clear cM hfm hbm hf0 hb0 hg
  obtain ⟨b, hb⟩ : ∃ b, w.heap.size = b := ⟨_, rfl⟩
  rw [hb] at hmk hcp HF0
  have HBE : Hid (w.heap.size ≤ b) := by show _ ≤ _; omega
  clear hgl hb
  go_enter Try.func33, Try.ntmps33
  go_wp2_with fail
  refine (HM.out _).mono ?_
  rintro e w1 ⟨rfl, rfl⟩
  go_wp2_with fail
  go_loopw [8] (fun kv wr => ∃ k : Nat, kv = nun k ∧ 1 ≤ k ∧ k ≤ n ∧ Hid (Fil wr b n k ∧ Below w1.heap.size w1 wr)) (fun kv _ => n - (intOf kv).toNat)
  case atStart => exact ⟨1, rfl, Nat.le_refl _, h1, HF0.out, HB0.out⟩
  case round =>
    obtain ⟨k, rfl, hk1, hkn, HL⟩ := hrel
    by_cases hlt : k < n
    · have hltI : (k : Int) < (n : Int) := by omega
      obtain ⟨m, hm⟩ : ∃ m, Nat.min k (n - k) = m := ⟨_, rfl⟩
      have hm1 : m ≤ k := by rw [← hm]; exact Nat.min_le_left _ _
      have hm2 : m ≤ n - k := by rw [← hm]; exact Nat.min_le_right _ _
      have hm0 : 0 < m := by
        rw [← hm]
        exact Nat.lt_min.2 ⟨by omega, by omega⟩
      have hfd : Fil wr.drew b n k := HL.out.1.keep (F := fun _ => False) ((Keep.refl _ wr).drew) (fun e => e)
      obtain ⟨w2, hc2, hf2, hk2⟩ := fil_copy hfd (m := m) (by omega) hm1 (n - k) (n - k) k n (by rw [hm]) 3
      have HE : Hid (Fil w2 b n (k + m) ∧ Below w1.heap.size w1 w2) := ⟨hf2, HL.out.2.drew.trans (hk2.below (fun i hi e => by have := HBE.out; omega) HL.out.2.size)⟩
      have hs1 := fun wx => sl_from b n k (by omega) hlt wx
      have hs2 := fun wx => sl_to b n k hkn wx
      have hk0 : (0 : Int) ≤ (k : Int) := by omega
      have hkm : IntKind.i64.wrap ((k : Int) + (m : Int)) = (k : Int) + (m : Int) := by simp [IntKind.wrap, IntKind.bits, IntKind.signed]; omega
      clear hfd hf2 hk2 hm HL hcp hmk HM
      go_wp2_with fail
      go_region
      go_wp2
      go_roundw
      case rel => exact ⟨k + m, by go_num, by omega, by omega, HE⟩
      case measure => simp [intOf]; omega
    · obtain rfl : k = n := by omega
      go_wp2
      go_ret
      exact ⟨b, rfl, HBE.out, HL.out⟩
end Hq
end Go.Proofs.Ythjdpfmnbmnbhaa
