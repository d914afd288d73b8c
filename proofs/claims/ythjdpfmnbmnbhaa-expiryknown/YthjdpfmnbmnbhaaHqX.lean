/- The program's heap: Drop. -/
import Derived.Test.YthjdpfmnbmnbhaaHqN
import Derived.ArgAppend
import Derived.Lib.SliceRun
namespace Go.Proofs.Ythjdpfmnbmnbhaa
set_option linter.ambiguousOpen false
open Go.RowKit
namespace Hq
open Hh Ft
set_option linter.unusedSimpArgs false
set_option linter.unusedVariables false
attribute [local go_sem] Oper.semAt_some

theorem sl3 (g n c l : Nat) (h : l + 1 = n) (hc : n ≤ c) (w : World) : (Instr.slice 61 (slc g n c) (some (nun l)) (some (nun n)) (some (nun n))).run Try.prog w = .ok (.slice (some ⟨g, l * 2, none⟩) 1 1) w := by
  subst h
  have h1 : (0 : Int) ≤ (l : Int) ∧ (l : Int) ≤ (l : Int) + 1 ∧ (l : Int) + 1 ≤ (c : Int) ∧ (0 : Int) ≤ (l : Int) + 1 := by omega
  have h3 : l + 1 - l = 1 := by omega
  have h4 : ((l : Int) + 1).toNat = l + 1 := by omega
  obtain ⟨i0, ji, kz0, kz1, kz2⟩ := info_parts infoE
  have hu := Try.underlying61
  by_cases h0 : l = 0
  · subst h0
    simp [Instr.slice, Instr.sliceBounds, Instr.sliceBound, asIntOf, run_underlying hu, Addr.add, h1, sizeOf, typeInfo, ji, kz1]
    try omega
  · simp [Instr.slice, Instr.sliceBounds, Instr.sliceBound, asIntOf, run_underlying hu, Addr.add, h1, sizeOf, typeInfo, ji, kz1, h0, h3, h4]
    try omega

theorem sl_toE (g n c l : Nat) (h : l ≤ n) (hc : n ≤ c) (w : World) : (Instr.slice 61 (slc g n c) none (some (nun l)) none).run Try.prog w = .ok (slc g l c) w := by
  have h1 : (0 : Int) ≤ (l : Int) ∧ (l : Int) ≤ (n : Int) ∧ (n : Int) ≤ (c : Int) := by omega
  obtain ⟨i0, ji, kz0, kz1, kz2⟩ := info_parts infoE
  have hu := Try.underlying61
  simp [Instr.slice, Instr.sliceBounds, Instr.sliceBound, asIntOf, run_underlying hu, Addr.add, h1, sizeOf, typeInfo, ji, kz1]
  omega

theorem sl_fromE (g n c l : Nat) (h : l ≤ n) (hc : n ≤ c) (w : World) : ∃ ad, (Instr.slice 61 (slc g n c) (some (nun l)) none none).run Try.prog w = .ok (.slice (some ad) (n - l) (c - l)) w ∧ (l < c → ad = ⟨g, l * 2, none⟩) := by
  have h1 : (0 : Int) ≤ (l : Int) ∧ (l : Int) ≤ (n : Int) ∧ (n : Int) ≤ (c : Int) := by omega
  obtain ⟨i0, ji, kz0, kz1, kz2⟩ := info_parts infoE
  have hu := Try.underlying61
  by_cases hl : c = l
  · refine ⟨⟨g, 0, none⟩, ?_, by omega⟩
    simp [Instr.slice, Instr.sliceBounds, Instr.sliceBound, asIntOf, run_underlying hu, Addr.add, h1, sizeOf, typeInfo, ji, kz1, hl]
    omega
  · refine ⟨⟨g, l * 2, none⟩, ?_, fun _ => rfl⟩
    by_cases h0 : l = 0
    · subst h0
      simp [Instr.slice, Instr.sliceBounds, Instr.sliceBound, asIntOf, run_underlying hu, Addr.add, h1, sizeOf, typeInfo, ji, kz1, hl]
      try omega
    · simp [Instr.slice, Instr.sliceBounds, Instr.sliceBound, asIntOf, run_underlying hu, Addr.add, h1, sizeOf, typeInfo, ji, kz1, hl, h0, h]
      try omega

/-- Sliced to one element, from l on. -/
theorem sl_oneE (g n c l : Nat) (h : l + 1 = n) (hc : n ≤ c) (w : World) : (Instr.slice 61 (slc g l c) (some (nun l)) (some (nun n)) none).run Try.prog w = .ok (.slice (some ⟨g, l * 2, none⟩) 1 (c - l)) w := by
  subst h
  have h1 : (0 : Int) ≤ (l : Int) ∧ (l : Int) ≤ (l : Int) + 1 ∧ (l : Int) + 1 ≤ (c : Int) ∧ (0 : Int) ≤ (l : Int) + 1 := by omega
  have hl : c ≠ l := by omega
  have h3 : l + 1 - l = 1 := by omega
  have h4 : ((l : Int) + 1).toNat = l + 1 := by omega
  obtain ⟨i0, ji, kz0, kz1, kz2⟩ := info_parts infoE
  have hu := Try.underlying61
  by_cases h0 : l = 0
  · subst h0
    simp [Instr.slice, Instr.sliceBounds, Instr.sliceBound, asIntOf, run_underlying hu, Addr.add, sizeOf, typeInfo, ji, kz1, hl]
    try omega
  · simp [Instr.slice, Instr.sliceBounds, Instr.sliceBound, asIntOf, run_underlying hu, Addr.add, h1, sizeOf, typeInfo, ji, kz1, hl, h0, h3, h4]
    try omega

theorem zeroE (w : World) : (zeroValue 70).run Try.prog w = .ok (.agg #[nu 0, nu 0]) w := Try.zeroValue70 w

theorem clear_one (w : World) (g o c : Nat) (ty : TypeId) (h0 : ∃ u, w.cell? ⟨g, o, none⟩ = some u) (h1 : ∃ u, w.cell? ⟨g, o + 1, none⟩ = some u) (f0 : w.frozen? ⟨g, o, none⟩ = false) (f1 : w.frozen? ⟨g, o + 1, none⟩ = false) :
    (Builtin.clear_ #[61] ty #[.slice (some ⟨g, o, none⟩) 1 c]).run Try.prog w = .ok (.tuple #[]) ((w.setCell ⟨g, o, none⟩ (nu 0)).setCell ⟨g, o + 1, none⟩ (nu 0)) := by
  obtain ⟨u0, h0⟩ := h0
  obtain ⟨u1, h1⟩ := h1
  have hst := run_storeCells_cells (P := Try.prog) g o [nu 0, nu 0] 0 w (fun j hj => by
    rcases j with _ | _ | j
    · simp [h0]
    · simp [h1]
    · simp at hj
      omega) (fun j hj => by
    rcases j with _ | _ | j
    · simpa using f0
    · simpa using f1
    · simp at hj
      omega) (by simp [Value.oneCell'])
  simp only [Nat.add_zero] at hst
  have hu := Try.underlying61
  have hz := zeroE
  simp [Builtin.clear_, run_underlying hu, hz, Builtin.zeroCells, Value.cells]
  rw [show List.map (fun i => [nu 0, nu 0][i % 2]?.getD default) (List.range 2) = [nu 0, nu 0] from rfl, hst]
  rfl

set_option maxRecDepth 100000 in
set_option maxHeartbeats 2000000 in
theorem delete_p {w : World} {rb rc n l : Nat} {D : List It} (ho : w.ownsRow 0 70 2 (slc rb n rc) n (D.flatMap It.cells)) (hl : l + 1 = n) (hD : D.length = n) :
    Calls Try.prog 37 #[slc rb n rc, nun l, nun n] w fun e w' => e = .returned (slc rb l rc) ∧ w'.ownsRow 0 70 2 (slc rb l rc) l ((D.take l).flatMap It.cells) ∧ Keep (fun k => k = rb) w w' := by
  obtain ⟨i0, ji, kz0, kz1, kz2⟩ := info_parts infoE
  obtain ⟨g, c, e, hc1, hc2, hg⟩ := own_slc ho (by omega)
  simp only [Value.slice.injEq, Option.some.injEq, Addr.mk.injEq, and_true, true_and] at e
  obtain ⟨rfl, rfl⟩ := e
  have hc2' := hc2
  unfold maxLen at hc2'
  have hcI : (rc : Int) ≤ 9223372036854775807 := by omega
  have hlen : (D.flatMap It.cells).length = n * 2 := ho.1
  have hod : w.drew.ownsRow 0 70 2 (slc rb n rc) n (D.flatMap It.cells) := (Keep.refl (fun _ => False) w).drew.own ho (fun _ _ e => e)
  obtain ⟨h0, f0⟩ := own_still hod (l * 2) (by omega)
  obtain ⟨h1, f1⟩ := own_still hod (l * 2 + 1) (by omega)
  have hclr := clear_one w.drew rb (l * 2) (rc - l) 0 h0 h1 f0 f1
  have s3 := fun wx => sl3 rb n rc l hl hc1 wx
  have sT := fun wx => sl_toE rb n rc l (by omega) hc1 wx
  have sO := fun wx => sl_oneE rb n rc l hl hc1 wx
  obtain ⟨ad, sF, _⟩ : ∃ ad, (∀ wx, (Instr.slice 61 (slc rb n rc) (some (nun n)) none none).run Try.prog wx = .ok (.slice (some ad) 0 (rc - n)) wx) ∧ True := by
    by_cases hh : rc = n
    · obtain ⟨ad, ha, _⟩ := sl_fromE rb n rc n (Nat.le_refl _) hc1 w
      refine ⟨⟨rb, 0, none⟩, fun wx => ?_, trivial⟩
      have hu := Try.underlying61
      have h9 : (0 : Int) ≤ (n : Int) ∧ (n : Int) ≤ (rc : Int) := by omega
      subst hh
      simp [Instr.slice, Instr.sliceBounds, Instr.sliceBound, asIntOf, run_underlying hu, Addr.add, sizeOf, typeInfo, ji, kz1]
    · refine ⟨⟨rb, n * 2, none⟩, fun wx => ?_, trivial⟩
      obtain ⟨ad, ha, hb⟩ := sl_fromE rb n rc n (Nat.le_refl _) hc1 wx
      rw [hb (by omega), Nat.sub_self] at ha
      exact ha
  have hap : (Builtin.append_ #[61, 61] 61 #[slc rb l rc, .slice (some ad) 0 (rc - n)]).run Try.prog w.drew = .ok (slc rb l rc) w.drew := by
    have := run_append_room_cells (P := Try.prog) w.drew 61 61 70 i0 Try.underlying61 ji rb 0 l rc ad 0 (rc - n) [] (by simp) (by simp) (by simp) (by omega) (by simp) (by simp)
    simpa [World.setCells] using this
  obtain ⟨w2, hw2⟩ : ∃ w2, (w.drew.setCell ⟨rb, l * 2, none⟩ (nu 0)).setCell ⟨rb, l * 2 + 1, none⟩ (nu 0) = w2 := ⟨_, rfl⟩
  rw [hw2] at hclr
  have HE : Hid (w2.ownsRow 0 70 2 (slc rb l rc) l ((D.take l).flatMap It.cells) ∧ Keep (fun k => k = rb) w w2) := by
    have hs := own_setS (own_setS hod (l * 2) (nu 0)) (l * 2 + 1) (nu 0)
    rw [flat_set D l ⟨0, 0⟩, hw2] at hs
    refine ⟨?_, ?_⟩
    · refine ⟨by rw [flat_lenI, List.length_take]; congr 1; omega, ?_⟩
      rcases hs.2 with ⟨e, _⟩ | ⟨g, cap, cur, e, hb, hgg, hn, hm, hsz, htk⟩
      · simp at e
      · simp only [Value.slice.injEq, Option.some.injEq, Addr.mk.injEq, and_true, true_and] at e
        obtain ⟨rfl, rfl⟩ := e
        refine .inr ⟨rb, rc, cur, rfl, hb, hgg, by omega, hm, hsz, ?_⟩
        have h3 : cur.toList.take (l * 2) = (cur.toList.take (n * 2)).take (l * 2) := by rw [List.take_take, Nat.min_eq_left (by omega)]
        rw [h3, htk]
        have h5 : (D.set l ⟨0, 0⟩).flatMap It.cells = (D.take l).flatMap It.cells ++ ((D.set l ⟨0, 0⟩).drop l).flatMap It.cells := by
          conv => lhs; rw [← List.take_append_drop l (D.set l ⟨0, 0⟩)]
          rw [List.flatMap_append, List.take_set, List.set_eq_of_length_le (by rw [List.length_take]; omega)]
        rw [h5, List.take_append_of_le_length (by rw [flat_lenI, List.length_take]; omega)]
        exact List.take_of_length_le (by rw [flat_lenI, List.length_take]; omega)
    · rw [← hw2]
      exact (((Keep.refl (fun k => k = rb) w).drew).setCell (p := ⟨rb, l * 2, none⟩) (.inl rfl) _).setCell (p := ⟨rb, l * 2 + 1, none⟩) (.inl rfl) _
  have hb : ((l : Int) == (n : Int)) = false := by
    simp only [beq_eq_false_iff_ne]
    omega
  clear ho hod h0 f0 h1 f1 hw2 hc2 hc2' hD hlen
  go_enter Try.func37, Try.ntmps37
  go_upto_region 5 with fail
  go_region
  go_wp2
  go_ret
  exact ⟨rfl, HE.out⟩
end Hq
end Go.Proofs.Ythjdpfmnbmnbhaa
