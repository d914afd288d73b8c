/- Layer 22: the document's Child. -/
import Derived.Test.YtbgggekkkcefcabDoorGrS
namespace Go.Proofs.YtbgggekkkcefcabDoor
set_option linter.ambiguousOpen false
open Go.RowKit
namespace Gr
set_option linter.unusedVariables false
set_option linter.unusedSimpArgs false

theorem rbelow_no (p : Sn) (r : Rq) (now births : Int) (hr : r.fit) (h : belowE p r now ≠ 0) (w : World) :
    Calls Tryd.prog 49 #[p.v, r.v, nu now, nu births] w fun e w' => e = .returned (.tuple #[zeroS.v, nu (belowE p r now)]) ∧ Below w.heap.size w w' := by
  refine (rbelow_any p r now births w hr).mono ?_
  rintro e w' ⟨⟨B, _, rfl⟩, hb⟩
  exact ⟨by rw [orS, if_neg h], hb⟩

theorem rbelow_ok (p : Sn) (r : Rq) (now births : Int) (hr : r.fit) (h : belowE p r now = 0) (w : World) :
    Calls Tryd.prog 49 #[p.v, r.v, nu now, nu births] w fun e w' => (∃ B, (0 ≤ births → births < 1048576 → B = births + 1) ∧ e = .returned (.tuple #[.agg #[nu 0, nu B, nu p.slot, nu p.birth, nu 0, .string p.user, .string r.label, su 0, nu 0, nu now, nu (Ck.untilI now r.life p.deadline), nu (p.depth + 1)], nu 0])) ∧ Below w.heap.size w w' := by
  refine (rbelow_any p r now births w hr).mono ?_
  rintro e w' ⟨⟨B, h1, rfl⟩, hb⟩
  exact ⟨⟨B, h1, by rw [orS, if_pos h, h]; rfl⟩, hb⟩

set_option maxRecDepth 100000 in
set_option maxHeartbeats 32000000 in
theorem rchild_any (p : Sn) (r : Rq) (now births : Int) (full : Bool) (w : World) (hp : p.fit) (hr : r.fit) :
    Calls Tryd.prog 31 #[p.v, r.v, nu now, nu births, .bool full] w fun e w' => e = .returned (.tuple #[(orS (childE p r now births full) (childS p r now births)).v, nu (childE p r now births full)]) ∧ Below w.heap.size w w' := by
  have cW := fun w => rwithin_c r.scopes p.scopes w hr.2.2.1 hp.2.2.1
  have cR := room_any births full
  have hb0 := @room_yes births full
  have cN := rbelow_no p r now births hr
  have cO := rbelow_ok p r now births hr
  have hv : r.v = .agg #[.string r.user, .string r.label, su r.scopes, nu r.level, nu r.life] := rfl
  have hpv : p.v = .agg #[nu p.slot, nu p.birth, nu p.us, nu p.ub, nu p.kind, .string p.user, .string p.label, su p.scopes, nu p.level, nu p.born, nu p.deadline, nu p.depth] := rfl
  have hzv : zeroS.v = .agg #[nu 0, nu 0, nu 0, nu 0, nu 0, .string ⟨#[]⟩, .string ⟨#[]⟩, su 0, nu 0, nu 0, nu 0, nu 0] := rfl
  unfold childE
  obtain ⟨E, hE⟩ : ∃ E, roomE births full = E := ⟨_, rfl⟩
  rw [hE] at cR hb0 ⊢
  clear hE
  by_cases hBE : belowE p r now = 0
  · have cB := cO hBE
    simp only [hBE, ne_eq, not_true_eq_false, if_false]
    rw [hpv, hv] at cB ⊢
    obtain ⟨V, hV⟩ : ∃ V, (if inB r.scopes p.scopes = false then (11 : Int) else E) = V := ⟨_, rfl⟩
    rw [hV]
    have HV := hidG hV
    clear cN cO hv hpv hzv hV
    go_enter Tryd.func31, Tryd.ntmps31
    go_wp2_with fail
    refine (cB _).mono ?_
    rintro e w2 ⟨⟨B, hB, rfl⟩, hb⟩
    have k0 := (hb.block w.heap.size (by simp; omega)).trans (three_0 _ _ _ _)
    have k1 := (hb.block (w.heap.size + 1) (by simp)).trans (three_1 _ _ _ _)
    have k2 := (hb.block (w.heap.size + 2) (by simp)).trans (three_at _ _ _ _)
    have HB := hidG (three_off hb)
    obtain ⟨sb, hsb⟩ : ∃ sb, w2.heap.size = sb := ⟨_, rfl⟩
    obtain ⟨D, hD⟩ : ∃ D, Ck.untilI now r.life p.deadline = D := ⟨_, rfl⟩
    obtain ⟨W3, hW3⟩ : ∃ W3, w2.alloc (.cells #[nu 0, nu B, nu p.slot, nu p.birth, nu 0, .string p.user, .string r.label, .int .u64 0, nu 0, nu now, nu D, nu (p.depth + 1)] 28) = W3 := ⟨_, rfl⟩
    have l2 := (Array.getElem?_eq_some_iff.1 k2).1
    have hal : ∀ k o, w2.heap[k]? = some o → W3.heap[k]? = some o := fun k o h => by rw [← hW3]; exact (heap_alloc_old _ _ (Array.getElem?_eq_some_iff.1 h).1).trans h
    have q0 := hal _ _ k0
    have q1 := hal _ _ k1
    have q2 := hal _ _ k2
    have q3 : W3.heap[sb]? = some (.cells #[nu 0, nu B, nu p.slot, nu p.birth, nu 0, .string p.user, .string r.label, .int .u64 0, nu 0, nu now, nu D, nu (p.depth + 1)] 28) := by rw [← hW3, ← hsb]; exact heap_alloc_new _ _
    have HB3 : Hid (Below w.heap.size w W3) := hidG (by rw [← hW3]; exact HB.out.alloc HB.out.size _)
    have c6 : W3.cell? ⟨w.heap.size, 7, none⟩ = some (su p.scopes) := by rw [cell_of_row W3 _ 7 _ _ _ q0]; rfl
    have c7 : W3.cell? ⟨w.heap.size, 8, none⟩ = some (nu p.level) := by rw [cell_of_row W3 _ 8 _ _ _ q0]; rfl
    have r2 : W3.cell? ⟨w.heap.size + 1, 2, none⟩ = some (su r.scopes) := by rw [cell_of_row W3 _ 2 _ _ _ q1]; rfl
    have s3 : W3.cell? ⟨sb, 4, none⟩ = some (nu 0) := by rw [cell_of_row W3 _ 4 _ _ _ q3]; rfl
    have s6 : W3.cell? ⟨sb, 7, none⟩ = some (.int .u64 0) := by rw [cell_of_row W3 _ 7 _ _ _ q3]; rfl
    have s7 : W3.cell? ⟨sb, 8, none⟩ = some (nu 0) := by rw [cell_of_row W3 _ 8 _ _ _ q3]; rfl
    have f3 : W3.frozen? ⟨sb, 4, none⟩ = false := by simp [World.frozen?, q3]
    have f6 : W3.frozen? ⟨sb, 7, none⟩ = false := by simp [World.frozen?, q3]
    have f7 : W3.frozen? ⟨sb, 8, none⟩ = false := by simp [World.frozen?, q3]
    have HSL : Hid (w.heap.size ≤ sb) := hidG (by have := HB.out.size; omega)
    have n0 : ¬ sb = w.heap.size := by omega
    have n1 : ¬ sb = w.heap.size + 1 := by omega
    have n2 : ¬ sb = w.heap.size + 1 + 1 := by omega
    have HW3 := hidG hW3
    have HSB := hidG hsb
    have HD := hidG hD
    have HQ2 := hidG q2
    have HQ3 := hidG q3
    clear hb k0 k1 k2 l2 hal q0 q1 q2 q3 hW3 hsb hD HB
    go_upto_region 2 with fail
    rw [HD.out, HSB.out, HW3.out]
    by_cases hin : inB r.scopes p.scopes = false
    · rw [hin] at cW
      have hV : Hid (V = 11) := hidG (by rw [← HV.out, if_pos hin])
      clear cR hb0 hin HV
      go_wp2_with (first | (go_at_call 50; refine (cW _).mono ?_; rintro e w4 ⟨rfl, rfl⟩) | (refine wpList_store_sn rfl _ _ rfl (w.heap.size + 1 + 1) rfl zeroS zeroS rfl HQ2.out ?_; intro w3 hh hg; have HH := hidG hh; have HG := hidG hg; clear hh hg) | fail)
      refine bodyPost_ret (results_sn rfl _ _ (w.heap.size + 2) zeroS rfl HH.out) rfl ⟨by rw [hV.out]; rfl, HB3.out.grown HG.out HB3.out.size (fun k e => by cases e; omega)⟩
    rw [Bool.not_eq_false] at hin
    rw [hin] at cW
    have hV : Hid (V = E) := hidG (by rw [← HV.out, hin]; rfl)
    by_cases hE0 : E = 0
    · subst hE0
      obtain ⟨b1, b2, rfl⟩ := hb0 rfl
      clear hin hb0
      obtain rfl := hB b1 b2
      obtain ⟨S0, hS0⟩ : ∃ S0 : Sn, S0 = ⟨0, births + 1, p.slot, p.birth, 0, p.user, r.label, 0, 0, now, D, p.depth + 1⟩ := ⟨_, rfl⟩
      obtain ⟨S1, hS1⟩ : ∃ S1 : Sn, S1 = { S0 with kind := 1, scopes := r.scopes, level := p.level } := ⟨_, rfl⟩
      have hq3 : W3.heap[sb]? = some (.cells S0.arr 28) := by rw [hS0]; exact HQ3.out
      have hs3 := set_sn hq3 1 r.scopes p.level
      rw [← hS1] at hs3
      have hq2 : W3.heap[w.heap.size + 1 + 1]? = some (.cells zeroS.arr 28) := HQ2.out
      have HF3 := hidG (set_far hq2 n2 (nu 1) (su r.scopes) (nu p.level))
      have HS3 := hidG hs3
      have HE1 : Hid (childS p r now births = S1) := hidG (by rw [hS1, hS0, ← HD.out]; rfl)
      clear hq2 hq3 hs3 hS0 hS1 hB
      go_wp2_with (first | (go_at_call 50; refine (cW _).mono ?_; rintro e w4 ⟨rfl, rfl⟩) | (go_at_call 47; refine (cR _).mono ?_; rintro e w4 ⟨rfl, rfl⟩) | (refine wpList_load_sn rfl _ rfl sb rfl S1 HS3.out ?_) | (refine wpList_store_sn rfl _ _ rfl (w.heap.size + 1 + 1) rfl S1 zeroS rfl HF3.out ?_; intro w5 hh hg; have HH := hidG hh; have HG := hidG hg; clear hh hg) | fail)
      have hsb' := HSL.out
      refine bodyPost_ret (results_sn rfl _ _ (w.heap.size + 2) _ rfl HH.out) rfl ⟨?_, (((HB3.out.setCell (p := ⟨sb, 4, none⟩) (by show w.heap.size ≤ sb; omega) _).setCell (p := ⟨sb, 7, none⟩) (by show w.heap.size ≤ sb; omega) _).setCell (p := ⟨sb, 8, none⟩) (by show w.heap.size ≤ sb; omega) _).grown HG.out (by simpa using HB3.out.size) (fun k e => by cases e; omega)⟩
      rw [hV.out, orS, if_pos rfl, HE1.out]
      rfl
    · clear hin hb0
      go_wp2_with (first | (go_at_call 50; refine (cW _).mono ?_; rintro e w4 ⟨rfl, rfl⟩) | (go_at_call 47; refine (cR _).mono ?_; rintro e w4 ⟨rfl, rfl⟩) | (refine wpList_store_sn rfl _ _ rfl (w.heap.size + 1 + 1) rfl zeroS zeroS rfl HQ2.out ?_; intro w3 hh hg; have HH := hidG hh; have HG := hidG hg; clear hh hg) | fail)
      refine bodyPost_ret (results_sn rfl _ _ (w.heap.size + 2) zeroS rfl HH.out) rfl ⟨by rw [hV.out, orS, if_neg hE0]; rfl, HB3.out.grown HG.out HB3.out.size (fun k e => by cases e; omega)⟩
  · have cB := cN hBE
    simp only [hBE, ne_eq, not_false_eq_true, if_true]
    obtain ⟨G, hG⟩ : ∃ G, belowE p r now = G := ⟨_, rfl⟩
    rw [hG] at cB hBE ⊢
    rw [hpv, hv] at cB ⊢
    rw [hzv] at cB
    clear cN cO hv hpv hzv cW cR hb0
    go_enter Tryd.func31, Tryd.ntmps31
    go_wp2_with fail
    refine (cB _).mono ?_
    rintro e w2 ⟨rfl, hb⟩
    have k2 := (hb.block (w.heap.size + 2) (by simp)).trans (three_at _ _ _ _)
    have HB := hidG (three_off hb)
    have HWZ : Hid (w.heap.size ≤ w2.heap.size) := hidG HB.out.size
    have HK2 : Hid (∀ o, (w2.alloc o).heap[w.heap.size + 1 + 1]? = some (.cells zeroS.arr 28)) := hidG fun o => (heap_alloc_old _ _ (Array.getElem?_eq_some_iff.1 k2).1).trans k2
    clear hb k2
    go_wp2_with (first | (refine wpList_store_sn rfl _ _ rfl (w.heap.size + 1 + 1) rfl zeroS zeroS rfl (HK2.out _) ?_; intro w3 hh hg; have HH := hidG hh; have HG := hidG hg; clear hh hg) | fail)
    refine bodyPost_ret (results_sn rfl _ _ (w.heap.size + 2) zeroS rfl HH.out) rfl ⟨by rw [orS, if_neg hBE]; rfl, (HB.out.alloc HWZ.out _).grown HG.out (by have := HWZ.out; simp; omega) (fun k e => by cases e; omega)⟩
end Gr
end Go.Proofs.YtbgggekkkcefcabDoor
