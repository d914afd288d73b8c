/- Layer 22: the document's Raised. -/
import Derived.Test.YtbgggekkkcefcabDoorGrC
namespace Go.Proofs.YtbgggekkkcefcabDoor
set_option linter.ambiguousOpen false
open Go.RowKit
namespace Gr
set_option linter.unusedVariables false
set_option linter.unusedSimpArgs false

theorem far_new {w3 w5 : World} {o x : Obj} {g : Nat} (h : w3.heap[g]? = some x) (hg : (w3.alloc o).grownBy w5 (some w3.heap.size)) : w5.heap[g]? = some x := by
  have lt := (Array.getElem?_eq_some_iff.1 h).1
  exact (hg.block g (by simp; omega) (by intro h; have := Option.some.inj h; omega)).trans ((heap_alloc_old _ _ lt).trans h)

theorem below_new {w w3 w5 : World} {o : Obj} (hB : Below w.heap.size w w3) (hg : (w3.alloc o).grownBy w5 (some w3.heap.size)) : Below w.heap.size w w5 :=
  (hB.alloc hB.size o).grown hg (by have := hB.size; simp; omega) (fun k e => by cases e; exact hB.size)

theorem beq_n {a b : Int} (h : ¬ a = b) : (a == b) = false := by simpa using h
theorem beq_y {a b : Int} (h : a = b) : (a == b) = true := by simpa using h
theorem bne_n {a b : Int} (h : ¬ a = b) : (a != b) = true := by simpa using h
theorem bne_y {a b : Int} (h : a = b) : (a != b) = false := by simpa using h

theorem three_facts (w : World) (p : Sn) (r : Rq) : ∃ w3, ((w.alloc (.cells p.arr 28)).alloc (.cells r.arr 34)).alloc (.cells zeroS.arr 28) = w3 ∧
    w3.heap[w.heap.size]? = some (.cells p.arr 28) ∧ w3.heap[w.heap.size + 1]? = some (.cells r.arr 34) ∧ w3.heap[w.heap.size + 2]? = some (.cells zeroS.arr 28) ∧ Below w.heap.size w w3 :=
  ⟨_, rfl, three_0 _ _ _ _, three_1 _ _ _ _, three_at _ _ _ _, three_below _ _ _ _⟩

set_option maxRecDepth 100000 in
set_option maxHeartbeats 32000000 in
theorem rraised_any (p : Sn) (r : Rq) (now births : Int) (full : Bool) (w : World) (hp : p.fit) (hr : r.fit) :
    Calls Tryd.prog 32 #[p.v, r.v, nu now, nu births, .bool full] w fun e w' => e = .returned (.tuple #[(orS (raiseE p r now births full) (raiseS p r now births)).v, nu (raiseE p r now births full)]) ∧ Below w.heap.size w w' := by
  have cP := is_any p.level
  have cL := is_any r.level
  have cR := room_any births full
  have hb0 := @room_yes births full
  have cB := fun w => rbelow_any p r now births w hr
  obtain ⟨w3, h3, u0, u1, u2, hB⟩ := three_facts w p r
  have H3 : Hid (((w.alloc (.cells #[nu p.slot, nu p.birth, nu p.us, nu p.ub, nu p.kind, .string p.user, .string p.label, su p.scopes, nu p.level, nu p.born, nu p.deadline, nu p.depth] 28)).alloc (.cells #[.string r.user, .string r.label, su r.scopes, nu r.level, nu r.life] 34)).alloc (.cells #[.int .i64 0, .int .i64 0, .int .i64 0, .int .i64 0, .int .i64 0, .string ⟨#[]⟩, .string ⟨#[]⟩, .int .u64 0, .int .i64 0, .int .i64 0, .int .i64 0, .int .i64 0] 28) = w3) := hidG h3
  have U0 := hidG u0
  have U1 := hidG u1
  have U2 := hidG u2
  have HB := hidG hB
  unfold raiseE
  obtain ⟨E, hE⟩ : ∃ E, roomE births full = E := ⟨_, rfl⟩
  rw [hE] at cR hb0 ⊢
  obtain ⟨B, hBE⟩ : ∃ B, belowE p r now = B := ⟨_, rfl⟩
  rw [hBE] at cB ⊢
  have HCB := hidG cB
  obtain ⟨V, hV⟩ : ∃ V, (if B = 8 then (8 : Int) else if r.life < 1 ∨ 300 < r.life then 12 else if B ≠ 0 then B else if lvlB p.level = false ∨ lvlB r.level = false ∨ r.level ≤ p.level then 13 else E) = V := ⟨_, rfl⟩
  rw [hV]
  have HV := hidG hV
  clear hE hBE hV cB h3 u0 u1 u2 hB
  show Calls Tryd.prog 32 #[.agg #[nu p.slot, nu p.birth, nu p.us, nu p.ub, nu p.kind, .string p.user, .string p.label, su p.scopes, nu p.level, nu p.born, nu p.deadline, nu p.depth], .agg #[.string r.user, .string r.label, su r.scopes, nu r.level, nu r.life], nu now, nu births, .bool full] w _
  go_enter Tryd.func32, Tryd.ntmps32
  go_wp2_with (first | (rw [H3.out]; refine wpList_load_sn rfl _ rfl w.heap.size rfl p U0.out ?_) | (refine wpList_load_rqX rfl _ rfl (w.heap.size + 1) rfl r U1.out ?_) | fail)
  refine (HCB.out _).mono ?_
  rintro e w4 ⟨⟨Bx, hBx, rfl⟩, hb4⟩
  have x0 := hidG ((hb4.block _ (Array.getElem?_eq_some_iff.1 U0.out).1).trans U0.out)
  have x1 := hidG ((hb4.block _ (Array.getElem?_eq_some_iff.1 U1.out).1).trans U1.out)
  have x2 := hidG ((hb4.block _ (Array.getElem?_eq_some_iff.1 U2.out).1).trans U2.out)
  have lt2 := (Array.getElem?_eq_some_iff.1 x2.out).1
  have HB4 := hidG (HB.out.trans (hb4.mono HB.out.size))
  have HN := hidG (heap_alloc_new w4 (.cells #[.int .i64 0, .int .i64 0, .int .i64 0, .int .i64 0, .int .i64 0, .string ⟨#[]⟩, .string ⟨#[]⟩, .int .u64 0, .int .i64 0, .int .i64 0, .int .i64 0, .int .i64 0] 28))
  have n0 : ¬ w4.heap.size = w.heap.size := by omega
  have n1 : ¬ w4.heap.size = w.heap.size + 1 := by omega
  have n2 : ¬ w4.heap.size = w.heap.size + 1 + 1 := by omega
  obtain ⟨S0, hS0⟩ : ∃ S0 : Sn, orS B { belowS p r now births with birth := Bx } = S0 := ⟨_, rfl⟩
  rw [hS0]
  have HS0 := hidG hS0
  have HBX := hidG hBx
  clear hb4 U0 U1 U2 HB lt2 H3 HCB hS0 hBx
  go_upto_region 2 with (first | (refine wpList_store_sn rfl _ _ rfl w4.heap.size rfl S0 zeroS rfl HN.out ?_; intro w5 hh hg; have y0 := far_new x0.out hg; have y1 := far_new x1.out hg; have Y2 := hidG (far_new x2.out hg); have HB5 := hidG (below_new HB4.out hg); have Y3 := hidG hh; have k7 : w5.cell? ⟨w.heap.size, 7, none⟩ = some (su p.scopes) := by { rw [cell_of_row w5 _ 7 _ _ _ y0]; rfl }; have k8 : w5.cell? ⟨w.heap.size, 8, none⟩ = some (nu p.level) := by { rw [cell_of_row w5 _ 8 _ _ _ y0]; rfl }; have k3 : w5.cell? ⟨w.heap.size + 1, 3, none⟩ = some (nu r.level) := by { rw [cell_of_row w5 _ 3 _ _ _ y1]; rfl }; have k4 : w5.cell? ⟨w.heap.size + 1, 4, none⟩ = some (nu r.life) := by { rw [cell_of_row w5 _ 4 _ _ _ y1]; rfl }; have c4 : w5.cell? ⟨w4.heap.size, 4, none⟩ = some (nu S0.kind) := by { rw [cell_of_row w5 _ 4 _ _ _ hh]; rfl }; have c7 : w5.cell? ⟨w4.heap.size, 7, none⟩ = some (su S0.scopes) := by { rw [cell_of_row w5 _ 7 _ _ _ hh]; rfl }; have c8 : w5.cell? ⟨w4.heap.size, 8, none⟩ = some (nu S0.level) := by { rw [cell_of_row w5 _ 8 _ _ _ hh]; rfl }; have f4 : w5.frozen? ⟨w4.heap.size, 4, none⟩ = false := by { simp [World.frozen?, hh] }; have f7 : w5.frozen? ⟨w4.heap.size, 7, none⟩ = false := by { simp [World.frozen?, hh] }; have f8 : w5.frozen? ⟨w4.heap.size, 8, none⟩ = false := by { simp [World.frozen?, hh] }; clear hh hg y0 y1 x0 x1 x2 HN) | fail)
  by_cases h8 : B = 8
  · have hV : Hid (V = 8) := hidG (by rw [← HV.out, if_pos h8])
    subst h8
    clear cP cL cR hb0 HV k7 k8 k3 k4 c4 c7 c8 f4 f7 f8
    go_wp2_with (first | (go_at_call 46; first | (with_reducible refine (cP _).mono ?_; rintro e w8 ⟨rfl, rfl⟩) | (with_reducible refine (cL _).mono ?_; rintro e w8 ⟨rfl, rfl⟩)) | (go_at_call 47; refine (cR _).mono ?_; rintro e w8 ⟨rfl, rfl⟩) | (refine wpList_store_sn rfl _ _ rfl (w.heap.size + 1 + 1) rfl zeroS zeroS rfl Y2.out ?_; intro w6 hh hg; have HF := hidG hh; have HG6 := hidG hg; clear hh hg) | fail)
    refine bodyPost_ret (results_sn rfl _ _ (w.heap.size + 1 + 1) zeroS rfl HF.out) rfl ⟨?_, HB5.out.grown HG6.out HB5.out.size (fun k e => by cases e; omega)⟩
    rw [hV.out]
    rfl
  have b8 := beq_n h8
  by_cases hl1 : r.life < 1
  · have hV : Hid (V = 12) := hidG (by rw [← HV.out, if_neg h8, if_pos (.inl hl1)])
    clear cP cL cR hb0 HV k7 k8 k3 c4 c7 c8 f4 f7 f8 h8
    go_wp2_with (first | (go_at_call 46; first | (with_reducible refine (cP _).mono ?_; rintro e w8 ⟨rfl, rfl⟩) | (with_reducible refine (cL _).mono ?_; rintro e w8 ⟨rfl, rfl⟩)) | (go_at_call 47; refine (cR _).mono ?_; rintro e w8 ⟨rfl, rfl⟩) | (refine wpList_store_sn rfl _ _ rfl (w.heap.size + 1 + 1) rfl zeroS zeroS rfl Y2.out ?_; intro w6 hh hg; have HF := hidG hh; have HG6 := hidG hg; clear hh hg) | fail)
    refine bodyPost_ret (results_sn rfl _ _ (w.heap.size + 1 + 1) zeroS rfl HF.out) rfl ⟨?_, HB5.out.grown HG6.out HB5.out.size (fun k e => by cases e; omega)⟩
    rw [hV.out]
    rfl
  by_cases hl2 : 300 < r.life
  · have hV : Hid (V = 12) := hidG (by rw [← HV.out, if_neg h8, if_pos (.inr hl2)])
    clear cP cL cR hb0 HV k7 k8 k3 c4 c7 c8 f4 f7 f8 h8
    go_wp2_with (first | (go_at_call 46; first | (with_reducible refine (cP _).mono ?_; rintro e w8 ⟨rfl, rfl⟩) | (with_reducible refine (cL _).mono ?_; rintro e w8 ⟨rfl, rfl⟩)) | (go_at_call 47; refine (cR _).mono ?_; rintro e w8 ⟨rfl, rfl⟩) | (refine wpList_store_sn rfl _ _ rfl (w.heap.size + 1 + 1) rfl zeroS zeroS rfl Y2.out ?_; intro w6 hh hg; have HF := hidG hh; have HG6 := hidG hg; clear hh hg) | fail)
    refine bodyPost_ret (results_sn rfl _ _ (w.heap.size + 1 + 1) zeroS rfl HF.out) rfl ⟨?_, HB5.out.grown HG6.out HB5.out.size (fun k e => by cases e; omega)⟩
    rw [hV.out]
    rfl
  by_cases hB0 : B = 0
  · obtain ⟨X, hX⟩ : ∃ X, lvlB p.level = X := ⟨_, rfl⟩
    obtain ⟨Y, hY⟩ : ∃ Y, lvlB r.level = Y := ⟨_, rfl⟩
    rw [hX] at cP
    rw [hY] at cL
    have hV1 : V = (if X = false ∨ Y = false ∨ r.level ≤ p.level then 13 else E) := by rw [← HV.out, if_neg h8, if_neg (fun h => by rcases h with h | h <;> omega), if_neg (fun h => h hB0), hX, hY]
    have hV0 := hV1.symm
    clear hV1
    subst hB0
    have HV0 := hidG hV0
    clear HV hX hY h8 hV0
    cases X
    · have hV : Hid (V = 13) := hidG (by rw [← HV0.out, if_pos (.inl rfl)])
      clear cL cR hb0 HV0 k7 c4 c7 c8 f4 f7 f8
      go_wp2_with (first | (go_at_call 46; first | (with_reducible refine (cP _).mono ?_; rintro e w8 ⟨rfl, rfl⟩) | (with_reducible refine (cL _).mono ?_; rintro e w8 ⟨rfl, rfl⟩)) | (go_at_call 47; refine (cR _).mono ?_; rintro e w8 ⟨rfl, rfl⟩) | (refine wpList_store_sn rfl _ _ rfl (w.heap.size + 1 + 1) rfl zeroS zeroS rfl Y2.out ?_; intro w6 hh hg; have HF := hidG hh; have HG6 := hidG hg; clear hh hg) | fail)
      refine bodyPost_ret (results_sn rfl _ _ (w.heap.size + 1 + 1) zeroS rfl HF.out) rfl ⟨?_, HB5.out.grown HG6.out HB5.out.size (fun k e => by cases e; omega)⟩
      rw [hV.out]
      rfl
    cases Y
    · have hV : Hid (V = 13) := hidG (by rw [← HV0.out, if_pos (.inr (.inl rfl))])
      clear cR hb0 HV0 k7 c4 c7 c8 f4 f7 f8
      go_wp2_with (first | (go_at_call 46; first | (with_reducible refine (cP _).mono ?_; rintro e w8 ⟨rfl, rfl⟩) | (with_reducible refine (cL _).mono ?_; rintro e w8 ⟨rfl, rfl⟩)) | (go_at_call 47; refine (cR _).mono ?_; rintro e w8 ⟨rfl, rfl⟩) | (refine wpList_store_sn rfl _ _ rfl (w.heap.size + 1 + 1) rfl zeroS zeroS rfl Y2.out ?_; intro w6 hh hg; have HF := hidG hh; have HG6 := hidG hg; clear hh hg) | fail)
      refine bodyPost_ret (results_sn rfl _ _ (w.heap.size + 1 + 1) zeroS rfl HF.out) rfl ⟨?_, HB5.out.grown HG6.out HB5.out.size (fun k e => by cases e; omega)⟩
      rw [hV.out]
      rfl
    by_cases hle : r.level ≤ p.level
    · have hV : Hid (V = 13) := hidG (by rw [← HV0.out, if_pos (.inr (.inr hle))])
      clear cR hb0 HV0 k7 c4 c7 c8 f4 f7 f8
      go_wp2_with (first | (go_at_call 46; first | (with_reducible refine (cP _).mono ?_; rintro e w8 ⟨rfl, rfl⟩) | (with_reducible refine (cL _).mono ?_; rintro e w8 ⟨rfl, rfl⟩)) | (go_at_call 47; refine (cR _).mono ?_; rintro e w8 ⟨rfl, rfl⟩) | (refine wpList_store_sn rfl _ _ rfl (w.heap.size + 1 + 1) rfl zeroS zeroS rfl Y2.out ?_; intro w6 hh hg; have HF := hidG hh; have HG6 := hidG hg; clear hh hg) | fail)
      refine bodyPost_ret (results_sn rfl _ _ (w.heap.size + 1 + 1) zeroS rfl HF.out) rfl ⟨?_, HB5.out.grown HG6.out HB5.out.size (fun k e => by cases e; omega)⟩
      rw [hV.out]
      rfl
    have hV : Hid (V = E) := hidG (by rw [← HV0.out, if_neg (fun h => by rcases h with h | h | h <;> simp_all)])
    clear HV0
    by_cases hE0 : E = 0
    · subst hE0
      obtain ⟨b1, b2, rfl⟩ := hb0 rfl
      obtain ⟨S1, hS1⟩ : ∃ S1 : Sn, S1 = { S0 with kind := 2, scopes := p.scopes, level := r.level } := ⟨_, rfl⟩
      have hs3 := set_sn Y3.out 2 p.scopes r.level
      rw [← hS1] at hs3
      have HF3 := hidG (set_far Y2.out n2 (nu 2) (su p.scopes) (nu r.level))
      have HS3 := hidG hs3
      have HE1 : Hid (raiseS p r now births = S1) := hidG (by rw [hS1, ← HS0.out, HBX.out b1 b2]; rfl)
      have hsz := HB4.out.size
      have HB8 : Hid (Below w.heap.size w (((w5.setCell ⟨w4.heap.size, 4, none⟩ (nu 2)).setCell ⟨w4.heap.size, 7, none⟩ (su p.scopes)).setCell ⟨w4.heap.size, 8, none⟩ (nu r.level))) := hidG (((HB5.out.setCell (p := ⟨w4.heap.size, 4, none⟩) hsz _).setCell (p := ⟨w4.heap.size, 7, none⟩) hsz _).setCell (p := ⟨w4.heap.size, 8, none⟩) hsz _)
      clear hs3 hS1 hb0 hsz
      go_wp2_with (first | (go_at_call 46; first | (with_reducible refine (cP _).mono ?_; rintro e w8 ⟨rfl, rfl⟩) | (with_reducible refine (cL _).mono ?_; rintro e w8 ⟨rfl, rfl⟩)) | (go_at_call 47; refine (cR _).mono ?_; rintro e w8 ⟨rfl, rfl⟩) | (refine wpList_load_sn rfl _ rfl w4.heap.size rfl S1 HS3.out ?_) | (refine wpList_store_sn rfl _ _ rfl (w.heap.size + 1 + 1) rfl S1 zeroS rfl HF3.out ?_; intro w6 hh hg; have HF := hidG hh; have HG6 := hidG hg; clear hh hg) | fail)
      refine bodyPost_ret (results_sn rfl _ _ (w.heap.size + 1 + 1) S1 rfl HF.out) rfl ⟨?_, HB8.out.grown HG6.out HB8.out.size (fun k e => by cases e; omega)⟩
      rw [hV.out, orS, if_pos rfl, HE1.out]
      rfl
    · clear hb0 k7 c4 c7 c8 f4 f7 f8
      go_wp2_with (first | (go_at_call 46; first | (with_reducible refine (cP _).mono ?_; rintro e w8 ⟨rfl, rfl⟩) | (with_reducible refine (cL _).mono ?_; rintro e w8 ⟨rfl, rfl⟩)) | (go_at_call 47; refine (cR _).mono ?_; rintro e w8 ⟨rfl, rfl⟩) | (refine wpList_store_sn rfl _ _ rfl (w.heap.size + 1 + 1) rfl zeroS zeroS rfl Y2.out ?_; intro w6 hh hg; have HF := hidG hh; have HG6 := hidG hg; clear hh hg) | fail)
      refine bodyPost_ret (results_sn rfl _ _ (w.heap.size + 1 + 1) zeroS rfl HF.out) rfl ⟨?_, HB5.out.grown HG6.out HB5.out.size (fun k e => by cases e; omega)⟩
      rw [hV.out, orS, if_neg hE0]
      rfl
  · have hV : Hid (V = B) := hidG (by rw [← HV.out, if_neg h8, if_neg (fun h => by rcases h with h | h <;> omega), if_pos hB0])
    clear cP cL cR hb0 HV k7 k8 k3 c4 c7 c8 f4 f7 f8 h8
    go_wp2_with (first | (go_at_call 46; first | (with_reducible refine (cP _).mono ?_; rintro e w8 ⟨rfl, rfl⟩) | (with_reducible refine (cL _).mono ?_; rintro e w8 ⟨rfl, rfl⟩)) | (go_at_call 47; refine (cR _).mono ?_; rintro e w8 ⟨rfl, rfl⟩) | (refine wpList_store_sn rfl _ _ rfl (w.heap.size + 1 + 1) rfl zeroS zeroS rfl Y2.out ?_; intro w6 hh hg; have HF := hidG hh; have HG6 := hidG hg; clear hh hg) | fail)
    refine bodyPost_ret (results_sn rfl _ _ (w.heap.size + 1 + 1) zeroS rfl HF.out) rfl ⟨?_, HB5.out.grown HG6.out HB5.out.size (fun k e => by cases e; omega)⟩
    rw [hV.out, orS, if_neg hB0]
    rfl
end Gr
end Go.Proofs.YtbgggekkkcefcabDoor
