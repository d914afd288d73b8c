/- The program's arena: New; all its calls answer as they must. -/
import Derived.Test.YtbkcpjgaoncioaaArnI
namespace Go.Proofs.Ytbkcpjgaoncioaa
set_option linter.ambiguousOpen false
open Go.RowKit
namespace An
open Ft Lv
set_option linter.unusedSimpArgs false
set_option linter.unusedVariables false

/-- The arena that New is at: i slots are bare and free. -/
def arnN (i : Nat) : Arn := ⟨List.replicate i bare ++ List.replicate (32 - i) slt0, (List.range 32).drop (32 - i), 0⟩

/-- The cells of the zero value. -/
def arnZ : List Value := pcs (arnN 0) (.slice none 0 0)

theorem arnN_len (i : Nat) (h : i ≤ 32) : (arnN i).sl.length = 32 := by
  unfold arnN
  simp
  omega

theorem arnN_frlen (i : Nat) (h : i ≤ 32) : (arnN i).fr.length = i := by
  unfold arnN
  simp
  omega

theorem arnN_set (i : Nat) (h : i < 32) : (arnN i).sl.set i bare = (arnN (i + 1)).sl := by
  unfold arnN
  simp only
  rw [List.set_append_right _ _ (by simp), List.length_replicate, Nat.sub_self, show 32 - i = (32 - (i + 1)) + 1 by omega, List.replicate_succ, List.set_cons_zero, List.replicate_succ', List.append_assoc]
  rfl

theorem arnN_fr (i : Nat) (h : i < 32) : (arnN (i + 1)).fr = (31 - i) :: (arnN i).fr := by
  unfold arnN
  simp only
  rw [List.drop_eq_getElem_cons (by simp; omega), show 32 - (i + 1) + 1 = 32 - i by omega, List.getElem_range, show 32 - (i + 1) = 31 - i by omega]

theorem arnN_end : arnN 32 = arn0 := by kernel_rfl

theorem arn_info : (Try.prog.info? 67).map (fun i => (i.zero, i.size)) = some (some (.agg arnZ.toArray), 546) := by kernel_rfl

theorem arnZ_len : arnZ.length = 546 := by kernel_rfl

theorem arn_build (w : World) : (Instr.build 67 #[]).run Try.prog w = .ok (.agg arnZ.toArray) w := by
  obtain ⟨i, hi, h2⟩ : ∃ i, Try.prog.info? 67 = some i ∧ i.zero = some (.agg arnZ.toArray) := by
    have := arn_info
    cases h : Try.prog.info? 67 with
    | none => rw [h] at this; simp at this
    | some i =>
      rw [h] at this
      simp only [Option.map_some, Option.some.injEq, Prod.mk.injEq] at this
      exact ⟨i, rfl, this.1⟩
  have hz : (zeroValue 67).run Try.prog w = .ok (.agg arnZ.toArray) w := by
    simp [zeroValue, typeInfo, hi, h2, go_sem]
  have hs1 := Try.sizeOf65 w
  have hs2 := Try.sizeOf35 w
  have hs3 := Try.sizeOf3 w
  simp [Instr.build, hz, run_underlying Try.underlying67, hs1, hs2, hs3, Instr.fill, Value.cells]

set_option maxRecDepth 100000 in
theorem wpList_build_arn {ops : Array Oper} {rest : List Oper} {op : Oper} {a : Act} {w : World} {Q : Exit → Act → World → Prop} (hgd : op.guard = none) (ho : op.op = .build 67 #[])
    (h : wpList Try.prog ops Q rest (a.put op.dst (.agg arnZ.toArray)) w) : wpList Try.prog ops Q (op :: rest) a w := by
  refine wpList_plain hgd fun K hK => ?_
  unfold Oper.wp execOp
  simp only [ho, List.map_toArray, List.map_nil, Sem.run_bind, Sem.run_pure, Result.andThen_ok, arn_build]
  exact hK _ _ h

set_option maxRecDepth 100000 in
theorem wpList_box_arn {ops : Array Oper} {rest : List Oper} {op : Oper} {a : Act} {w : World} {Q : Exit → Act → World → Prop} (hgd : op.guard = none) (x : Operand) (ho : op.op = .box 67 x) (hx : a.eval x = .agg arnZ.toArray)
    (h : wpList Try.prog ops Q rest (a.put op.dst (.pointer (some ⟨w.heap.size, 0, none⟩))) (w.alloc (.cells arnZ.toArray 67))) : wpList Try.prog ops Q (op :: rest) a w := by
  refine wpList_plain hgd fun K hK => ?_
  have hb : (Instr.box 67 (.agg arnZ.toArray)).run Try.prog w = .ok (.pointer (some ⟨w.heap.size, 0, none⟩)) (w.alloc (.cells arnZ.toArray 67)) := by
    simp [Instr.box, newVar, newRow, Value.cells]
  unfold Oper.wp execOp
  simp only [ho, hx, Sem.run_bind, Sem.run_pure, Result.andThen_ok, hb]
  exact hK _ _ h

/-- What New holds amid it. -/
def NwA (w wr : World) (i : Nat) : Prop := ∃ fv, PAn wr w.heap.size fv (arnN i) ∧ (∀ j, fv.ownBlock = some j → w.heap.size ≤ j) ∧ Below w.heap.size w wr

set_option maxRecDepth 100000 in
set_option maxHeartbeats 2000000 in
theorem new_any : NewC RepP := fun w => by
  obtain ⟨i0, ji, hz0, hz1, hz2⟩ := info_parts info_int
  have cB : Hid (∀ wx, _) := fun wx => bare_any wx
  have H0 : Hid (NwA w (w.alloc (.cells arnZ.toArray 67)) 0) := by
    refine ⟨.slice none 0 0, ⟨heap_alloc_new _ _, arnN_len 0 (by omega), ?_⟩, fun j hj => by simp [Value.ownBlock] at hj, (Below.refl _ _).alloc (Nat.le_refl _) _⟩
    exact World.ownsRow_nil _ _ _ _
  go_enter Try.func25, Try.ntmps25
  go_wp2_with (first | (refine wpList_build_arn rfl rfl ?_) | (refine wpList_box_arn rfl _ rfl rfl ?_) | fail)
  generalize w.alloc (.cells arnZ.toArray 67) = wA at *
  obtain ⟨p, hp⟩ : ∃ p, w.heap.size = p := ⟨_, rfl⟩
  rw [hp]
  have HP0 := Hid.mk' hp
  clear hp
  go_loopw [5] (fun iv wr => ∃ i : Nat, i ≤ 32 ∧ iv = nun i ∧ Hid (NwA w wr i)) (fun iv _ => 32 - (intOf iv).toNat)
  case atStart => exact ⟨0, by omega, rfl, H0⟩
  case round =>
    obtain ⟨i, hi, rfl, hN⟩ := hrel
    by_cases hlt : i < 32
    · obtain ⟨fv, hP, hF, hB⟩ := hN.out
      rw [HP0.out] at hP hF
      have hiI : (i : Int) < 32 := by omega
      have hi0 : (0 : Int) ≤ (i : Int) := by omega
      have hpw : p < wr.heap.size := hP.plt
      obtain ⟨w6, hw6⟩ : ∃ w6, wr.drew.alloc (.cells bare.cells.toArray 52) = w6 := ⟨_, rfl⟩
      have HW6 := Hid.mk' hw6
      have hb6 : Below wr.heap.size wr w6 := by rw [← hw6]; exact (Below.refl _ _).drew.alloc (Nat.le_refl _) _
      have hP6 := hP.below hb6
      have HTD := Hid.mk' (hP6.thereAt i hlt)
      have HP7 := Hid.mk' (hP6.stored i hlt bare)
      have HB7 : Hid (Below w.heap.size w (w6.setCells p (i * 17) bare.cells)) := by
        have hG := grown_setCells p bare.cells (i * 17) w6
        exact (hB.trans (hb6.mono hB.size)).grown hG (hB.trans (hb6.mono hB.size)).size (fun r e => by cases e; have := HP0.out; omega)
      have HF := Hid.mk' hF
      clear hw6 hP6 hP hF hB hN
      go_wp2_with fail
      refine wp_region_held_drew (S := fun w' => True) (by kernel_rfl) trivial (fun hHeld => ?_)
      refine wpAnyH_take (i := 0) (v := ?_) rfl (by kernel_rfl) (by kernel_rfl) (by kernel_rfl) (fun _ _ _ h => h) (Or.inl ⟨by rfl, ?_⟩) hHeld ?_
      rotate_left
      · (intro w' hS'; go_simp <;> with_reducible rfl)
      simp only [Act.put, List.getElem_toArray, List.getElem_cons_succ, List.getElem_cons_zero, List.setIfInBounds_toArray, List.set]
      refine wpAnyH_take (i := 1) (v := ?_) rfl (by kernel_rfl) (by kernel_rfl) (by kernel_rfl) (fun _ _ _ h => h) (Or.inl ⟨by rfl, ?_⟩) hHeld ?_
      rotate_left
      · (intro w' hS'; go_simp <;> with_reducible rfl)
      simp only [Act.put, List.getElem_toArray, List.getElem_cons_succ, List.getElem_cons_zero, List.setIfInBounds_toArray, List.set]
      refine wpAnyH_take (i := 3) (v := ?_) rfl (by kernel_rfl) (by kernel_rfl) (by kernel_rfl) (fun _ _ _ h => h) (Or.inl ⟨by rfl, ?_⟩) hHeld ?_
      rotate_left
      · (intro w' hS'; go_simp <;> with_reducible rfl)
      simp only [Act.put, List.getElem_toArray, List.getElem_cons_succ, List.getElem_cons_zero, List.setIfInBounds_toArray, List.set]
      refine wpAnyH_take (i := 4) (v := ?_) rfl (by kernel_rfl) (by kernel_rfl) (by kernel_rfl) (fun _ _ _ h => h) (Or.inl ⟨by rfl, ?_⟩) hHeld ?_
      rotate_left
      · (intro w' hS'; go_simp <;> with_reducible rfl)
      simp only [Act.put, List.getElem_toArray, List.getElem_cons_succ, List.getElem_cons_zero, List.setIfInBounds_toArray, List.set]
      refine wpAnyH_ready (rs := [2]) (by kernel_rfl) (by simp) ?_
      refine AllReadyH.cons rfl (fun K hK => ?_) AllReadyH.nil
      go_simp
      refine (cB.out _).mono ?_
      rintro e w7 ⟨rfl, hw7⟩
      rw [HW6.out] at hw7
      subst w7
      go_wp2_with fail
      refine hK.out _ _ trivial (fun hHeld => ?_)
      clear hK K
      refine wpAnyH_take (i := 5) (v := ?_) rfl (by kernel_rfl) (by kernel_rfl) (by kernel_rfl) (fun _ _ _ h => h) (Or.inl ⟨by rfl, ?_⟩) hHeld ?_
      rotate_left
      · (intro w' hS'; go_simp <;> with_reducible rfl)
      simp only [Act.put, List.getElem_toArray, List.getElem_cons_succ, List.getElem_cons_zero, List.setIfInBounds_toArray, List.set]
      refine wpAnyH_ready (rs := [6]) (by kernel_rfl) (by simp) ?_
      refine AllReadyH.cons rfl (fun K hK => ?_) AllReadyH.nil
      rw [if_pos (by rfl)]
      simp only [List.getElem_toArray, List.getElem_cons_succ, List.getElem_cons_zero]
      refine wp_store_mid 52 _ _ rfl p (i * 17) bare.cells.toArray rfl rfl HTD.out size_slt (all_one bare) ?_
      refine hK.out _ _ trivial (fun hHeld => ?_)
      clear hK K
      refine wpAnyH_done (by kernel_rfl) ?_ _
      simp only [Act.put, List.getElem_toArray, List.getElem_cons_succ, List.getElem_cons_zero, List.setIfInBounds_toArray, List.set]
      clear hHeld HTD HW6 hb6
      generalize w6.setCells p (i * 17) bare.cells = w7 at *
      obtain ⟨af, cf, hfv, _⟩ := Nm.own_shape HP7.out.fr
      have HLN : Hid ((arnN i).fr.length = i) := arnN_frlen i hi
      simp only [HLN.out] at hfv
      subst hfv
      have hP7 := HP7.out
      have hq0 := hP7.cells.1
      have hpl := hP7.plt
      have q0' : (w7.alloc (.cells #[nu (31 - (i : Int))] 3)).cell? ⟨p, 544, none⟩ = some (.slice af i cf) := (World.cell?_alloc_lt _ _ _ hpl).trans hq0
      have HBA : Hid (Below w7.heap.size w7 (w7.alloc (.cells #[nu (31 - (i : Int))] 3))) := (Below.refl _ _).alloc (Nat.le_refl _) _
      have HPA := Hid.mk' (hP7.below HBA.out)
      have HF0 : Hid ((w7.alloc (.cells #[nu (31 - (i : Int))] 3)).ownsRow 0 3 1 (.slice af i cf) i ((arnN i).fr.reverse.map nun)) := by have := HPA.out.fr; simp only [HLN.out] at this; exact this
      have HBB : Hid (Below w.heap.size w (w7.alloc (.cells #[nu (31 - (i : Int))] 3))) := HB7.out.alloc HB7.out.size _
      clear hP7 hpl
      go_upto_region 7 with (at_builtin; refine Nm.wpList_append_keep _ rfl _ _ 35 rfl 0 3 i0 (.int .i64 0) 1 8 Try.underlying35 ji hz0 hz1 hz2 rfl (by decide) _ i _ rfl HF0.out ⟨w7.heap.size, 0, none⟩ 1 1 [nu (31 - (i : Int))] rfl rfl (cell_one_new _ _ _) (by simp [Value.oneCell']) (by unfold maxLen; omega) (by omega) (Nat.zero_le _) (by decide) ?_; intro v4 w4 hg4; obtain ⟨ho4, hgr4, _, hpl4⟩ := hg4; obtain ⟨a4, c4, rfl, _⟩ := Nm.own_shape ho4; have HO4 := Hid.mk' ho4; have HG4 := Hid.mk' hgr4; have HPL := Hid.mk' hpl4; have hblk4 := (hgr4.block p HPA.out.plt (fun e => HPA.out.ne e.symm)).trans HPA.out.blk; have HBK4 := Hid.mk' hblk4; have z1 := (World.cell?_of_block (a := ⟨p, 544, none⟩) (hgr4.block p HPA.out.plt (fun e => HPA.out.ne e.symm))).trans q0'; have zf : w4.frozen? ⟨p, 544, none⟩ = false := (by simp [World.frozen?, hblk4]); clear ho4 hgr4 hpl4 hblk4)
      have hd : nu (31 - (i : Int)) = nun (31 - i) := by
        show Value.int .i64 _ = Value.int .i64 _
        congr 1
        omega
      have hP5 : PAn (w4.setCell ⟨p, 544, none⟩ (.slice a4 (i + 1) c4)) p (.slice a4 (i + 1) c4) ⟨(arnN i).sl.set i bare, (arnN (i + 1)).fr, (arnN i).wr⟩ := PAn.setFree' HBK4.out HPA.out.len (by
        rw [arnN_frlen (i + 1) (by omega), arnN_fr i hlt, List.reverse_cons, List.map_append]
        have := HO4.out
        rw [hd] at this
        exact this)
      rw [arnN_set i hlt] at hP5
      have HN5 : Hid (NwA w (w4.setCell ⟨p, 544, none⟩ (.slice a4 (i + 1) c4)) (i + 1)) := by
        refine ⟨.slice a4 (i + 1) c4, by rw [HP0.out]; exact hP5, fun j hj => ?_, ?_⟩
        · rcases HPL.out with h1 | ⟨b, h1, h2⟩
          · rw [HP0.out]
            exact HF.out j (h1.symm.trans hj)
          · rw [h1] at hj
            cases hj
            exact Nat.le_trans HBB.out.size h2
        · have h1 := HBB.out.grown HG4.out HBB.out.size (fun r e => by rw [HP0.out]; exact HF.out r e)
          exact h1.setCell (p := ⟨p, 544, none⟩) (by rw [HP0.out]; exact Nat.le_refl _) _
      clear hP5 HO4 HG4 HPL HBK4 z1 zf HF0 HPA HBA q0' HP7 hd hq0
      go_wp2
      go_roundw
      case rel => exact ⟨i + 1, by omega, by go_num, HN5⟩
      case measure => simp [intOf]; omega
    · obtain rfl : i = 32 := by omega
      go_wp2
      go_ret
      obtain ⟨fv, hP, hF, hB⟩ := hN.out
      rw [arnN_end] at hP
      refine ⟨w.heap.size, pfp w.heap.size fv, by rw [HP0.out]; rfl, ⟨fv, hP, rfl⟩, fun k hk => ?_, hB⟩
      rcases hk with rfl | hk
      · exact Nat.le_refl _
      · exact hF k hk
end An
end Go.Proofs.Ytbkcpjgaoncioaa
