/- The program's expiry: what may be an entry; Set; take. -/
import Derived.Test.YthjdpfmnbmnbhaaExpG
import Derived.Deep.RegionHeld3
namespace Go.Proofs.Ythjdpfmnbmnbhaa
set_option linter.ambiguousOpen false
open Go.RowKit Go.Maps
namespace Ex
open Hh Ft Hq
set_option linter.unusedSimpArgs false
set_option linter.unusedVariables false
attribute [local go_sem] Oper.semAt_some

set_option maxRecDepth 100000 in
set_option maxHeartbeats 4000000 in
theorem maybe_yes (w : World) (s b t : Int) (hx : okE ⟨s, b, t⟩) :
    Calls Try.prog 15 #[.agg #[nu s, nu b], nu t] w fun e w' => e = .returned (.bool true) ∧ Below w.heap.size w w' := by
  obtain ⟨bx, hbx⟩ : ∃ bx, w.heap.size = bx := ⟨_, rfl⟩
  obtain ⟨W0, hW0⟩ : ∃ W0, w.alloc (.cells #[nu s, nu b] 32) = W0 := ⟨_, rfl⟩
  have hB0 : Below w.heap.size w W0 := by rw [← hW0]; exact (Below.refl _ _).alloc (Nat.le_refl _) _
  have hX0 : W0.heap[bx]? = some (.cells #[nu s, nu b] 32) := by rw [← hW0, ← hbx]; exact heap_alloc_new _ _
  obtain ⟨l0, l1⟩ := link_cells hX0
  have HB0 := Hid.mk' hB0
  have HW0 := Hid.mk' hW0
  have HBX := Hid.mk' hbx
  unfold okE at hx
  dsimp only at hx
  have d1 : decide (s ≥ 0) = true := decide_eq_true (by omega)
  have d2 : decide (s < 32) = true := decide_eq_true (by omega)
  have d3 : decide (b ≥ 1) = true := decide_eq_true (by omega)
  have d4 : decide (b ≤ 1048576) = true := decide_eq_true (by omega)
  have d5 : decide (t ≥ 0) = true := decide_eq_true (by omega)
  have d6 : decide (t ≤ 1099511627776) = true := decide_eq_true (by omega)
  clear hB0 hW0 hbx hX0 hx
  go_enter Try.func15, Try.ntmps15
  go_upto_region 1 with fail
  rw [HW0.out, HBX.out]
  go_wp2
  go_ret
  exact ⟨rfl, HB0.out⟩

set_option maxRecDepth 100000 in
set_option maxHeartbeats 4000000 in
theorem maybe_no (w : World) (s b t : Int) (hx : ¬ okE ⟨s, b, t⟩) :
    Calls Try.prog 15 #[.agg #[nu s, nu b], nu t] w fun e w' => e = .returned (.bool false) ∧ Below w.heap.size w w' := by
  obtain ⟨bx, hbx⟩ : ∃ bx, w.heap.size = bx := ⟨_, rfl⟩
  obtain ⟨W0, hW0⟩ : ∃ W0, w.alloc (.cells #[nu s, nu b] 32) = W0 := ⟨_, rfl⟩
  have hB0 : Below w.heap.size w W0 := by rw [← hW0]; exact (Below.refl _ _).alloc (Nat.le_refl _) _
  have hX0 : W0.heap[bx]? = some (.cells #[nu s, nu b] 32) := by rw [← hW0, ← hbx]; exact heap_alloc_new _ _
  obtain ⟨l0, l1⟩ := link_cells hX0
  have HB0 := Hid.mk' hB0
  have HW0 := Hid.mk' hW0
  have HBX := Hid.mk' hbx
  unfold okE at hx
  dsimp only at hx
  clear hB0 hW0 hbx hX0
  by_cases h1 : s ≥ 0
  · have d1 : decide (s ≥ 0) = true := decide_eq_true h1
    by_cases h2 : s < 32
    · have d2 : decide (s < 32) = true := decide_eq_true h2
      by_cases h3 : b ≥ 1
      · have d3 : decide (b ≥ 1) = true := decide_eq_true h3
        by_cases h4 : b ≤ 1048576
        · have d4 : decide (b ≤ 1048576) = true := decide_eq_true h4
          by_cases h5 : t ≥ 0
          · have d5 : decide (t ≥ 0) = true := decide_eq_true h5
            have d6 : decide (t ≤ 1099511627776) = false := decide_eq_false (by omega)
            clear hx h1 h2 h3 h4 h5
            go_enter Try.func15, Try.ntmps15
            go_upto_region 1 with fail
            rw [HW0.out, HBX.out]
            go_wp2
            go_ret
            exact ⟨rfl, HB0.out⟩
          · have d5 : decide (t ≥ 0) = false := decide_eq_false h5
            clear hx h1 h2 h3 h4 h5
            go_enter Try.func15, Try.ntmps15
            go_upto_region 1 with fail
            rw [HW0.out, HBX.out]
            go_wp2
            go_ret
            exact ⟨rfl, HB0.out⟩
        · have d4 : decide (b ≤ 1048576) = false := decide_eq_false h4
          clear hx h1 h2 h3 h4
          go_enter Try.func15, Try.ntmps15
          go_upto_region 1 with fail
          rw [HW0.out, HBX.out]
          go_wp2
          go_ret
          exact ⟨rfl, HB0.out⟩
      · have d3 : decide (b ≥ 1) = false := decide_eq_false h3
        clear hx h1 h2 h3
        go_enter Try.func15, Try.ntmps15
        go_upto_region 1 with fail
        rw [HW0.out, HBX.out]
        go_wp2
        go_ret
        exact ⟨rfl, HB0.out⟩
    · have d2 : decide (s < 32) = false := decide_eq_false h2
      clear hx h1 h2
      go_enter Try.func15, Try.ntmps15
      go_upto_region 1 with fail
      rw [HW0.out, HBX.out]
      go_wp2
      go_ret
      exact ⟨rfl, HB0.out⟩
  · have d1 : decide (s ≥ 0) = false := decide_eq_false h1
    clear hx h1
    go_enter Try.func15, Try.ntmps15
    go_upto_region 1 with fail
    rw [HW0.out, HBX.out]
    go_wp2
    go_ret
    exact ⟨rfl, HB0.out⟩

set_option maxRecDepth 100000 in
set_option maxHeartbeats 4000000 in
theorem setX_no (w : World) (p : Nat) (F : Nat → Prop) (L : List En) (s b t : Int) (hr : RepX w p F L) (hx : ¬ okE ⟨s, b, t⟩) :
    Calls Try.prog 8 #[ptr p, .agg #[nu s, nu b], nu t] w fun e w' => e = .returned (errE 1) ∧ Below w.heap.size w w' := by
  obtain ⟨bx, hbx⟩ : ∃ bx, w.heap.size = bx := ⟨_, rfl⟩
  obtain ⟨W0, hW0⟩ : ∃ W0, w.alloc (.cells #[nu s, nu b] 32) = W0 := ⟨_, rfl⟩
  have hB0 : Below w.heap.size w W0 := by rw [← hW0]; exact (Below.refl _ _).alloc (Nat.le_refl _) _
  have hX0 : W0.heap[bx]? = some (.cells #[nu s, nu b] 32) := by rw [← hW0, ← hbx]; exact heap_alloc_new _ _
  have c1 := Hid.mk' (maybe_no W0 s b t hx)
  have HMID := Hid.mk' (link_mid hX0)
  have HB0 := Hid.mk' hB0
  have HW0 := Hid.mk' hW0
  have HBX := Hid.mk' hbx
  clear hB0 hW0 hbx hX0 hx hr
  go_enter Try.func8, Try.ntmps8
  go_upto_region 1 with fail
  rw [HW0.out, HBX.out]
  go_wp2_with (first | (refine wpList_load_mid rfl 32 _ rfl bx 0 rfl [nu s, nu b] _ HMID.out Try.underlying32 rfl size_lk ?_) | fail)
  refine c1.out.mono ?_
  rintro e w1 ⟨rfl, hb1⟩
  have HB1 : Hid (Below w.heap.size w w1) := HB0.out.trans (hb1.mono HB0.out.size)
  clear hb1
  go_wp2
  go_ret
  exact ⟨rfl, HB1.out⟩

/-- A store into a map, where it stands alone. -/
theorem wp_map_put {o : Oper} {a : Act} {w : World} {K : Act → World → Prop} {Q : Exit → Act → World → Prop} (m x v : Operand) (hop : o.op = Op.mapUpdate 47 m x v)
    (b n : Nat) (D : DataW Unit) (hm : a.eval m = .map (some b)) (hown : w.ownsMap Try.prog 3 (plainElem Try.prog 3) b n D) (hn : n < maxLen) (key val : Value) (kl : Lit) (hx : a.eval x = key) (hv : a.eval v = val) (hkey : keyOf Try.prog 3 key = some kl)
    (d : DataW Unit) (hval : plainElem (H := Unit) Try.prog 3 val = some (d, []))
    (hK : ∀ w', w'.ownsMap Try.prog 3 (plainElem Try.prog 3) b (n + 1) (D.put kl d) → w.mapTurned w' b → K (a.put o.dst undef) w') : Oper.wp Try.prog o a w K Q := by
  obtain ⟨w', hrun, r1, r2⟩ := hown.store keyed_int Try.underlying47 hn hkey hval
  unfold Oper.wp
  simp [execOp, hop, hm, hx, hv, hrun, Result.andThen]
  exact hK w' r1 r2

set_option maxRecDepth 100000 in
set_option maxHeartbeats 8000000 in
theorem setX_yes (w : World) (p : Nat) (F : Nat → Prop) (L : List En) (s b t : Int) (hr : RepX w p F L) (hx : okE ⟨s, b, t⟩) :
    Calls Try.prog 8 #[ptr p, .agg #[nu s, nu b], nu t] w fun e w' => e = .returned (errE 0) ∧ LeftX RepX w w' p F (setE L ⟨s, b, t⟩) := by
  obtain ⟨bm, h, Fh, D, hl, rfl⟩ := hr
  obtain ⟨bx, hbx⟩ : ∃ bx, w.heap.size = bx := ⟨_, rfl⟩
  obtain ⟨W0, hW0⟩ : ∃ W0, w.alloc (.cells #[nu s, nu b] 32) = W0 := ⟨_, rfl⟩
  have hB0 : Below w.heap.size w W0 := by rw [← hW0]; exact (Below.refl _ _).alloc (Nat.le_refl _) _
  have hX0 : W0.heap[bx]? = some (.cells #[nu s, nu b] 32) := by rw [← hW0, ← hbx]; exact heap_alloc_new _ _
  have c1 := Hid.mk' (maybe_yes W0 s b t hx)
  have HMID := Hid.mk' (link_mid hX0)
  have HB0 := Hid.mk' hB0
  have HW0 := Hid.mk' hW0
  have HBX := Hid.mk' hbx
  have HL := Hid.mk' hl
  have HX0 := Hid.mk' hX0
  have HOK := Hid.mk' hx
  have hkey := keyOf_int_mk Try.underlying3 (q := .i64) (a := s) (WalkArith.wf_i64 (by have := hx.1; dsimp only at this; omega))
  have hval := plainElem_int (H := Unit) (P := Try.prog) (e := 3) (q := .i64) Try.underlying3 (a := b) (WalkArith.wf_i64 (by have := hx.2.1; dsimp only at this; omega))
  have HKEY := Hid.mk' hkey
  have HVAL := Hid.mk' hval
  clear hB0 hW0 hbx hX0 hl hx hkey hval
  go_enter Try.func8, Try.ntmps8
  go_upto_region 1 with fail
  rw [HW0.out, HBX.out]
  go_wp2_with (first | (refine wpList_load_mid rfl 32 _ rfl bx 0 rfl [nu s, nu b] _ HMID.out Try.underlying32 rfl size_lk ?_) | fail)
  refine c1.out.mono ?_
  rintro e w1 ⟨rfl, hb1⟩
  have HB1 : Hid (Below w.heap.size w w1) := HB0.out.trans (hb1.mono HB0.out.size)
  have hl1 : LayX w1 p bm h Fh D L := HL.out.below HB1.out
  have HX1 : Hid (w1.heap[bx]? = some (.cells #[nu s, nu b] 32)) := (hb1.block bx (Array.getElem?_eq_some_iff.1 HX0.out).1).trans HX0.out
  have HL1 := Hid.mk' hl1
  obtain ⟨x0, x1⟩ := link_cells HX1.out
  have q0 := hl1.cells.1
  have HNB : Hid (¬ footX p bm Fh bx) := fun e => by have := HL.out.lt bx e; have := HBX.out; omega
  have hS1 : w1.drew.cell? ⟨p, 0, none⟩ = some (.map (some bm)) ∧ w1.drew.cell? ⟨bx, 0, none⟩ = some (nu s) ∧ w1.drew.cell? ⟨bx, 1, none⟩ = some (nu b) := ⟨q0, x0, x1⟩
  have HMP : Hid (MapB w1.drew bm D) := hl1.map.drew
  have hls : HL.out.lt p (.inl rfl) = HL.out.lt p (.inl rfl) := rfl
  clear hb1 hl1 c1 x0 x1 q0 hls HB0 HW0 HMID HX0
  go_upto_region 3 with fail
  refine wp_region_held_drew (S := fun w' => w'.cell? ⟨p, 0, none⟩ = some (.map (some bm)) ∧ w'.cell? ⟨bx, 0, none⟩ = some (nu s) ∧ w'.cell? ⟨bx, 1, none⟩ = some (nu b)) (by kernel_rfl) hS1 (fun hHeld => ?_)
  refine wpAnyH_take (i := 0) (v := ?_) rfl (by kernel_rfl) (by kernel_rfl) (by kernel_rfl) (fun _ _ _ h => h) (Or.inl ⟨by rfl, ?_⟩) hHeld ?_
  rotate_left
  · (intro w' hS'; go_simp <;> with_reducible rfl)
  simp only [Act.put, List.getElem_toArray, List.getElem_cons_succ, List.getElem_cons_zero, List.setIfInBounds_toArray, List.set]
  refine wpAnyH_take (i := 1) (v := ?_) rfl (by kernel_rfl) (by kernel_rfl) (by kernel_rfl) (fun _ _ _ h => h) (Or.inl ⟨by rfl, ?_⟩) hHeld ?_
  rotate_left
  · (intro w' hS'; go_simp <;> with_reducible rfl)
  simp only [Act.put, List.getElem_toArray, List.getElem_cons_succ, List.getElem_cons_zero, List.setIfInBounds_toArray, List.set]
  refine wpAnyH_take (i := 2) (v := ?_) rfl (by kernel_rfl) (by kernel_rfl) (by kernel_rfl) (fun _ _ _ h => h) (Or.inl ⟨by rfl, ?_⟩) hHeld ?_
  rotate_left
  · (intro w' hS'; go_simp <;> with_reducible rfl)
  simp only [Act.put, List.getElem_toArray, List.getElem_cons_succ, List.getElem_cons_zero, List.setIfInBounds_toArray, List.set]
  refine wpAnyH_take (i := 3) (v := ?_) rfl (by kernel_rfl) (by kernel_rfl) (by kernel_rfl) (fun _ _ _ h => h) (Or.inl ⟨by rfl, ?_⟩) hHeld ?_
  rotate_left
  · (intro w' hS'; have hq0 := hS'.1; have hq1 := hS'.2.1; have hq2 := hS'.2.2; go_simp <;> with_reducible rfl)
  simp only [Act.put, List.getElem_toArray, List.getElem_cons_succ, List.getElem_cons_zero, List.setIfInBounds_toArray, List.set]
  refine wpAnyH_take (i := 4) (v := ?_) rfl (by kernel_rfl) (by kernel_rfl) (by kernel_rfl) (fun _ _ _ h => h) (Or.inl ⟨by rfl, ?_⟩) hHeld ?_
  rotate_left
  · (intro w' hS'; go_simp <;> with_reducible rfl)
  simp only [Act.put, List.getElem_toArray, List.getElem_cons_succ, List.getElem_cons_zero, List.setIfInBounds_toArray, List.set]
  refine wpAnyH_take (i := 5) (v := ?_) rfl (by kernel_rfl) (by kernel_rfl) (by kernel_rfl) (fun _ _ _ h => h) (Or.inl ⟨by rfl, ?_⟩) hHeld ?_
  rotate_left
  · (intro w' hS'; have hq0 := hS'.1; have hq1 := hS'.2.1; have hq2 := hS'.2.2; go_simp <;> with_reducible rfl)
  simp only [Act.put, List.getElem_toArray, List.getElem_cons_succ, List.getElem_cons_zero, List.setIfInBounds_toArray, List.set]
  refine wpAnyH_take (i := 6) (v := ?_) rfl (by kernel_rfl) (by kernel_rfl) (by kernel_rfl) (fun _ _ _ h => h) (Or.inl ⟨by rfl, ?_⟩) hHeld ?_
  rotate_left
  · (intro w' hS'; go_simp <;> with_reducible rfl)
  simp only [Act.put, List.getElem_toArray, List.getElem_cons_succ, List.getElem_cons_zero, List.setIfInBounds_toArray, List.set]
  refine wpAnyH_take (i := 7) (v := ?_) rfl (by kernel_rfl) (by kernel_rfl) (by kernel_rfl) (fun _ _ _ h => h) (Or.inl ⟨by rfl, ?_⟩) hHeld ?_
  rotate_left
  · (intro w' hS'; have hq0 := hS'.1; have hq1 := hS'.2.1; have hq2 := hS'.2.2; go_simp <;> with_reducible rfl)
  simp only [Act.put, List.getElem_toArray, List.getElem_cons_succ, List.getElem_cons_zero, List.setIfInBounds_toArray, List.set]
  refine wpAnyH_ready (rs := [8]) (by kernel_rfl) (by simp) ?_
  refine AllReadyH.cons rfl (fun K hK => ?_) AllReadyH.nil
  rw [if_pos (by rfl)]
  simp only [List.getElem_toArray, List.getElem_cons_succ, List.getElem_cons_zero]
  refine wp_map_put _ _ _ rfl bm 32 D rfl HMP.out (by unfold maxLen; omega) _ _ _ rfl rfl HKEY.out _ HVAL.out (fun w2 hown2 hturn2 => ?_)
  have hk2 := turned_keep hturn2
  have hS2 : w2.cell? ⟨p, 0, none⟩ = some (.map (some bm)) ∧ w2.cell? ⟨bx, 0, none⟩ = some (nu s) ∧ w2.cell? ⟨bx, 1, none⟩ = some (nu b) := by
    have hlt := HL1.out.lt p (.inl rfl)
    have hbl := (Array.getElem?_eq_some_iff.1 HX1.out).1
    have hne : ¬ bx = bm := fun e => HNB.out (.inr (.inl e))
    exact ⟨by rw [hk2.cell (p := ⟨p, 0, none⟩) hlt HL1.out.n1]; exact hS1.1, by rw [hk2.cell (p := ⟨bx, 0, none⟩) hbl hne]; exact hS1.2.1, by rw [hk2.cell (p := ⟨bx, 1, none⟩) hbl hne]; exact hS1.2.2⟩
  have HOW2 := Hid.mk' hown2
  have HK2 := Hid.mk' hk2
  refine hK.out _ _ hS2 (fun hHeld => ?_)
  clear hK K hown2 hturn2
  refine wpAnyH_done (by kernel_rfl) ?_ _
  have HK3 : Hid (Keep (fun k => k = bm) w1 w2) := (Keep.refl (fun k => k = bm) w1).drew.trans HK2.out (fun _ _ h => h)
  have hq : RepQ w2 h Fh 32 (its L) := rep_keep HL1.out.heap HK3.out (fun k hk e => HL1.out.n3 (e ▸ hk))
  have hr1 : w2.cell? ⟨p, 1, none⟩ = some (ptr h) := by
    rw [HK3.out.cell (p := ⟨p, 1, none⟩) (HL1.out.lt p (.inl rfl)) HL1.out.n1]
    exact HL1.out.cells.2
  have hS3 : w2.drew.cell? ⟨p, 1, none⟩ = some (ptr h) ∧ w2.drew.cell? ⟨bx, 0, none⟩ = some (nu s) := ⟨hr1, hS2.2.1⟩
  have c2 : Hid (Calls Try.prog 16 #[ptr h, nu s, nu t] w2.drew fun e w' => e = .returned .nilIface ∧ (w'.cell? ⟨p, 1, none⟩ = some (ptr h) ∧ w'.cell? ⟨bx, 0, none⟩ = some (nu s)) ∧ Hid (LeftX RepX w w' p (footX p bm Fh) (setE L ⟨s, b, t⟩))) := by
    have hqd : RepQ w2.drew h Fh 32 (its L) := rep_keep hq (Keep.refl (fun _ => False) w2).drew (fun _ _ e => e)
    refine (set_yes w2.drew h Fh 32 (its L) s t hqd HL1.out.ge.hk (by have := HL1.out.ge.few; unfold its; rw [List.length_map]; omega) (by have := HOK.out.1; exact this)).mono ?_
    rintro e w' ⟨rfl, hle⟩
    obtain ⟨G, g1, g2, g3⟩ := id hle
    refine ⟨rfl, ⟨?_, ?_⟩, ?_⟩
    · rw [g2.cell (p := ⟨p, 1, none⟩) (Nat.lt_of_lt_of_le (HL1.out.lt p (.inl rfl)) HK3.out.size) HL1.out.n2]
      exact hS3.1
    · rw [g2.cell (p := ⟨bx, 0, none⟩) (Nat.lt_of_lt_of_le (Array.getElem?_eq_some_iff.1 HX1.out).1 HK3.out.size) (fun e => HNB.out (.inr (.inr e)))]
      exact hS3.2
    · have e1 := its_set L ⟨s, b, t⟩
      dsimp only at e1
      rw [← e1] at hle
      have hlx := HL1.out.turn (HOW2.out.drew) HK3.out.drew hle (HL1.out.ge.set HOK.out) (HL1.out.bd.put (HL1.out.map.tidy keyed_int) HL1.out.ge.nd ⟨s, b, t⟩)
      obtain ⟨G2, j1, j2, j3⟩ := hlx
      exact ⟨G2, j1, (Keep.of_below HB1.out).trans j2 (fun _ _ h => h), fun k hk => (j3 k hk).imp id (fun e => Nat.le_trans HB1.out.size e)⟩
  clear hq hr1 hS1 hS2 hk2
  go_wp2_with fail
  go_region_held3 (fun w' => w'.cell? ⟨p, 1, none⟩ = some (ptr h) ∧ w'.cell? ⟨bx, 0, none⟩ = some (nu s)) (first | assumption | exact hS3 | fail) (first | (go_at_call 16; with_reducible refine c2.out.mono ?_; rintro e w5 ⟨rfl, hs5, HQ5⟩) | fail)
  go_wp2
  go_ret
  exact ⟨rfl, HQ5.out⟩
end Ex
end Go.Proofs.Ythjdpfmnbmnbhaa
