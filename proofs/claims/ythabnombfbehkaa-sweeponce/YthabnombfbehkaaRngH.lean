import Derived.Test.YthabnombfbehkaaRngG
/- The program's rings: whether a slot's links are right. -/
namespace Go.Proofs.Ythabnombfbehkaa
set_option linter.ambiguousOpen false
open Go.RowKit
namespace Rg
open An Ft Lv
set_option linter.unusedSimpArgs false
set_option linter.unusedVariables false

theorem Lnk.there2 {w : World} {b : Nat} {p n : Int} (h : Lnk w b p n) : w.there b 0 2 := fun j hj => by
  unfold Lnk at h
  rcases j with _ | (_ | j)
  · simp [World.cell?, World.frozen?, h]
  · simp [World.cell?, World.frozen?, h]
  · omega

theorem Lnk.stored {w : World} {b : Nat} {p n : Int} (h : Lnk w b p n) (p' n' : Int) : Lnk (w.setCells b 0 [nu p', nu n']) b p' n' := by
  obtain ⟨C, e1, e2⟩ := heap_setCells b _ [nu p', nu n'] 0 w #[nu p, nu n] h (by simp)
  unfold Lnk
  rw [e1]
  refine congrArg (fun c => some (Obj.cells c 88 (0, 0))) (Array.toList_inj.1 ?_)
  rw [e2]
  rfl

/-- What check answers. -/
def chk (S : List Slt) (i : Int) : Value := if well S i then .nilIface else errP 24 i

section
variable {Rep : World → Nat → (Nat → Prop) → Arn → Prop}

set_option maxRecDepth 100000 in
set_option maxHeartbeats 2000000 in
theorem check_p (H : KeepC Rep) (CG : GetC Rep) (w : World) (p : Nat) (F : Nat → Prop) (A : Arn) (i : Int) (h : Rep w p F A) (hg : An.Good A) (ht : there i) :
    Calls Try.prog 46 #[ptr p, nu i] w fun e w' => e = .returned (chk A.sl i) ∧ Below w.heap.size w w' := by
  have c1 := Hid.mk' (linksOf_p H CG w p F A i h hg)
  have c3 : Hid (∀ wx, Below w.heap.size w wx → Calls Try.prog 47 #[ptr p, nu (nxN A.sl i)] wx fun e w' => e = .returned (lkv (pvN A.sl (nxN A.sl i)) (nxN A.sl (nxN A.sl i))) ∧ Below wx.heap.size wx w') := fun wx hb => linksOf_p H CG wx p F A _ (H.below h hb) hg
  have c4 : Hid (∀ wx, Below w.heap.size w wx → Calls Try.prog 47 #[ptr p, nu (pvN A.sl i)] wx fun e w' => e = .returned (lkv (pvN A.sl (pvN A.sl i)) (nxN A.sl (pvN A.sl i))) ∧ Below wx.heap.size wx w') := fun wx hb => linksOf_p H CG wx p F A _ (H.below h hb) hg
  have hwb := well_back (S := A.sl) ht
  obtain ⟨res, hres⟩ : ∃ res, chk A.sl i = res := ⟨_, rfl⟩
  rw [hres]
  unfold chk at hres
  have HRES : Hid ((pvN A.sl (nxN A.sl i) = i ∧ nxN A.sl (pvN A.sl i) = i → res = .nilIface) ∧ (¬ (pvN A.sl (nxN A.sl i) = i ∧ nxN A.sl (pvN A.sl i) = i) → res = .iface 96 (.agg #[.int .i64 24, .int .i64 i]))) := by
    refine ⟨fun q => ?_, fun q => ?_⟩
    · rw [← hres, if_pos (hwb.2 q)]
    · rw [← hres, if_neg (fun z => q (hwb.1 z))]
      unfold errP
      rw [if_neg (by omega)]
      rfl
  clear hres hwb h hg
  generalize nxN A.sl (nxN A.sl i) = z1 at *
  generalize pvN A.sl (pvN A.sl i) = z2 at *
  generalize pvN A.sl (nxN A.sl i) = r1 at *
  generalize nxN A.sl (pvN A.sl i) = r2 at *
  generalize pvN A.sl i = pp at *
  generalize nxN A.sl i = nn at *
  have hf0 := fld0 r1 z1
  have hf1 := fld1 z2 r2
  go_enter Try.func46, Try.ntmps46
  go_wp2_with fail
  refine c1.out.mono ?_
  rintro e w1 ⟨rfl, hb1⟩
  have HB1 := Hid.mk' hb1
  have hZ : Lnk (w1.alloc (.cells #[nu 0, nu 0] 88)) w1.heap.size 0 0 := lnk_new _ _ _
  have HBZ : Hid (Below w.heap.size w (w1.alloc (.cells #[nu 0, nu 0] 88))) := hb1.alloc hb1.size _
  obtain ⟨lb, hlb⟩ : ∃ lb, w1.heap.size = lb := ⟨_, rfl⟩
  rw [hlb] at hZ
  have HZ := Hid.mk' hZ
  have hlw : w.heap.size ≤ lb := by rw [← hlb]; exact hb1.size
  have HLB := Hid.mk' hlb
  clear hb1 c1 hZ hlb
  go_wp2_with (first | (rw [HLB.out]; refine wpList_store_lnk rfl _ _ rfl lb rfl pp nn rfl 0 0 HZ.out ?_; intro W2 hl2 hg2 hs2; have HK2 := Hid.mk' hl2; have HB2 : Hid (Below w.heap.size w W2) := (HBZ.out.grown hg2 HBZ.out.size (fun r e => by cases e; exact hlw)); clear hl2 hg2 hs2) | fail)
  clear HZ HBZ HB1 HLB
  have HK3 : Hid (Lnk W2.drew lb pp nn) := HK2.out
  have HBW3 : Hid (Below w.heap.size w W2.drew) := HB2.out.drew
  have HKW3 := HK3
  have hS0 : W2.drew.cell? ⟨lb, 0, none⟩ = some (nu pp) ∧ W2.drew.cell? ⟨lb, 1, none⟩ = some (nu nn) := HK3.out.cells
  clear HK2 HB2 HK3
  refine wp_region_held_drew (S := fun w' => w'.cell? ⟨lb, 0, none⟩ = some (nu pp) ∧ w'.cell? ⟨lb, 1, none⟩ = some (nu nn)) (by kernel_rfl) hS0 (fun hHeld => ?_)
  generalize W2.drew = W3 at *
  refine wpAnyH_take (i := 0) (v := ?_) rfl (by kernel_rfl) (by kernel_rfl) (by kernel_rfl) (fun _ _ _ h => h) (Or.inl ⟨by rfl, ?_⟩) hHeld ?_
  rotate_left
  · (intro w' hS'; go_simp <;> with_reducible rfl)
  simp only [Act.put, List.getElem_toArray, List.getElem_cons_succ, List.getElem_cons_zero, List.setIfInBounds_toArray, List.set]
  refine wpAnyH_take (i := 1) (v := ?_) rfl (by kernel_rfl) (by kernel_rfl) (by kernel_rfl) (fun _ _ _ h => h) (Or.inl ⟨by rfl, ?_⟩) hHeld ?_
  rotate_left
  · (intro w' hS'; go_simp <;> with_reducible rfl)
  simp only [Act.put, List.getElem_toArray, List.getElem_cons_succ, List.getElem_cons_zero, List.setIfInBounds_toArray, List.set]
  refine wpAnyH_take (i := 2) (v := ?_) rfl (by kernel_rfl) (by kernel_rfl) (by kernel_rfl) (fun _ _ _ h => h) (Or.inl ⟨by rfl, ?_⟩) hHeld ?_
  rotate_left
  · (intro w' hS'; go_simp <;> with_reducible rfl)
  simp only [Act.put, List.getElem_toArray, List.getElem_cons_succ, List.getElem_cons_zero, List.setIfInBounds_toArray, List.set]
  refine wpAnyH_take (i := 5) (v := ?_) rfl (by kernel_rfl) (by kernel_rfl) (by kernel_rfl) (fun _ _ _ h => h) (Or.inl ⟨by rfl, ?_⟩) hHeld ?_
  rotate_left
  · (intro w' hS'; go_simp <;> with_reducible rfl)
  simp only [Act.put, List.getElem_toArray, List.getElem_cons_succ, List.getElem_cons_zero, List.setIfInBounds_toArray, List.set]
  refine wpAnyH_take (i := 6) (v := ?_) rfl (by kernel_rfl) (by kernel_rfl) (by kernel_rfl) (fun _ _ _ h => h) (Or.inl ⟨by rfl, ?_⟩) hHeld ?_
  rotate_left
  · (intro w' hS'; go_simp <;> with_reducible rfl)
  simp only [Act.put, List.getElem_toArray, List.getElem_cons_succ, List.getElem_cons_zero, List.setIfInBounds_toArray, List.set]
  refine wpAnyH_take (i := 7) (v := ?_) rfl (by kernel_rfl) (by kernel_rfl) (by kernel_rfl) (fun _ _ _ h => h) (Or.inl ⟨by rfl, ?_⟩) hHeld ?_
  rotate_left
  · (intro w' hS'; go_simp <;> with_reducible rfl)
  simp only [Act.put, List.getElem_toArray, List.getElem_cons_succ, List.getElem_cons_zero, List.setIfInBounds_toArray, List.set]
  refine wpAnyH_ready (rs := [3, 11]) (by kernel_rfl) (by simp) ?_
  refine AllReadyH.cons rfl (fun K hK => ?_) (AllReadyH.cons rfl (fun K hK => ?_) AllReadyH.nil)
  · go_simp
    refine (c3.out _ HBW3.out).mono ?_
    rintro e W4 ⟨rfl, hbW4⟩
    have HBW4 : Hid (Below w.heap.size w W4) := HBW3.out.trans (hbW4.mono HBW3.out.size)
    have HKW4 : Hid (Lnk W4 lb pp nn) := HKW3.out.below hbW4
    have hSW4 : W4.cell? ⟨lb, 0, none⟩ = some (nu pp) ∧ W4.cell? ⟨lb, 1, none⟩ = some (nu nn) := HKW4.out.cells
    clear hbW4
    go_wp2_with fail
    refine hK.out _ _ hSW4 (fun hHeld => ?_)
    clear hK K
    refine wpAnyH_take (i := 4) (v := ?_) rfl (by kernel_rfl) (by kernel_rfl) (by kernel_rfl) (fun _ _ _ h => h) (Or.inl ⟨by rfl, ?_⟩) hHeld ?_
    rotate_left
    · (intro w' hS'; go_simp <;> with_reducible rfl)
    simp only [Act.put, List.getElem_toArray, List.getElem_cons_succ, List.getElem_cons_zero, List.setIfInBounds_toArray, List.set]
    refine wpAnyH_ready (rs := [8, 11]) (by kernel_rfl) (by simp) ?_
    refine AllReadyH.cons rfl (fun K hK => ?_) (AllReadyH.cons rfl (fun K hK => ?_) AllReadyH.nil)
    · go_simp
      refine (c4.out _ HBW4.out).mono ?_
      rintro e W5 ⟨rfl, hbW5⟩
      have HBW5 : Hid (Below w.heap.size w W5) := HBW4.out.trans (hbW5.mono HBW4.out.size)
      have HKW5 : Hid (Lnk W5 lb pp nn) := HKW4.out.below hbW5
      have hSW5 : W5.cell? ⟨lb, 0, none⟩ = some (nu pp) ∧ W5.cell? ⟨lb, 1, none⟩ = some (nu nn) := HKW5.out.cells
      clear hbW5
      go_wp2_with fail
      refine hK.out _ _ hSW5 (fun hHeld => ?_)
      clear hK K
      refine wpAnyH_take (i := 9) (v := ?_) rfl (by kernel_rfl) (by kernel_rfl) (by kernel_rfl) (fun _ _ _ h => h) (Or.inl ⟨by rfl, ?_⟩) hHeld ?_
      rotate_left
      · (intro w' hS'; go_simp <;> with_reducible rfl)
      simp only [Act.put, List.getElem_toArray, List.getElem_cons_succ, List.getElem_cons_zero, List.setIfInBounds_toArray, List.set]
      refine wpAnyH_take (i := 10) (v := ?_) rfl (by kernel_rfl) (by kernel_rfl) (by kernel_rfl) (fun _ _ _ h => h) (Or.inl ⟨by rfl, ?_⟩) hHeld ?_
      rotate_left
      · (intro w' hS'; go_simp <;> with_reducible rfl)
      simp only [Act.put, List.getElem_toArray, List.getElem_cons_succ, List.getElem_cons_zero, List.setIfInBounds_toArray, List.set]
      refine wpAnyH_ready (rs := [11]) (by kernel_rfl) (by simp) ?_
      refine AllReadyH.cons rfl (fun K hK => ?_) AllReadyH.nil
      go_simp
      obtain ⟨W6, hW6⟩ : ∃ W6, W5.alloc (.cells #[nu 0, nu 0] 88) = W6 := ⟨_, rfl⟩
      obtain ⟨nb, hnb⟩ : ∃ nb, W5.heap.size = nb := ⟨_, rfl⟩
      have HBW6 : Hid (Below w.heap.size w W6) := by rw [← hW6]; exact HBW5.out.alloc HBW5.out.size _
      have HKW6 : Hid (Lnk W6 lb pp nn) := by rw [← hW6]; exact (heap_alloc_old _ _ HKW5.out.lt).trans HKW5.out
      have HNW6 : Hid (Lnk W6 nb 0 0) := by rw [← hW6, ← hnb]; exact lnk_new _ _ _
      have hnl : lb ≠ nb := by rw [← hnb]; exact Nat.ne_of_lt HKW5.out.lt
      have hnw : w.heap.size ≤ nb := by rw [← hnb]; exact HBW5.out.size
      have hSW6 : W6.cell? ⟨lb, 0, none⟩ = some (nu pp) ∧ W6.cell? ⟨lb, 1, none⟩ = some (nu nn) := HKW6.out.cells
      rw [hW6, hnb]
      clear hW6 hnb
      refine hK.out _ _ hSW6 (fun hHeld => ?_)
      clear hK K
      refine wpAnyH_ready (rs := [12]) (by kernel_rfl) (by simp) ?_
      refine AllReadyH.cons rfl (fun K hK => ?_) AllReadyH.nil
      rw [if_pos (by rfl)]
      simp only [List.getElem_toArray, List.getElem_cons_succ, List.getElem_cons_zero]
      refine wp_store_mid 88 _ _ rfl nb 0 #[nu r1, nu r2] rfl rfl HNW6.out.there2 size_lks (all_oneCell_toArray (cs := [nu r1, nu r2]) (by simp [Value.oneCell'])) ?_
      have HN9 : Hid (Lnk (W6.setCells nb 0 [nu r1, nu r2]) nb r1 r2) := HNW6.out.stored r1 r2
      have HB9 : Hid (Below w.heap.size w (W6.setCells nb 0 [nu r1, nu r2])) := HBW6.out.grown (grown_setCells nb [nu r1, nu r2] 0 W6) HBW6.out.size (fun r e => by cases e; exact hnw)
      have hS9 : (W6.setCells nb 0 [nu r1, nu r2]).cell? ⟨lb, 0, none⟩ = some (nu pp) ∧ (W6.setCells nb 0 [nu r1, nu r2]).cell? ⟨lb, 1, none⟩ = some (nu nn) := Lnk.cells (((grown_setCells nb [nu r1, nu r2] 0 W6).block lb HKW6.out.lt (fun e => hnl (Option.some.inj e))).trans HKW6.out)
      generalize W6.setCells nb 0 [nu r1, nu r2] = W9 at *
      refine hK.out _ _ hS9 (fun hHeld => ?_)
      clear hK K
      refine wpAnyH_done (by kernel_rfl) ?_ _
      simp only [Act.put, List.getElem_toArray, List.getElem_cons_succ, List.getElem_cons_zero, List.setIfInBounds_toArray, List.set]
      have HX9 := Hid.mk' HN9.out.range
      clear hHeld hS9 HN9 hf0 hf1
      by_cases h1 : r1 = i
      · by_cases h2 : r2 = i
        · have hr : Hid (res = .nilIface) := HRES.out.1 ⟨h1, h2⟩
          have e1 : (r1 == i) = true := by simpa using h1
          have e2 : (r2 == i) = true := by simpa using h2
          clear h1 h2 HRES
          go_wp2_with (first | (refine wpList_load_lnk rfl _ rfl nb rfl r1 r2 HX9.out ?_) | fail)
          go_ret
          exact ⟨by rw [hr.out]; rfl, HB9.out⟩
        · have hr : Hid (res = .iface 96 (.agg #[.int .i64 24, .int .i64 i])) := HRES.out.2 (fun q => h2 q.2)
          have e1 : (r1 == i) = true := by simpa using h1
          have e2 : (r2 == i) = false := by simpa using h2
          clear h1 h2 HRES
          go_wp2_with (first | (refine wpList_load_lnk rfl _ rfl nb rfl r1 r2 HX9.out ?_) | fail)
          go_ret
          exact ⟨by rw [hr.out]; rfl, HB9.out⟩
      · have hr : Hid (res = .iface 96 (.agg #[.int .i64 24, .int .i64 i])) := HRES.out.2 (fun q => h1 q.1)
        have e1 : (r1 == i) = false := by simpa using h1
        clear h1 HRES
        go_wp2_with (first | (refine wpList_load_lnk rfl _ rfl nb rfl r1 r2 HX9.out ?_) | fail)
        go_ret
        exact ⟨by rw [hr.out]; rfl, HB9.out⟩
    · go_simp
      obtain ⟨W5, hW5⟩ : ∃ W5, W4.alloc (.cells #[nu 0, nu 0] 88) = W5 := ⟨_, rfl⟩
      obtain ⟨nb, hnb⟩ : ∃ nb, W4.heap.size = nb := ⟨_, rfl⟩
      have HBW5 : Hid (Below w.heap.size w W5) := by rw [← hW5]; exact HBW4.out.alloc HBW4.out.size _
      have HKW5 : Hid (Lnk W5 lb pp nn) := by rw [← hW5]; exact (heap_alloc_old _ _ HKW4.out.lt).trans HKW4.out
      have HNW5 : Hid (Lnk W5 nb 0 0) := by rw [← hW5, ← hnb]; exact lnk_new _ _ _
      have hnl : lb ≠ nb := by rw [← hnb]; exact Nat.ne_of_lt HKW4.out.lt
      have hnw : w.heap.size ≤ nb := by rw [← hnb]; exact HBW4.out.size
      have hSW5 : W5.cell? ⟨lb, 0, none⟩ = some (nu pp) ∧ W5.cell? ⟨lb, 1, none⟩ = some (nu nn) := HKW5.out.cells
      rw [hW5, hnb]
      clear hW5 hnb
      refine hK.out _ _ hSW5 (fun hHeld => ?_)
      clear hK K
      refine wpAnyH_ready (rs := [8]) (by kernel_rfl) (by simp) ?_
      refine AllReadyH.cons rfl (fun K hK => ?_) AllReadyH.nil
      go_simp
      refine (c4.out _ HBW5.out).mono ?_
      rintro e W6 ⟨rfl, hbW6⟩
      have HBW6 : Hid (Below w.heap.size w W6) := HBW5.out.trans (hbW6.mono HBW5.out.size)
      have HKW6 : Hid (Lnk W6 lb pp nn) := HKW5.out.below hbW6
      have HNW6 : Hid (Lnk W6 nb 0 0) := HNW5.out.below hbW6
      have hSW6 : W6.cell? ⟨lb, 0, none⟩ = some (nu pp) ∧ W6.cell? ⟨lb, 1, none⟩ = some (nu nn) := HKW6.out.cells
      clear hbW6
      go_wp2_with fail
      refine hK.out _ _ hSW6 (fun hHeld => ?_)
      clear hK K
      refine wpAnyH_take (i := 9) (v := ?_) rfl (by kernel_rfl) (by kernel_rfl) (by kernel_rfl) (fun _ _ _ h => h) (Or.inl ⟨by rfl, ?_⟩) hHeld ?_
      rotate_left
      · (intro w' hS'; go_simp <;> with_reducible rfl)
      simp only [Act.put, List.getElem_toArray, List.getElem_cons_succ, List.getElem_cons_zero, List.setIfInBounds_toArray, List.set]
      refine wpAnyH_take (i := 10) (v := ?_) rfl (by kernel_rfl) (by kernel_rfl) (by kernel_rfl) (fun _ _ _ h => h) (Or.inl ⟨by rfl, ?_⟩) hHeld ?_
      rotate_left
      · (intro w' hS'; go_simp <;> with_reducible rfl)
      simp only [Act.put, List.getElem_toArray, List.getElem_cons_succ, List.getElem_cons_zero, List.setIfInBounds_toArray, List.set]
      refine wpAnyH_ready (rs := [12]) (by kernel_rfl) (by simp) ?_
      refine AllReadyH.cons rfl (fun K hK => ?_) AllReadyH.nil
      rw [if_pos (by rfl)]
      simp only [List.getElem_toArray, List.getElem_cons_succ, List.getElem_cons_zero]
      refine wp_store_mid 88 _ _ rfl nb 0 #[nu r1, nu r2] rfl rfl HNW6.out.there2 size_lks (all_oneCell_toArray (cs := [nu r1, nu r2]) (by simp [Value.oneCell'])) ?_
      have HN9 : Hid (Lnk (W6.setCells nb 0 [nu r1, nu r2]) nb r1 r2) := HNW6.out.stored r1 r2
      have HB9 : Hid (Below w.heap.size w (W6.setCells nb 0 [nu r1, nu r2])) := HBW6.out.grown (grown_setCells nb [nu r1, nu r2] 0 W6) HBW6.out.size (fun r e => by cases e; exact hnw)
      have hS9 : (W6.setCells nb 0 [nu r1, nu r2]).cell? ⟨lb, 0, none⟩ = some (nu pp) ∧ (W6.setCells nb 0 [nu r1, nu r2]).cell? ⟨lb, 1, none⟩ = some (nu nn) := Lnk.cells (((grown_setCells nb [nu r1, nu r2] 0 W6).block lb HKW6.out.lt (fun e => hnl (Option.some.inj e))).trans HKW6.out)
      generalize W6.setCells nb 0 [nu r1, nu r2] = W9 at *
      refine hK.out _ _ hS9 (fun hHeld => ?_)
      clear hK K
      refine wpAnyH_done (by kernel_rfl) ?_ _
      simp only [Act.put, List.getElem_toArray, List.getElem_cons_succ, List.getElem_cons_zero, List.setIfInBounds_toArray, List.set]
      have HX9 := Hid.mk' HN9.out.range
      clear hHeld hS9 HN9 hf0 hf1
      by_cases h1 : r1 = i
      · by_cases h2 : r2 = i
        · have hr : Hid (res = .nilIface) := HRES.out.1 ⟨h1, h2⟩
          have e1 : (r1 == i) = true := by simpa using h1
          have e2 : (r2 == i) = true := by simpa using h2
          clear h1 h2 HRES
          go_wp2_with (first | (refine wpList_load_lnk rfl _ rfl nb rfl r1 r2 HX9.out ?_) | fail)
          go_ret
          exact ⟨by rw [hr.out]; rfl, HB9.out⟩
        · have hr : Hid (res = .iface 96 (.agg #[.int .i64 24, .int .i64 i])) := HRES.out.2 (fun q => h2 q.2)
          have e1 : (r1 == i) = true := by simpa using h1
          have e2 : (r2 == i) = false := by simpa using h2
          clear h1 h2 HRES
          go_wp2_with (first | (refine wpList_load_lnk rfl _ rfl nb rfl r1 r2 HX9.out ?_) | fail)
          go_ret
          exact ⟨by rw [hr.out]; rfl, HB9.out⟩
      · have hr : Hid (res = .iface 96 (.agg #[.int .i64 24, .int .i64 i])) := HRES.out.2 (fun q => h1 q.1)
        have e1 : (r1 == i) = false := by simpa using h1
        clear h1 HRES
        go_wp2_with (first | (refine wpList_load_lnk rfl _ rfl nb rfl r1 r2 HX9.out ?_) | fail)
        go_ret
        exact ⟨by rw [hr.out]; rfl, HB9.out⟩
  · go_simp
    obtain ⟨W4, hW4⟩ : ∃ W4, W3.alloc (.cells #[nu 0, nu 0] 88) = W4 := ⟨_, rfl⟩
    obtain ⟨nb, hnb⟩ : ∃ nb, W3.heap.size = nb := ⟨_, rfl⟩
    have HBW4 : Hid (Below w.heap.size w W4) := by rw [← hW4]; exact HBW3.out.alloc HBW3.out.size _
    have HKW4 : Hid (Lnk W4 lb pp nn) := by rw [← hW4]; exact (heap_alloc_old _ _ HKW3.out.lt).trans HKW3.out
    have HNW4 : Hid (Lnk W4 nb 0 0) := by rw [← hW4, ← hnb]; exact lnk_new _ _ _
    have hnl : lb ≠ nb := by rw [← hnb]; exact Nat.ne_of_lt HKW3.out.lt
    have hnw : w.heap.size ≤ nb := by rw [← hnb]; exact HBW3.out.size
    have hSW4 : W4.cell? ⟨lb, 0, none⟩ = some (nu pp) ∧ W4.cell? ⟨lb, 1, none⟩ = some (nu nn) := HKW4.out.cells
    rw [hW4, hnb]
    clear hW4 hnb
    refine hK.out _ _ hSW4 (fun hHeld => ?_)
    clear hK K
    refine wpAnyH_ready (rs := [3]) (by kernel_rfl) (by simp) ?_
    refine AllReadyH.cons rfl (fun K hK => ?_) AllReadyH.nil
    go_simp
    refine (c3.out _ HBW4.out).mono ?_
    rintro e W5 ⟨rfl, hbW5⟩
    have HBW5 : Hid (Below w.heap.size w W5) := HBW4.out.trans (hbW5.mono HBW4.out.size)
    have HKW5 : Hid (Lnk W5 lb pp nn) := HKW4.out.below hbW5
    have HNW5 : Hid (Lnk W5 nb 0 0) := HNW4.out.below hbW5
    have hSW5 : W5.cell? ⟨lb, 0, none⟩ = some (nu pp) ∧ W5.cell? ⟨lb, 1, none⟩ = some (nu nn) := HKW5.out.cells
    clear hbW5
    go_wp2_with fail
    refine hK.out _ _ hSW5 (fun hHeld => ?_)
    clear hK K
    refine wpAnyH_take (i := 4) (v := ?_) rfl (by kernel_rfl) (by kernel_rfl) (by kernel_rfl) (fun _ _ _ h => h) (Or.inl ⟨by rfl, ?_⟩) hHeld ?_
    rotate_left
    · (intro w' hS'; go_simp <;> with_reducible rfl)
    simp only [Act.put, List.getElem_toArray, List.getElem_cons_succ, List.getElem_cons_zero, List.setIfInBounds_toArray, List.set]
    refine wpAnyH_ready (rs := [8]) (by kernel_rfl) (by simp) ?_
    refine AllReadyH.cons rfl (fun K hK => ?_) AllReadyH.nil
    go_simp
    refine (c4.out _ HBW5.out).mono ?_
    rintro e W6 ⟨rfl, hbW6⟩
    have HBW6 : Hid (Below w.heap.size w W6) := HBW5.out.trans (hbW6.mono HBW5.out.size)
    have HKW6 : Hid (Lnk W6 lb pp nn) := HKW5.out.below hbW6
    have HNW6 : Hid (Lnk W6 nb 0 0) := HNW5.out.below hbW6
    have hSW6 : W6.cell? ⟨lb, 0, none⟩ = some (nu pp) ∧ W6.cell? ⟨lb, 1, none⟩ = some (nu nn) := HKW6.out.cells
    clear hbW6
    go_wp2_with fail
    refine hK.out _ _ hSW6 (fun hHeld => ?_)
    clear hK K
    refine wpAnyH_take (i := 9) (v := ?_) rfl (by kernel_rfl) (by kernel_rfl) (by kernel_rfl) (fun _ _ _ h => h) (Or.inl ⟨by rfl, ?_⟩) hHeld ?_
    rotate_left
    · (intro w' hS'; go_simp <;> with_reducible rfl)
    simp only [Act.put, List.getElem_toArray, List.getElem_cons_succ, List.getElem_cons_zero, List.setIfInBounds_toArray, List.set]
    refine wpAnyH_take (i := 10) (v := ?_) rfl (by kernel_rfl) (by kernel_rfl) (by kernel_rfl) (fun _ _ _ h => h) (Or.inl ⟨by rfl, ?_⟩) hHeld ?_
    rotate_left
    · (intro w' hS'; go_simp <;> with_reducible rfl)
    simp only [Act.put, List.getElem_toArray, List.getElem_cons_succ, List.getElem_cons_zero, List.setIfInBounds_toArray, List.set]
    refine wpAnyH_ready (rs := [12]) (by kernel_rfl) (by simp) ?_
    refine AllReadyH.cons rfl (fun K hK => ?_) AllReadyH.nil
    rw [if_pos (by rfl)]
    simp only [List.getElem_toArray, List.getElem_cons_succ, List.getElem_cons_zero]
    refine wp_store_mid 88 _ _ rfl nb 0 #[nu r1, nu r2] rfl rfl HNW6.out.there2 size_lks (all_oneCell_toArray (cs := [nu r1, nu r2]) (by simp [Value.oneCell'])) ?_
    have HN9 : Hid (Lnk (W6.setCells nb 0 [nu r1, nu r2]) nb r1 r2) := HNW6.out.stored r1 r2
    have HB9 : Hid (Below w.heap.size w (W6.setCells nb 0 [nu r1, nu r2])) := HBW6.out.grown (grown_setCells nb [nu r1, nu r2] 0 W6) HBW6.out.size (fun r e => by cases e; exact hnw)
    have hS9 : (W6.setCells nb 0 [nu r1, nu r2]).cell? ⟨lb, 0, none⟩ = some (nu pp) ∧ (W6.setCells nb 0 [nu r1, nu r2]).cell? ⟨lb, 1, none⟩ = some (nu nn) := Lnk.cells (((grown_setCells nb [nu r1, nu r2] 0 W6).block lb HKW6.out.lt (fun e => hnl (Option.some.inj e))).trans HKW6.out)
    generalize W6.setCells nb 0 [nu r1, nu r2] = W9 at *
    refine hK.out _ _ hS9 (fun hHeld => ?_)
    clear hK K
    refine wpAnyH_done (by kernel_rfl) ?_ _
    simp only [Act.put, List.getElem_toArray, List.getElem_cons_succ, List.getElem_cons_zero, List.setIfInBounds_toArray, List.set]
    have HX9 := Hid.mk' HN9.out.range
    clear hHeld hS9 HN9 hf0 hf1
    by_cases h1 : r1 = i
    · by_cases h2 : r2 = i
      · have hr : Hid (res = .nilIface) := HRES.out.1 ⟨h1, h2⟩
        have e1 : (r1 == i) = true := by simpa using h1
        have e2 : (r2 == i) = true := by simpa using h2
        clear h1 h2 HRES
        go_wp2_with (first | (refine wpList_load_lnk rfl _ rfl nb rfl r1 r2 HX9.out ?_) | fail)
        go_ret
        exact ⟨by rw [hr.out]; rfl, HB9.out⟩
      · have hr : Hid (res = .iface 96 (.agg #[.int .i64 24, .int .i64 i])) := HRES.out.2 (fun q => h2 q.2)
        have e1 : (r1 == i) = true := by simpa using h1
        have e2 : (r2 == i) = false := by simpa using h2
        clear h1 h2 HRES
        go_wp2_with (first | (refine wpList_load_lnk rfl _ rfl nb rfl r1 r2 HX9.out ?_) | fail)
        go_ret
        exact ⟨by rw [hr.out]; rfl, HB9.out⟩
    · have hr : Hid (res = .iface 96 (.agg #[.int .i64 24, .int .i64 i])) := HRES.out.2 (fun q => h1 q.1)
      have e1 : (r1 == i) = false := by simpa using h1
      clear h1 HRES
      go_wp2_with (first | (refine wpList_load_lnk rfl _ rfl nb rfl r1 r2 HX9.out ?_) | fail)
      go_ret
      exact ⟨by rw [hr.out]; rfl, HB9.out⟩
end
end Rg
end Go.Proofs.Ythabnombfbehkaa
