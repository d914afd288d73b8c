import Derived.Test.YtcleeidfiaafcaaGreatDoorTreF
import Derived.Test.YtcleeidfiaafcaaGreatDoorShelf
import Derived.Test.YtcleeidfiaafcaaGreatDoorRngN
/- The program's trees: New, Last, Roots, Kids; a slot's children, the last one first. -/
namespace Go.Proofs.YtcleeidfiaafcaaGreatDoor
set_option linter.ambiguousOpen false
open Go.RowKit
namespace Tr
open An Rg Ft Lv
set_option linter.unusedSimpArgs false
set_option linter.unusedVariables false
attribute [local go_sem] Oper.semAt_some

set_option maxRecDepth 100000 in
theorem rev_any (base n : Nat) (v : Value) (L : List Nat) (w : World) (h : w.ownsRow base 3 1 v n (L.map nun)) (hn : n ≤ 1000000) :
    Calls Tryz.prog 83 #[v] w fun e w' => e = .returned (.tuple #[]) ∧ w'.ownsRow base 3 1 v n (L.reverse.map nun) ∧ w.grownBy w' v.ownBlock := by
  have hl : L.length = n := by have := h.1; simpa using this
  subst hl
  rcases h.2 with ⟨rfl, h0⟩ | ⟨g, cap, cur, rfl, hbg, hg, hnc, hcm, hcs, htk⟩
  · have hL : L = [] := List.length_eq_zero_iff.1 h0
    subst hL
    refine (Tryz.slices_Reverse_int_empty none 0 w).mono ?_
    rintro e w' ⟨rfl, rfl⟩
    exact ⟨rfl, h, ⟨rfl, rfl, rfl, Nat.le_refl _, fun _ _ _ => rfl⟩⟩
  · have hH : Go.Sort.Holds (Value.int .i64) w g 0 (L.map (fun i : Nat => (i : Int))).toArray := fun j hj => by
      have hj' : j < L.length := by simpa using hj
      refine ⟨?_, by simp [World.frozen?, hg]⟩
      have h1 := h.cellAt (g := g) (cap := cap) j (by simpa using hj')
      rw [Nat.zero_add, h1]
      simp [hj']
    have c := Tryz.slices_Reverse_int g 0 cap (L.map (fun i : Nat => (i : Int))) w hH (by simp; omega)
    rw [List.length_map] at c
    refine c.mono ?_
    rintro e w' ⟨rfl, k, rfl⟩
    refine ⟨rfl, ⟨by simp, .inr ⟨g, cap, Go.Sort.putCells (Value.int .i64) 0 (L.map (fun i : Nat => (i : Int))).reverse.toArray cur, rfl, hbg, ?_, hnc, hcm, by simpa [Go.Sort.putCells] using hcs, ?_⟩⟩, ⟨rfl, rfl, rfl, ?_, fun b hb hn => ?_⟩⟩
    · simp [Go.Sort.putRow, Go.Sort.mapBlock, Go.Sort.ahead, Array.getElem?_modify, hg, Go.Sort.onCells]
    · apply List.ext_getElem?
      intro j
      simp only [Nat.mul_one] at hcs ⊢
      by_cases hj : j < L.length
      · rw [List.getElem?_take, if_pos hj, Array.getElem?_toList]
        have hjr : j < (L.map (fun i : Nat => (i : Int))).reverse.length := by simpa using hj
        have hjc : j < cur.size := by omega
        simp only [Go.Sort.putCells, Array.getElem?_mapIdx, Array.getElem?_eq_getElem hjc, Option.map_some, List.size_toArray, Nat.zero_add, Nat.zero_le, true_and, if_pos hjr, Nat.sub_zero]
        rw [List.getElem?_map, List.getElem?_eq_getElem (by simpa using hj)]
        simp [hj, getElem!_pos]
      · rw [List.getElem?_take, if_neg hj, List.getElem?_eq_none (by simp; omega)]
    · simp [Go.Sort.putRow, Go.Sort.mapBlock, Go.Sort.ahead]
    · have hne : g ≠ b := fun e => hn (by rw [← e]; rfl)
      simp [Go.Sort.putRow, Go.Sort.mapBlock, Go.Sort.ahead, Array.getElem?_modify, hne]

section
variable {Rep : World → Nat → (Nat → Prop) → Arn → Prop}

set_option maxRecDepth 100000 in
theorem new_p (C : ArC Rep) (w : World) (p : Nat) (F : Nat → Prop) (A : Arn) (h : Rep w p F A) (hg : An.Good A) :
    Calls Tryz.prog 6 #[ptr p] w fun e w' => ∃ q G, e = .returned (ptr q) ∧ RepT Rep w' p q G A (-1) ∧ (∀ k, G k → F k ∨ w.heap.size ≤ k) ∧ Below w.heap.size w w' := by
  have hB : Below w.heap.size w (w.alloc (.cells #[ptr p, nu (-1)] 61)) := (Below.refl _ _).alloc (Nat.le_refl _) _
  have HB := Hid.mk' hB
  have HR : Hid (RepT Rep (w.alloc (.cells #[ptr p, nu (-1)] 61)) p w.heap.size (fun k => k = w.heap.size ∨ F k) A (-1)) := ⟨F, C.keep.below h hB, heap_alloc_new _ _, fun e => by have := C.keep.lt h _ e; omega, rfl⟩
  clear hB h hg C
  go_enter Tryz.func6, Tryz.ntmps6
  go_wp2
  go_ret
  exact ⟨_, _, rfl, HR.out, fun k hk => hk.elim (fun e => .inr (by omega)) .inl, HB.out⟩

set_option maxRecDepth 100000 in
theorem last_p (w : World) (p q : Nat) (F : Nat → Prop) (A : Arn) (l : Int) (h : RepT Rep w p q F A l) :
    Calls Tryz.prog 11 #[ptr q] w fun e w' => e = .returned (nu l) ∧ Below w.heap.size w w' := by
  have hc := h.cells.2.1
  clear h
  go_enter Tryz.func11, Tryz.ntmps11
  go_wp2
  go_ret
  exact ⟨rfl, Below.refl _ _⟩

/-- All, from a later world on. -/
theorem all_h (C : ArC Rep) (w : World) (p q : Nat) (F : Nat → Prop) (A : Arn) (l r : Int) (h : RepT Rep w p q F A l) (hg : An.Good A) (wx : World) (hb : Below w.heap.size w wx) :
    Calls Tryz.prog 33 #[ptr p, nu r] wx fun e w' => ∃ gf lb, e = .returned (.func (.func gf) #[] lb) ∧ Hid (Below w.heap.size w w' ∧ Below wx.heap.size wx w' ∧ ∃ X, IterA w' (.func (.func gf) #[] lb) X (allL A.sl r) ∧ ∀ b, X b → w.heap.size ≤ b) := by
  obtain ⟨Fa, h1, h2, h3, rfl⟩ := h.below C.keep hb
  refine (C.all wx p Fa A r h1 hg).mono ?_
  rintro e w' ⟨fv, X, rfl, hit, hX, hb'⟩
  obtain ⟨gf, lb, k, rfl, rest⟩ := hit
  exact ⟨gf, lb, rfl, hb.trans (hb'.mono hb.size), hb', X, ⟨gf, lb, k, rfl, rest⟩, fun b hx => Nat.le_trans hb.size (hX b hx)⟩

set_option maxRecDepth 100000 in
set_option maxHeartbeats 1000000 in
theorem roots_p (C : ArC Rep) (w : World) (p q : Nat) (F : Nat → Prop) (A : Arn) (l : Int) (h : RepT Rep w p q F A l) (hg : An.Good A) :
    Calls Tryz.prog 14 #[ptr q] w fun e w' => ∃ fv X, e = .returned fv ∧ IterA w' fv X (allL A.sl l) ∧ (∀ b, X b → w.heap.size ≤ b) ∧ Below w.heap.size w w' := by
  have cA := Hid.mk' (all_h C w p q F A l l h hg w.drew (Below.refl _ _).drew)
  obtain ⟨q0, q1, _⟩ := h.cells
  have HS : Hid (∀ wx, Below w.heap.size w wx → wx.cell? ⟨q, 0, none⟩ = some (ptr p) ∧ wx.cell? ⟨q, 1, none⟩ = some (nu l)) := fun wx hb => ⟨(h.below C.keep hb).cells.1, (h.below C.keep hb).cells.2.1⟩
  have HSD := Hid.mk' (HS.out w.drew (Below.refl _ _).drew)
  generalize allL A.sl l = L at *
  clear h hg C
  go_enter Tryz.func14, Tryz.ntmps14
  go_upto_region 1 with fail
  go_region_held3 (fun w' => w'.cell? ⟨q, 0, none⟩ = some (ptr p) ∧ w'.cell? ⟨q, 1, none⟩ = some (nu l)) (first | assumption | exact HSD.out | exact hs5 | fail) (first | (go_at_call 33; with_reducible refine cA.out.mono ?_; rintro e w5 ⟨gf, lb, rfl, hQ5⟩; have hs5 := HS.out w5 hQ5.out.1) | fail)
  go_wp2
  go_ret
  obtain ⟨h1, _, X, h3, h4⟩ := hQ5.out
  exact ⟨_, X, rfl, h3, h4, h1⟩

set_option maxRecDepth 100000 in
set_option maxHeartbeats 1000000 in
theorem kids_p (C : ArC Rep) (w : World) (p q : Nat) (F : Nat → Prop) (A : Arn) (l i : Int) (h : RepT Rep w p q F A l) (hg : An.Good A) :
    Calls Tryz.prog 18 #[ptr q, nu i] w fun e w' => ∃ fv X, e = .returned fv ∧ IterA w' fv X (kidsL A.sl i) ∧ (∀ b, X b → w.heap.size ≤ b) ∧ Below w.heap.size w w' := by
  have cs := Hid.mk' (slot_p C w p q F A l i h hg)
  have cA : Hid (∀ wx r, Below w.heap.size w wx → Calls Tryz.prog 33 #[ptr p, nu r] wx fun e w' => ∃ gf lb, e = .returned (.func (.func gf) #[] lb) ∧ Hid (Below w.heap.size w w' ∧ Below wx.heap.size wx w' ∧ ∃ X, IterA w' (.func (.func gf) #[] lb) X (allL A.sl r) ∧ ∀ b, X b → w.heap.size ≤ b)) := fun wx r hb => all_h C w p q F A l r h hg wx hb
  have cQ : Hid (∀ wx, Below w.heap.size w wx → wx.cell? ⟨q, 0, none⟩ = some (ptr p)) := fun wx hb => (h.below C.keep hb).cells.1
  unfold kidsL
  by_cases ht : there i
  · rw [if_pos ht]
    rw [decide_eq_true ht, at_there ht] at cs
    obtain ⟨x, hx⟩ : ∃ x, at' A.sl i = x := ⟨_, rfl⟩
    rw [hx] at cs ⊢
    clear h hg C ht hx
    go_enter Tryz.func18, Tryz.ntmps18
    go_wp2_with fail
    refine cs.out.mono ?_
    rintro e w1 ⟨rfl, hb1⟩
    have HB1 := Hid.mk' hb1
    have HZ := Hid.mk' (lone_zero w1)
    have HBZ : Hid (Below w.heap.size w (w1.alloc (.cells sltZ 40))) := HB1.out.alloc HB1.out.size _
    clear hb1 cs
    go_upto_region 4 with (first | (refine wpList_store_lone rfl _ _ rfl w1.heap.size rfl x rfl slt0 HZ.out ?_; intro w2 hl2 hg2 hs2; have HB2 : Hid (Below w.heap.size w w2) := (HBZ.out.grown hg2 HBZ.out.size (fun r e => by cases e; exact HB1.out.size)); have HL2 := Hid.mk' hl2; clear hl2 hg2 hs2) | fail)
    obtain ⟨sb, hsb⟩ : ∃ sb, w1.heap.size = sb := ⟨_, rfl⟩
    have hles : w.heap.size ≤ sb := by have := HB1.out.size; omega
    rw [hsb] at HL2
    simp only [hsb]
    have hls : sb < w2.heap.size := (Array.getElem?_eq_some_iff.1 HL2.out).1
    have c5 := Hid.mk' (cA.out w2.drew x.kids HB2.out.drew)
    have HS : Hid (∀ wx, Below w.heap.size w wx → Below w2.drew.heap.size w2.drew wx → wx.cell? ⟨q, 0, none⟩ = some (ptr p) ∧ wx.cell? ⟨sb, 2, none⟩ = some (nu x.kids)) := fun wx hb hb2 => ⟨cQ.out wx hb, (Lone.cells (w := wx) ((hb2.block sb hls).trans HL2.out)).2.2.1⟩
    have HSD := Hid.mk' (HS.out w2.drew HB2.out.drew (Below.refl _ _))
    have z0 : w2.cell? ⟨q, 0, none⟩ = some (ptr p) := HSD.out.1
    have z1 : w2.cell? ⟨sb, 2, none⟩ = some (nu x.kids) := HSD.out.2
    clear cA cQ HZ HBZ HB1 hsb HB2
    go_region_held3 (fun w' => w'.cell? ⟨q, 0, none⟩ = some (ptr p) ∧ w'.cell? ⟨sb, 2, none⟩ = some (nu x.kids)) (first | assumption | exact HSD.out | exact hs5 | fail) (first | (go_at_call 33; with_reducible refine c5.out.mono ?_; rintro e w5 ⟨gf, lb, rfl, hQ5⟩; have hs5 := HS.out w5 hQ5.out.1 hQ5.out.2.1) | fail)
    go_wp2
    go_ret
    obtain ⟨h1, _, X, h3, h4⟩ := hQ5.out
    exact ⟨_, X, rfl, h3, h4, h1⟩
  · rw [if_neg ht]
    rw [decide_eq_false ht] at cs
    have hall : allL A.sl (-1) = [] := rfl
    have cA1 : Hid (∀ wx, Below w.heap.size w wx → Calls Tryz.prog 33 #[ptr p, nu (-1)] wx fun e w' => ∃ gf lb, e = .returned (.func (.func gf) #[] lb) ∧ Hid (Below w.heap.size w w' ∧ Below wx.heap.size wx w' ∧ ∃ X, IterA w' (.func (.func gf) #[] lb) X [] ∧ ∀ b, X b → w.heap.size ≤ b)) := fun wx hb => by
      have := cA.out wx (-1) hb
      rw [hall] at this
      exact this
    generalize A.at i = x at *
    clear h hg C ht cA hall
    go_enter Tryz.func18, Tryz.ntmps18
    go_wp2_with fail
    refine cs.out.mono ?_
    rintro e w1 ⟨rfl, hb1⟩
    have HB1 := Hid.mk' hb1
    have HZ := Hid.mk' (lone_zero w1)
    have HBZ : Hid (Below w.heap.size w (w1.alloc (.cells sltZ 40))) := HB1.out.alloc HB1.out.size _
    clear hb1 cs
    go_wp2_with (first | (refine wpList_store_lone rfl _ _ rfl w1.heap.size rfl x rfl slt0 HZ.out ?_; intro w2 hl2 hg2 hs2; have HB2 : Hid (Below w.heap.size w w2) := (HBZ.out.grown hg2 HBZ.out.size (fun r e => by cases e; exact HB1.out.size)); have z0 := cQ.out w2 HB2.out; clear hl2 hg2 hs2) | fail)
    refine (cA1.out _ HB2.out).mono ?_
    rintro e w5 ⟨gf, lb, rfl, hQ5⟩
    go_wp2
    go_ret
    obtain ⟨h1, _, X, h3, h4⟩ := hQ5.out
    exact ⟨_, X, rfl, h3, h4, h1⟩

set_option maxRecDepth 1000000 in
set_option maxHeartbeats 8000000 in
theorem kidsBack_p (C : ArC Rep) (w : World) (p q : Nat) (F : Nat → Prop) (A : Arn) (l i : Int) (h : RepT Rep w p q F A l) (hg : An.Good A) :
    Calls Tryz.prog 63 #[ptr q, nu i] w fun e w' => ∃ v, e = .returned v ∧ w'.ownsRow w.heap.size 3 1 v (kidsL A.sl i).length ((kidsL A.sl i).reverse.map nun) ∧ Below w.heap.size w w' := by
  obtain ⟨i0, ji, hz0, hz1, hz2⟩ := info_parts info_int
  have hB1 : Below w.heap.size w (w.alloc (.cells #[.slice none 0 0] 50)) := (Below.refl _ _).alloc (Nat.le_refl _) _
  have x1 : Boxed (w.alloc (.cells #[.slice none 0 0] 50)) w.heap.size 50 (.slice none 0 0) := Boxed.new w _ _
  have hs1 : (w.alloc (.cells #[.slice none 0 0] 50)).heap.size = w.heap.size + 1 := by simp
  obtain ⟨W1, hW1⟩ : ∃ W1, w.alloc (.cells #[.slice none 0 0] 50) = W1 := ⟨_, rfl⟩
  rw [hW1] at hB1 x1 hs1
  have HW1 := Hid.mk' hW1
  have hfew : (kidsL A.sl i).length ≤ 32 := kidsL_len _ _
  obtain ⟨L, hL⟩ : ∃ L, kidsL A.sl i = L := ⟨_, rfl⟩
  rw [hL] at hfew ⊢
  have cK : Hid (Calls Tryz.prog 18 #[ptr q, nu i] W1 fun e w' => ∃ gf lb, e = .returned (.func (.func gf) #[] lb) ∧ Hid (Below W1.heap.size W1 w' ∧ ∃ X, IterA w' (.func (.func gf) #[] lb) X L ∧ ∀ b, X b → W1.heap.size ≤ b)) := by
    refine (kids_p C W1 p q F A l i (h.below C.keep hB1) hg).mono ?_
    rintro e w' ⟨fv, X, rfl, hit, hX, hb'⟩
    rw [hL] at hit
    obtain ⟨gf, lb, k, rfl, rest⟩ := hit
    exact ⟨gf, lb, rfl, hb', X, ⟨gf, lb, k, rfl, rest⟩, hX⟩
  have HB1 := Hid.mk' hB1
  have HX1 := Hid.mk' x1
  clear h hg hW1 hL hB1 x1 C
  refine (callsIn_wide (n := 8)).1 ?_
  refine callsIn_of_wp_marks Tryz.func63 rfl trivial ?_ rfl
  refine wpIn_wide.2 ?_
  simp only [Tryz.ntmps63, List.size_toArray, List.length_cons, List.length_nil, Nat.reduceAdd, Nat.reduceSub, Array.replicate_succ, Array.replicate_zero, List.push_toArray, List.append_toArray, List.nil_append, List.cons_append]
  go_upto_region 2 with fail
  rw [HW1.out]
  go_wp2_with fail
  refine cK.out.mono ?_
  rintro e w5 ⟨gf, lb, rfl, hQ5⟩
  obtain ⟨hb5, X, hit, hXn⟩ := hQ5.out
  obtain ⟨gf', lb', kk, e9, hent, hXl, hsq⟩ := hit
  simp only [Value.func.injEq, Fn.func.injEq, true_and] at e9
  obtain ⟨rfl, rfl⟩ := e9
  have HSQ := Hid.mk' (hsq w5 (Nat.le_refl _) (fun _ _ => rfl))
  have hs5 := hb5.size
  have hXn1 : ∀ b, X b → w.heap.size + 1 ≤ b := fun b hb => by have := hXn b hb; omega
  have y1 : Boxed w5 w.heap.size 50 (.slice none 0 0) := (hb5.block _ (by omega)).trans HX1.out
  have HBw : Hid (Below w.heap.size w w5) := HB1.out.trans (hb5.mono HB1.out.size)
  clear hsq hb5 hQ5 cK
  go_wp2_with fail
  refine Rf.wp_range (L := L) (w0 := w5) rfl hent HSQ.out (Below.refl _ _) (fun _ => rfl) hXl
    (fun pre W' => ∃ v, Boxed W' w.heap.size 50 v ∧ W'.ownsRow (w5.heap.size + 2 + kk) 3 1 v pre.length (pre.map nun) ∧ Rf.But w.heap.size w5 W')
    (fun _ _ _ => False) ?rest (fun _ _ _ _ _ hs _ _ => hs)
    ⟨_, y1, World.ownsRow_nil _ _ _ _, Rf.But.refl _ _⟩ ?act ?assign ?body ?done (fun _ _ _ _ h _ => h.elim)
  case assign =>
    intro l' x W2 K hK
    gi_wp2
    exact hK
  case rest =>
    rintro pre A B row ⟨v, h2, h4, h5⟩ hg hr
    exact ⟨v, h2.kept hg (fun e => by have := (hr _ e.symm).1; omega), hr.row h4 (Nat.le_refl _) hg, h5.rest (by omega) hg hr⟩
  case body =>
    rintro l' pre x W2 hpre hsz ⟨v, h2, h4, h5⟩
    have hc2 := h2.cell
    have hl64 : pre.length + 1 ≤ 32 := by
      have h1 := hpre.length_le
      simp at h1; omega
    have HSp : Hid ((pre ++ [x]).map nun = pre.map nun ++ [nun x]) := by show _ = _; simp
    have HLn : Hid ((pre ++ [x]).length = pre.length + 1) := by show _ = _; simp
    obtain ⟨mm, hmm⟩ : ∃ mm, pre.length = mm := ⟨_, rfl⟩
    rw [hmm] at h4 hl64 HLn
    clear hmm
    gi_wp2_with (gi_at_builtin; refine wpListIn_append_own _ rfl _ _ 50 rfl (w5.heap.size + 2 + kk) 3 i0 (.int .i64 0) 1 8 Tryz.underlying50 ji hz0 hz1 hz2 rfl (by decide) _ _ _ rfl (h4.alloc _) ⟨W2.heap.size, 0, none⟩ 1 1 [nun x] rfl rfl (cell_one_new _ _ _) (by simp [Value.oneCell']) (by unfold maxLen; omega) (by omega) (by simp; omega) ?_; intro v' w1 hown' hgrow _; obtain ⟨g', cap', rfl⟩ := ownsRow_succ hown'; obtain ⟨hv1, hv2, hr2, hk2, hb2, ho2⟩ := Rf.collected (X := X) (lo := w5.heap.size) (n := w.heap.size) h2 (by decide) h4 (by omega) (fun h => by have := hXn1 _ h; omega) (fun b hb => hXl b hb) (by omega) hsz (Nat.le_refl _) hown' hgrow; have hbt := Rf.But.step (v' := .slice (some ⟨g', 0, none⟩) (mm + 1) cap') h5 h4 (by omega) hsz (by omega) hgrow; have hc1 := hv1.cell; have hf1 := hv1.frozen)
    exact ⟨hk2, _, hv2, by rw [HSp.out, HLn.out]; exact hr2, hbt⟩
  case done =>
    rintro W7 ⟨v1, h2, h4, h5⟩ hK7
    obtain ⟨m, hm⟩ : ∃ m, L.length = m := ⟨_, rfl⟩
    rw [hm] at h4 hfew
    have HM := Hid.mk' hm
    have cV : Hid (Calls Tryz.prog 83 #[v1] W7 fun e w' => e = .returned (.tuple #[]) ∧ Boxed w' w.heap.size 50 v1 ∧ Hid (w'.ownsRow (w5.heap.size + 2 + kk) 3 1 v1 m (L.reverse.map nun) ∧ w'.heap[w5.heap.size]? = some (.deferred (some [])) ∧ Below w.heap.size w w')) := by
      refine (rev_any _ m v1 L W7 h4 (by omega)).mono ?_
      rintro e w' ⟨rfl, ho, hgr⟩
      have hnb : ∀ b, b < w5.heap.size + 2 + kk → some b ≠ v1.ownBlock := fun b hb e => by have := (h4.lt b e.symm).1; omega
      exact ⟨rfl, h2.kept hgr (hnb _ (by omega)), ho, (hgr.block _ (Array.getElem?_eq_some_iff.1 hK7).1 (hnb _ (by omega))).trans hK7, (HBw.out.trans (h5.1.mono (by omega))).grown hgr (HBw.out.trans (h5.1.mono (by omega))).size (fun r e => by have := (h4.lt r e).1; omega)⟩
    obtain ⟨a1, c1, rfl, _⟩ := Nm.own_shape h4
    have hc1 := h2.cell
    have hsw : w.heap.size ≤ w5.heap.size := by omega
    have hsk : w.heap.size ≤ w5.heap.size + 2 + kk := by omega
    clear h2 h4 h5 hK7 y1 hs1 hs5 hm hfew
    go_wp2_with fail
    refine cV.out.mono ?_
    rintro e W8 ⟨rfl, hx8, hQ8⟩
    have hc8 := hx8.cell
    clear hx8 cV hc1
    go_wp2
    obtain ⟨ho8, hK8, hB8⟩ := hQ8.out
    refine ⟨by simp, .inl ⟨_, _, rfl, run_takeDeferred hK8, ?_⟩⟩
    refine ⟨_, results_tmp rfl _ _ _, _, rfl, ?_, ?_⟩
    · rw [HM.out]
      exact own_monoA (ownsRow_putObj ho8 (.deferred none) hK8 rfl) hsk
    · exact hB8.grown (grownBy_putObj' _ _ _) hB8.size (fun r e => by cases e; exact hsw)
end
end Tr
end Go.Proofs.YtcleeidfiaafcaaGreatDoor
