import Derived.Test.YthabnombfbehkaaSgM
import Derived.Test.YthabnombfbehkaaTill
/- The program's garbage: Unit. -/
namespace Go.Proofs.Ythabnombfbehkaa
set_option linter.ambiguousOpen false
open Go.RowKit
namespace Sp
open An Rg Ft Lv Sw Tl
set_option linter.unusedSimpArgs false
set_option linter.unusedVariables false

section
variable {Rep : World → Nat → (Nat → Prop) → Arn → Prop}

/-- What is left behind a step. -/
def Ms (Rep : World → Nat → (Nat → Prop) → Arn → Prop) (w : World) (p q : Nat) (F : Nat → Prop) (k : Nat) (wr0 : Nat) (S : List Slt) (fr : List Nat) (l : Int) (w' : World) : Prop := ∃ n, n ≤ k ∧ LeftT (RepS Rep) w w' p q F ⟨S, fr, wr0 + n⟩ l

theorem ms_below (H : KeepC Rep) {w w1 w2 : World} {p q : Nat} {F : Nat → Prop} {k wr0 : Nat} {S : List Slt} {fr : List Nat} {l : Int} (h : Ms Rep w p q F k wr0 S fr l w1) (hb : Below w1.heap.size w1 w2) : Ms Rep w p q F k wr0 S fr l w2 := by
  obtain ⟨n, hn, hl⟩ := h
  exact ⟨n, hn, leftS_after H hl hb⟩

theorem ms_cells {w w1 : World} {p q : Nat} {F : Nat → Prop} {k wr0 : Nat} {S : List Slt} {fr : List Nat} {l : Int} (h : Ms Rep w p q F k wr0 S fr l w1) : w1.cell? ⟨q, 0, none⟩ = some (ptr p) ∧ w1.cell? ⟨q, 1, none⟩ = some (nu l) := by
  obtain ⟨n, hn, G, g1, _⟩ := h
  exact ⟨g1.cells.1, g1.cells.2.1⟩

theorem ms_splice (C : GaC Rep) {w w1 : World} {p q : Nat} {F : Nat → Prop} {wr0 : Nat} {S : List Slt} {fr : List Nat} {l : Int} (h : RepS Rep w p q F ⟨S, fr, wr0⟩ l) (hb : Below w.heap.size w w1) (hg : An.Good ⟨S, fr, wr0⟩) (hw : wr0 ≤ 999999980) (t : Int) :
    Calls Try.prog 33 #[ptr p, nu l, nu t] w1 fun e w' => e = .returned (.tuple #[nu (splice S l t).ans, errP (splice S l t).no (splice S l t).pl]) ∧ Hid (Ms Rep w p q F 4 wr0 (splice S l t).sl fr l w') ∧ ∀ b, w.heap.size ≤ b → b < w1.heap.size → w'.heap[b]? = w1.heap[b]? := by
  have hFl : ∀ k, F k → k < w.heap.size := fun k hk => h.lt C.keep k hk
  obtain ⟨Fa, h1, h2, h3, rfl⟩ := h.below C.keep hb
  refine (C.splice w1 p Fa ⟨S, fr, wr0⟩ l t h1 hg (by show wr0 ≤ 999999990; omega)).mono ?_
  rintro e w' ⟨rfl, n', hn', _, hl⟩
  refine ⟨rfl, ⟨n', hn', leftS_below hb (leftS_of h2 h3 hl)⟩, fun b h4 h5 => ?_⟩
  obtain ⟨G, _, g2, _⟩ := hl
  exact g2.block b h5 (fun hf => by have := hFl b (.inr hf); omega)

theorem ms_drop (C : GaC Rep) {w w1 : World} {p q : Nat} {F : Nat → Prop} {wr0 : Nat} {S : List Slt} {fr : List Nat} {l : Int} (h : Ms Rep w p q F 4 wr0 S fr l w1) (hS : S.length = 32) (hnd : fr.Nodup) (hlt : ∀ i ∈ fr, i < 32) (hw : wr0 ≤ 999999980) (t : Int) :
    Calls Try.prog 26 #[ptr p, nu l, nu t] w1 fun e w' => e = .returned (.tuple #[nu (drop S l t).ans, errP (drop S l t).no (drop S l t).pl]) ∧ Ms Rep w p q F 7 wr0 (drop S l t).sl fr l w' := by
  obtain ⟨n, hn, G, g1, g2, g3⟩ := h
  obtain ⟨Fa, h1, h2, h3, rfl⟩ := g1
  refine (C.drop w1 p Fa ⟨S, fr, wr0 + n⟩ l t h1 ⟨hS, hnd, hlt⟩ (by show wr0 + n ≤ 999999990; omega)).mono ?_
  rintro e w' ⟨rfl, n', hn', _, hl⟩
  refine ⟨rfl, n + n', by omega, ?_⟩
  have := leftS_more g2 g3 (leftS_of h2 h3 hl)
  rwa [show (⟨(drop S l t).sl, fr, wr0 + n + n'⟩ : Arn) = ⟨(drop S l t).sl, fr, wr0 + (n + n')⟩ by rw [Nat.add_assoc]] at this

theorem ms_turn (H : KeepC Rep) {w w1 : World} {p q : Nat} {F : Nat → Prop} {k wr0 : Nat} {S : List Slt} {fr : List Nat} {l : Int} (h : Ms Rep w p q F k wr0 S fr l w1) (v : Int) :
    Calls Try.prog 32 #[ptr q, nu v, .nilIface] w1 fun e w' => e = .returned (.bool true) ∧ Ms Rep w p q F k wr0 S fr v w' := by
  obtain ⟨n, hn, G, g1, g2, g3⟩ := h
  refine (turn_s H w1 p q G _ l v g1).mono ?_
  rintro e w' ⟨rfl, hl⟩
  exact ⟨rfl, n, hn, leftS_more g2 g3 hl⟩

theorem ms_turn_no (H : KeepC Rep) {w w1 : World} {p q : Nat} {F : Nat → Prop} {k wr0 : Nat} {S : List Slt} {fr : List Nat} {l : Int} (h : Ms Rep w p q F k wr0 S fr l w1) (v : Int) (t : TypeId) (x : Value) :
    Calls Try.prog 32 #[ptr q, nu v, .iface t x] w1 fun e w' => e = .returned (.bool false) ∧ Ms Rep w p q F k wr0 S fr l w' := by
  refine (turn_no w1 q v t x).mono ?_
  rintro e w' ⟨rfl, hb⟩
  exact ⟨rfl, ms_below H h hb⟩

theorem ms_free (C : GaC Rep) {w w1 : World} {p q : Nat} {F : Nat → Prop} {wr0 : Nat} {S : List Slt} {fr : List Nat} {l : Int} (h : Ms Rep w p q F 7 wr0 S fr l w1) (hS : S.length = 32) (hnd : fr.Nodup) (hlt : ∀ i ∈ fr, i < 32) (hw : wr0 ≤ 999999980) (t : Int) (ht : there t) :
    Calls Try.prog 34 #[ptr p, nu t] w1 fun e w' => e = .returned (errE (if t.toNat ∈ fr then 9 else 0)) ∧ Ms Rep w p q F 8 wr0 (if t.toNat ∈ fr then S else S.set t.toNat bare) (if t.toNat ∈ fr then fr else t.toNat :: fr) l w' := by
  obtain ⟨n, hn, G, g1, g2, g3⟩ := h
  obtain ⟨Fa, h1, h2, h3, rfl⟩ := g1
  have := C.free w1 p Fa ⟨S, fr, wr0 + n⟩ t h1 ⟨hS, hnd, hlt⟩ (by show wr0 + n ≤ 1000000000; omega) (by omega)
  unfold Arn.free at this
  rw [if_pos ht] at this
  by_cases hf : t.toNat ∈ fr
  · rw [if_pos hf] at this
    simp only [if_pos hf]
    refine this.mono ?_
    rintro e w' ⟨rfl, hl⟩
    exact ⟨rfl, n, by omega, leftS_more g2 g3 (leftS_of h2 h3 hl)⟩
  · rw [if_neg hf] at this
    simp only [if_neg hf]
    refine this.mono ?_
    rintro e w' ⟨rfl, hl⟩
    exact ⟨rfl, n + 1, by omega, leftS_more g2 g3 (leftS_of h2 h3 hl)⟩

set_option maxRecDepth 100000 in
set_option maxHeartbeats 4000000 in
theorem unit_s (C : GaC Rep) (w : World) (p q : Nat) (F : Nat → Prop) (A : Arn) (l : Int) (h : RepS Rep w p q F A l) (hg : An.Good A) (hok : okL l) (hwr : A.wr ≤ 999999980) :
    Calls Try.prog 12 #[ptr q] w fun e w' => e = .returned (.tuple #[nun (unitG A.sl A.fr l).f, .bool (unitG A.sl A.fr l).ok]) ∧ ∃ n, n ≤ 8 ∧ LeftT (RepS Rep) w w' p q F ⟨(unitG A.sl A.fr l).sl, (unitG A.sl A.fr l).fr, A.wr + n⟩ (unitG A.sl A.fr l).last := by
  have cf := Hid.mk' (first_s C w p q F A l h hg)
  have HM0 : Hid (∀ wx, Below w.heap.size w wx → Ms Rep w p q F 0 A.wr A.sl A.fr l wx) := fun wx hb => ⟨0, by omega, leftS_self C.keep h hb⟩
  have HC := Hid.mk' C
  have hnd := hg.nd
  have hlt := hg.lt
  have hS := hg.len
  obtain ⟨S, fr, wr0⟩ := A
  dsimp only at *
  obtain ⟨u, hu⟩ : ∃ u, fstN ⟨S, fr, wr0⟩ l = u := ⟨_, rfl⟩
  obtain ⟨x, hx⟩ : ∃ x, fstS ⟨S, fr, wr0⟩ l = x := ⟨_, rfl⟩
  rw [hu, hx] at cf
  by_cases hb : l = -1 ∨ ¬ there (nx S l)
  · have eU : unitG S fr l = ⟨0, false, S, fr, l⟩ := if_pos hb
    have eB : fstB ⟨S, fr, wr0⟩ l = false := by
      unfold fstB
      refine decide_eq_false (fun z => ?_)
      rcases hb with rfl | hb
      · exact absurd z.1.1 (by omega)
      · have h2 := z.2
        rw [at_sl z.1] at h2
        exact hb h2
    rw [eU]
    rw [eB] at cf
    have HEND : Hid (∀ wx, Below w.heap.size w wx → ∃ n, n ≤ 8 ∧ LeftT (RepS Rep) w wx p q F ⟨S, fr, wr0 + n⟩ l) := fun wx hb => by
      obtain ⟨n, hn, hl⟩ := HM0.out wx hb
      exact ⟨n, by omega, hl⟩
    clear eU eB hb hok hwr hu hx C HC HM0 hnd hlt hS h hg
    go_enter Try.func12, Try.ntmps12
    go_wp2_with fail
    refine cf.out.mono ?_
    rintro e w1 ⟨rfl, hb1⟩
    have HB1 := Hid.mk' hb1
    have HZ := Hid.mk' (lone_zero w1)
    have HBZ : Hid (Below w.heap.size w (w1.alloc (.cells sltZ 49))) := HB1.out.alloc HB1.out.size _
    clear hb1 cf
    go_wp2_with (first | (refine wpList_store_lone rfl _ _ rfl w1.heap.size rfl x rfl slt0 HZ.out ?_; intro w2 hl2 hg2 hs2; have HB2 : Hid (Below w.heap.size w w2) := (HBZ.out.grown hg2 HBZ.out.size (fun r e => by cases e; exact HB1.out.size)); clear hl2 hg2 hs2) | fail)
    go_ret2
    exact ⟨rfl, HEND.out w2 HB2.out⟩
  · have htl : there l := hok.resolve_left (fun z => hb (.inl z))
    have htn : there (nx S l) := Decidable.not_not.1 (fun z => hb (.inr z))
    have eB : fstB ⟨S, fr, wr0⟩ l = true := by
      unfold fstB
      refine decide_eq_true ⟨htl, ?_⟩
      rw [at_sl htl]
      exact htn
    rw [eB] at cf
    have eN : u = nx S l := by
      rw [← hu]
      unfold fstN
      rw [if_pos htl, at_sl htl]
      rfl
    have eX : slG S u = x := by
      rw [← hx]
      unfold fstS
      rw [if_pos htl, at_sl htl]
      show _ = An.Arn.at ⟨S, fr, wr0⟩ (nx S l)
      rw [at_sl htn, eN]
    have htu : there u := by rw [eN]; exact htn
    have eU : unitG S fr l = unit1 S fr l u := by
      unfold unitG
      rw [if_neg hb, eN]
    rw [eU]
    unfold unit1
    rw [eX]
    obtain ⟨P, hP⟩ : ∃ P, splice S l x.kids = P := ⟨_, rfl⟩
    have hPl : P.sl.length = 32 := by rw [← hP, splice_len]; exact hS
    have hPp := splice_plQ S l x.kids
    rw [hP] at hPp ⊢
    have cP : Hid (∀ wx, Below w.heap.size w wx → Calls Try.prog 33 #[ptr p, nu l, nu x.kids] wx fun e w' => e = .returned (.tuple #[nu P.ans, errP P.no P.pl]) ∧ Hid (Ms Rep w p q F 4 wr0 P.sl fr l w') ∧ ∀ b, w.heap.size ≤ b → b < wx.heap.size → w'.heap[b]? = wx.heap[b]?) := fun wx hb => by
      have := ms_splice C h hb hg hwr x.kids
      rw [hP] at this
      exact this
    clear hb hok htl htn eB eN eU eX hu hx hP C h hg
    by_cases hn : P.no = 0
    · rw [if_neg (by rw [hn]; simp)]
      rw [hn, errP_none _ (hPp hn)] at cP
      have cT : Hid (∀ wx, Hid (Ms Rep w p q F 4 wr0 P.sl fr l wx) → Calls Try.prog 32 #[ptr q, nu P.ans, .nilIface] wx fun e w' => e = .returned (.bool true) ∧ Hid (Ms Rep w p q F 4 wr0 P.sl fr P.ans w')) := fun wx h => ms_turn HC.out.keep h.out P.ans
      unfold unit2
      obtain ⟨D, hD⟩ : ∃ D, drop P.sl P.ans u = D := ⟨_, rfl⟩
      have hDl : D.sl.length = 32 := by rw [← hD, drop_len]; exact hPl
      have hDp := drop_plQ P.sl P.ans u
      rw [hD] at hDp ⊢
      have cD : Hid (∀ wx, Hid (Ms Rep w p q F 4 wr0 P.sl fr P.ans wx) → Calls Try.prog 26 #[ptr p, nu P.ans, nu u] wx fun e w' => e = .returned (.tuple #[nu D.ans, errP D.no D.pl]) ∧ Hid (Ms Rep w p q F 7 wr0 D.sl fr P.ans w')) := fun wx h => by
        have := ms_drop HC.out h.out hPl hnd hlt hwr u
        rw [hD] at this
        exact this
      have cQ2 : Hid (∀ wx, Hid (Ms Rep w p q F 4 wr0 P.sl fr P.ans wx) → wx.cell? ⟨q, 0, none⟩ = some (ptr p) ∧ wx.cell? ⟨q, 1, none⟩ = some (nu P.ans)) := fun wx h => ms_cells h.out
      have cW2 : Hid (∀ wx, Hid (Ms Rep w p q F 4 wr0 P.sl fr P.ans wx) → Hid (Ms Rep w p q F 4 wr0 P.sl fr P.ans wx.drew)) := fun wx h => ms_below HC.out.keep h.out (Below.refl _ _).drew
      clear hPp hn hD
      by_cases hdn : D.no = 0
      · rw [if_neg (by rw [hdn]; simp)]
        rw [hdn, errP_none _ (hDp hdn)] at cD
        have cT2 : Hid (∀ wx, Hid (Ms Rep w p q F 7 wr0 D.sl fr P.ans wx) → Calls Try.prog 32 #[ptr q, nu D.ans, .nilIface] wx fun e w' => e = .returned (.bool true) ∧ Hid (Ms Rep w p q F 7 wr0 D.sl fr D.ans w')) := fun wx h => ms_turn HC.out.keep h.out D.ans
        have cF : Hid (∀ wx, Hid (Ms Rep w p q F 7 wr0 D.sl fr D.ans wx) → Calls Try.prog 34 #[ptr p, nu u] wx fun e w' => e = .returned (errE (if u.toNat ∈ fr then 9 else 0)) ∧ Hid (Ms Rep w p q F 8 wr0 (if u.toNat ∈ fr then D.sl else D.sl.set u.toNat bare) (if u.toNat ∈ fr then fr else u.toNat :: fr) D.ans w')) := fun wx h => ms_free HC.out h.out hDl hnd hlt hwr u htu
        have cQ3 : Hid (∀ wx, Hid (Ms Rep w p q F 7 wr0 D.sl fr D.ans wx) → wx.cell? ⟨q, 0, none⟩ = some (ptr p)) := fun wx h => (ms_cells h.out).1
        clear hDp hdn
        by_cases hf : u.toNat ∈ fr
        · rw [if_pos hf]
          simp only [if_pos hf] at cF
          rw [errE_some 9 (by omega)] at cF
          clear hf htu hS hPl hDl hnd hlt
          go_enter Try.func12, Try.ntmps12
          go_wp2_with fail
          refine cf.out.mono ?_
          rintro e w1 ⟨rfl, hb1⟩
          have HB1 := Hid.mk' hb1
          have HZ := Hid.mk' (lone_zero w1)
          have HBZ : Hid (Below w.heap.size w (w1.alloc (.cells sltZ 49))) := HB1.out.alloc HB1.out.size _
          clear hb1 cf
          go_upto_region 4 with (first | (refine wpList_store_lone rfl _ _ rfl w1.heap.size rfl x rfl slt0 HZ.out ?_; intro w2 hl2 hg2 hs2; have HL2 := Hid.mk' hl2; have HB2 : Hid (Below w.heap.size w w2) := (HBZ.out.grown hg2 HBZ.out.size (fun r e => by cases e; exact HB1.out.size)); clear hl2 hg2 hs2) | fail)
          obtain ⟨sb, hsb⟩ : ∃ sb, w1.heap.size = sb := ⟨_, rfl⟩
          have hles : w.heap.size ≤ sb := by have := HB1.out.size; omega
          rw [hsb] at HL2
          simp only [hsb]
          have hls2 : sb < w2.heap.size := (Array.getElem?_eq_some_iff.1 HL2.out).1
          have hm2 := ms_cells (HM0.out w2.drew HB2.out.drew)
          have hS2 : w2.drew.cell? ⟨q, 0, none⟩ = some (ptr p) ∧ w2.drew.cell? ⟨q, 1, none⟩ = some (nu l) ∧ w2.drew.cell? ⟨sb, 2, none⟩ = some (nu x.kids) := ⟨hm2.1, hm2.2, (Lone.cells (w := w2.drew) HL2.out).2.2.1⟩
          have c5 := Hid.mk' (cP.out w2.drew HB2.out.drew)
          have HC5 : Hid (∀ w', Hid (Ms Rep w p q F 4 wr0 P.sl fr l w') → (∀ b, w.heap.size ≤ b → b < w2.drew.heap.size → w'.heap[b]? = w2.drew.heap[b]?) → w'.cell? ⟨q, 0, none⟩ = some (ptr p) ∧ w'.cell? ⟨q, 1, none⟩ = some (nu l) ∧ w'.cell? ⟨sb, 2, none⟩ = some (nu x.kids)) := fun w' h1 h2 => ⟨(ms_cells h1.out).1, (ms_cells h1.out).2, (Lone.cells (w := w') ((h2 sb hles hls2).trans HL2.out)).2.2.1⟩
          clear HZ HBZ hsb HB1 cP HM0 hm2
          refine wp_region_till 14 (fun w' => w'.cell? ⟨q, 0, none⟩ = some (ptr p) ∧ w'.cell? ⟨q, 1, none⟩ = some (nu l) ∧ w'.cell? ⟨sb, 2, none⟩ = some (nu x.kids)) (by kernel_rfl) ?_
          refine AnyT.takeY (i := 0) (v := ?_) rfl (by kernel_rfl) (by kernel_rfl) (by kernel_rfl) (by rfl) (fun _ _ _ h => h) (Or.inl ⟨by rfl, ?_⟩) (fun _ => hS2) ?_
          rotate_left
          · (intro w' hS'; go_simp <;> with_reducible rfl)
          simp only [Act.put, List.getElem_toArray, List.getElem_cons_succ, List.getElem_cons_zero, List.setIfInBounds_toArray, List.set]
          refine AnyT.takeY (i := 1) (v := ?_) rfl (by kernel_rfl) (by kernel_rfl) (by kernel_rfl) (by rfl) (fun _ _ _ h => h) (Or.inl ⟨by rfl, ?_⟩) (fun _ => hS2) ?_
          rotate_left
          · (intro w' hS'; go_simp <;> with_reducible rfl)
          simp only [Act.put, List.getElem_toArray, List.getElem_cons_succ, List.getElem_cons_zero, List.setIfInBounds_toArray, List.set]
          refine AnyT.takeY (i := 2) (v := ?_) rfl (by kernel_rfl) (by kernel_rfl) (by kernel_rfl) (by rfl) (fun _ _ _ h => h) (Or.inl ⟨by rfl, ?_⟩) (fun _ => hS2) ?_
          rotate_left
          · (intro w' hS'; go_simp <;> with_reducible rfl)
          simp only [Act.put, List.getElem_toArray, List.getElem_cons_succ, List.getElem_cons_zero, List.setIfInBounds_toArray, List.set]
          refine AnyT.takeY (i := 3) (v := ?_) rfl (by kernel_rfl) (by kernel_rfl) (by kernel_rfl) (by rfl) (fun _ _ _ h => h) (Or.inl ⟨by rfl, ?_⟩) (fun _ => hS2) ?_
          rotate_left
          · (intro w' hS'; go_simp <;> with_reducible rfl)
          simp only [Act.put, List.getElem_toArray, List.getElem_cons_succ, List.getElem_cons_zero, List.setIfInBounds_toArray, List.set]
          refine AnyT.take (i := 4) (v := ?_) [11, 12, 14] rfl (by kernel_rfl) (by kernel_rfl) (by kernel_rfl) (by kernel_rfl) (by kernel_rfl) (by kernel_rfl) (fun _ _ _ h => h) (Or.inl ⟨by rfl, ?_⟩) hS2 ?_
          rotate_left
          · (intro w' hS'; have hq0 := hS'.1; have hq1 := hS'.2.1; have hq2 := hS'.2.2; go_simp <;> with_reducible rfl)
          simp only [Act.put, List.getElem_toArray, List.getElem_cons_succ, List.getElem_cons_zero, List.setIfInBounds_toArray, List.set]
          refine AnyT.takeY (i := 5) (v := ?_) rfl (by kernel_rfl) (by kernel_rfl) (by kernel_rfl) (by rfl) (fun _ _ _ h => h) (Or.inl ⟨by rfl, ?_⟩) (fun _ => hS2) ?_
          rotate_left
          · (intro w' hS'; go_simp <;> with_reducible rfl)
          simp only [Act.put, List.getElem_toArray, List.getElem_cons_succ, List.getElem_cons_zero, List.setIfInBounds_toArray, List.set]
          refine AnyT.takeY (i := 6) (v := ?_) rfl (by kernel_rfl) (by kernel_rfl) (by kernel_rfl) (by rfl) (fun _ _ _ h => h) (Or.inl ⟨by rfl, ?_⟩) (fun _ => hS2) ?_
          rotate_left
          · (intro w' hS'; go_simp <;> with_reducible rfl)
          simp only [Act.put, List.getElem_toArray, List.getElem_cons_succ, List.getElem_cons_zero, List.setIfInBounds_toArray, List.set]
          refine AnyT.takeY (i := 7) (v := ?_) rfl (by kernel_rfl) (by kernel_rfl) (by kernel_rfl) (by rfl) (fun _ _ _ h => h) (Or.inl ⟨by rfl, ?_⟩) (fun _ => hS2) ?_
          rotate_left
          · (intro w' hS'; go_simp <;> with_reducible rfl)
          simp only [Act.put, List.getElem_toArray, List.getElem_cons_succ, List.getElem_cons_zero, List.setIfInBounds_toArray, List.set]
          refine AnyT.take (i := 8) (v := ?_) [11, 12, 14] rfl (by kernel_rfl) (by kernel_rfl) (by kernel_rfl) (by kernel_rfl) (by kernel_rfl) (by kernel_rfl) (fun _ _ _ h => h) (Or.inl ⟨by rfl, ?_⟩) hS2 ?_
          rotate_left
          · (intro w' hS'; have hq0 := hS'.1; have hq1 := hS'.2.1; have hq2 := hS'.2.2; go_simp <;> with_reducible rfl)
          simp only [Act.put, List.getElem_toArray, List.getElem_cons_succ, List.getElem_cons_zero, List.setIfInBounds_toArray, List.set]
          refine AnyT.takeY (i := 9) (v := ?_) rfl (by kernel_rfl) (by kernel_rfl) (by kernel_rfl) (by rfl) (fun _ _ _ h => h) (Or.inl ⟨by rfl, ?_⟩) (fun _ => hS2) ?_
          rotate_left
          · (intro w' hS'; go_simp <;> with_reducible rfl)
          simp only [Act.put, List.getElem_toArray, List.getElem_cons_succ, List.getElem_cons_zero, List.setIfInBounds_toArray, List.set]
          refine AnyT.take (i := 10) (v := ?_) [11, 12, 14] rfl (by kernel_rfl) (by kernel_rfl) (by kernel_rfl) (by kernel_rfl) (by kernel_rfl) (by kernel_rfl) (fun _ _ _ h => h) (Or.inl ⟨by rfl, ?_⟩) hS2 ?_
          rotate_left
          · (intro w' hS'; have hq0 := hS'.1; have hq1 := hS'.2.1; have hq2 := hS'.2.2; go_simp <;> with_reducible rfl)
          simp only [Act.put, List.getElem_toArray, List.getElem_cons_succ, List.getElem_cons_zero, List.setIfInBounds_toArray, List.set]
          refine AnyT.next (i := 11) (by kernel_rfl) rfl (fun K hK => ?_)
          go_simp
          refine (c5.out).mono ?_
          rintro e w5 ⟨rfl, HQ5, hk5⟩
          go_wp2_with fail
          refine hK.out _ _ (fun _ => HC5.out w5 HQ5 hk5) ?_
          clear hK K
          have hS5 := HC5.out w5 HQ5 hk5
          refine AnyT.takeY (i := 12) (v := ?_) rfl (by kernel_rfl) (by kernel_rfl) (by kernel_rfl) (by rfl) (fun _ _ _ h => h) (Or.inl ⟨by rfl, ?_⟩) (fun _ => hS5) ?_
          rotate_left
          · (intro w' hS'; go_simp <;> with_reducible rfl)
          simp only [Act.put, List.getElem_toArray, List.getElem_cons_succ, List.getElem_cons_zero, List.setIfInBounds_toArray, List.set]
          refine AnyT.takeY (i := 13) (v := ?_) rfl (by kernel_rfl) (by kernel_rfl) (by kernel_rfl) (by rfl) (fun _ _ _ h => h) (Or.inl ⟨by rfl, ?_⟩) (fun _ => hS5) ?_
          rotate_left
          · (intro w' hS'; go_simp <;> with_reducible rfl)
          simp only [Act.put, List.getElem_toArray, List.getElem_cons_succ, List.getElem_cons_zero, List.setIfInBounds_toArray, List.set]
          refine AnyT.next (i := 14) (by kernel_rfl) rfl (fun K hK => ?_)
          go_simp
          refine (cT.out w5 HQ5).mono ?_
          rintro e w6 ⟨rfl, HQ6⟩
          go_wp2_with fail
          refine hK.out _ _ (fun h => absurd h (by decide)) ?_
          clear hK K
          refine AnyT.takeY (i := 15) (v := ?_) rfl (by kernel_rfl) (by kernel_rfl) (by kernel_rfl) (by rfl) (fun _ _ _ h => h) (Or.inl ⟨by rfl, ?_⟩) (fun h => absurd h (by decide)) ?_
          rotate_left
          · (intro w' hS'; go_simp <;> with_reducible rfl)
          simp only [Act.put, List.getElem_toArray, List.getElem_cons_succ, List.getElem_cons_zero, List.setIfInBounds_toArray, List.set]
          refine AnyT.done (by kernel_rfl) ?_ _
          clear hS2 hS5 hk5 HC5 c5 cT HL2 HQ5
          have hS6 : w6.drew.cell? ⟨q, 0, none⟩ = some (ptr p) ∧ w6.drew.cell? ⟨q, 1, none⟩ = some (nu P.ans) := cQ2.out _ (cW2.out _ HQ6)
          have c6 := Hid.mk' (cD.out _ (cW2.out _ HQ6))
          go_upto_region 6 with fail
          refine wp_region_till 13 (fun w' => w'.cell? ⟨q, 0, none⟩ = some (ptr p) ∧ w'.cell? ⟨q, 1, none⟩ = some (nu P.ans)) (by kernel_rfl) ?_
          refine AnyT.takeY (i := 0) (v := ?_) rfl (by kernel_rfl) (by kernel_rfl) (by kernel_rfl) (by rfl) (fun _ _ _ h => h) (Or.inl ⟨by rfl, ?_⟩) (fun _ => hS6) ?_
          rotate_left
          · (intro w' hS'; go_simp <;> with_reducible rfl)
          simp only [Act.put, List.getElem_toArray, List.getElem_cons_succ, List.getElem_cons_zero, List.setIfInBounds_toArray, List.set]
          refine AnyT.takeY (i := 1) (v := ?_) rfl (by kernel_rfl) (by kernel_rfl) (by kernel_rfl) (by rfl) (fun _ _ _ h => h) (Or.inl ⟨by rfl, ?_⟩) (fun _ => hS6) ?_
          rotate_left
          · (intro w' hS'; go_simp <;> with_reducible rfl)
          simp only [Act.put, List.getElem_toArray, List.getElem_cons_succ, List.getElem_cons_zero, List.setIfInBounds_toArray, List.set]
          refine AnyT.takeY (i := 2) (v := ?_) rfl (by kernel_rfl) (by kernel_rfl) (by kernel_rfl) (by rfl) (fun _ _ _ h => h) (Or.inl ⟨by rfl, ?_⟩) (fun _ => hS6) ?_
          rotate_left
          · (intro w' hS'; go_simp <;> with_reducible rfl)
          simp only [Act.put, List.getElem_toArray, List.getElem_cons_succ, List.getElem_cons_zero, List.setIfInBounds_toArray, List.set]
          refine AnyT.takeY (i := 3) (v := ?_) rfl (by kernel_rfl) (by kernel_rfl) (by kernel_rfl) (by rfl) (fun _ _ _ h => h) (Or.inl ⟨by rfl, ?_⟩) (fun _ => hS6) ?_
          rotate_left
          · (intro w' hS'; go_simp <;> with_reducible rfl)
          simp only [Act.put, List.getElem_toArray, List.getElem_cons_succ, List.getElem_cons_zero, List.setIfInBounds_toArray, List.set]
          refine AnyT.take (i := 4) (v := ?_) [10, 11, 13] rfl (by kernel_rfl) (by kernel_rfl) (by kernel_rfl) (by kernel_rfl) (by kernel_rfl) (by kernel_rfl) (fun _ _ _ h => h) (Or.inl ⟨by rfl, ?_⟩) hS6 ?_
          rotate_left
          · (intro w' hS'; have hq0 := hS'.1; have hq1 := hS'.2; go_simp <;> with_reducible rfl)
          simp only [Act.put, List.getElem_toArray, List.getElem_cons_succ, List.getElem_cons_zero, List.setIfInBounds_toArray, List.set]
          refine AnyT.takeY (i := 5) (v := ?_) rfl (by kernel_rfl) (by kernel_rfl) (by kernel_rfl) (by rfl) (fun _ _ _ h => h) (Or.inl ⟨by rfl, ?_⟩) (fun _ => hS6) ?_
          rotate_left
          · (intro w' hS'; go_simp <;> with_reducible rfl)
          simp only [Act.put, List.getElem_toArray, List.getElem_cons_succ, List.getElem_cons_zero, List.setIfInBounds_toArray, List.set]
          refine AnyT.takeY (i := 6) (v := ?_) rfl (by kernel_rfl) (by kernel_rfl) (by kernel_rfl) (by rfl) (fun _ _ _ h => h) (Or.inl ⟨by rfl, ?_⟩) (fun _ => hS6) ?_
          rotate_left
          · (intro w' hS'; go_simp <;> with_reducible rfl)
          simp only [Act.put, List.getElem_toArray, List.getElem_cons_succ, List.getElem_cons_zero, List.setIfInBounds_toArray, List.set]
          refine AnyT.takeY (i := 7) (v := ?_) rfl (by kernel_rfl) (by kernel_rfl) (by kernel_rfl) (by rfl) (fun _ _ _ h => h) (Or.inl ⟨by rfl, ?_⟩) (fun _ => hS6) ?_
          rotate_left
          · (intro w' hS'; go_simp <;> with_reducible rfl)
          simp only [Act.put, List.getElem_toArray, List.getElem_cons_succ, List.getElem_cons_zero, List.setIfInBounds_toArray, List.set]
          refine AnyT.take (i := 8) (v := ?_) [10, 11, 13] rfl (by kernel_rfl) (by kernel_rfl) (by kernel_rfl) (by kernel_rfl) (by kernel_rfl) (by kernel_rfl) (fun _ _ _ h => h) (Or.inl ⟨by rfl, ?_⟩) hS6 ?_
          rotate_left
          · (intro w' hS'; have hq0 := hS'.1; have hq1 := hS'.2; go_simp <;> with_reducible rfl)
          simp only [Act.put, List.getElem_toArray, List.getElem_cons_succ, List.getElem_cons_zero, List.setIfInBounds_toArray, List.set]
          refine AnyT.takeY (i := 9) (v := ?_) rfl (by kernel_rfl) (by kernel_rfl) (by kernel_rfl) (by rfl) (fun _ _ _ h => h) (Or.inl ⟨by rfl, ?_⟩) (fun _ => hS6) ?_
          rotate_left
          · (intro w' hS'; go_simp <;> with_reducible rfl)
          simp only [Act.put, List.getElem_toArray, List.getElem_cons_succ, List.getElem_cons_zero, List.setIfInBounds_toArray, List.set]
          refine AnyT.next (i := 10) (by kernel_rfl) rfl (fun K hK => ?_)
          go_simp
          refine (c6.out).mono ?_
          rintro e w7 ⟨rfl, HQ7⟩
          go_wp2_with fail
          refine hK.out _ _ (fun _ => ms_cells HQ7.out) ?_
          clear hK K
          have hS7 := ms_cells HQ7.out
          refine AnyT.takeY (i := 11) (v := ?_) rfl (by kernel_rfl) (by kernel_rfl) (by kernel_rfl) (by rfl) (fun _ _ _ h => h) (Or.inl ⟨by rfl, ?_⟩) (fun _ => hS7) ?_
          rotate_left
          · (intro w' hS'; go_simp <;> with_reducible rfl)
          simp only [Act.put, List.getElem_toArray, List.getElem_cons_succ, List.getElem_cons_zero, List.setIfInBounds_toArray, List.set]
          refine AnyT.takeY (i := 12) (v := ?_) rfl (by kernel_rfl) (by kernel_rfl) (by kernel_rfl) (by rfl) (fun _ _ _ h => h) (Or.inl ⟨by rfl, ?_⟩) (fun _ => hS7) ?_
          rotate_left
          · (intro w' hS'; go_simp <;> with_reducible rfl)
          simp only [Act.put, List.getElem_toArray, List.getElem_cons_succ, List.getElem_cons_zero, List.setIfInBounds_toArray, List.set]
          refine AnyT.next (i := 13) (by kernel_rfl) rfl (fun K hK => ?_)
          go_simp
          refine (cT2.out w7 HQ7).mono ?_
          rintro e w8 ⟨rfl, HQ8⟩
          go_wp2_with fail
          refine hK.out _ _ (fun h => absurd h (by decide)) ?_
          clear hK K
          refine AnyT.takeY (i := 14) (v := ?_) rfl (by kernel_rfl) (by kernel_rfl) (by kernel_rfl) (by rfl) (fun _ _ _ h => h) (Or.inl ⟨by rfl, ?_⟩) (fun h => absurd h (by decide)) ?_
          rotate_left
          · (intro w' hS'; go_simp <;> with_reducible rfl)
          simp only [Act.put, List.getElem_toArray, List.getElem_cons_succ, List.getElem_cons_zero, List.setIfInBounds_toArray, List.set]
          refine AnyT.done (by kernel_rfl) ?_ _
          clear hS6 hS7 c6 cT2 HQ7 HQ6
          have z8 := cQ3.out _ HQ8
          have c8 := Hid.mk' (cF.out _ HQ8)
          clear cF cQ3
          go_wp2_with fail
          refine c8.out.mono ?_
          rintro e w9 ⟨rfl, HQ9⟩
          go_wp2
          go_ret2
          obtain ⟨n, hn, hl⟩ := HQ9.out
          exact ⟨rfl, n, by omega, hl⟩
        · rw [if_neg hf]
          simp only [if_neg hf] at cF
          rw [show errE 0 = .nilIface from rfl] at cF
          have HUT : Hid (((u.toNat : Nat) : Int) = u) := by show _ = _; omega
          clear hf htu hS hPl hDl hnd hlt
          go_enter Try.func12, Try.ntmps12
          go_wp2_with fail
          refine cf.out.mono ?_
          rintro e w1 ⟨rfl, hb1⟩
          have HB1 := Hid.mk' hb1
          have HZ := Hid.mk' (lone_zero w1)
          have HBZ : Hid (Below w.heap.size w (w1.alloc (.cells sltZ 49))) := HB1.out.alloc HB1.out.size _
          clear hb1 cf
          go_upto_region 4 with (first | (refine wpList_store_lone rfl _ _ rfl w1.heap.size rfl x rfl slt0 HZ.out ?_; intro w2 hl2 hg2 hs2; have HL2 := Hid.mk' hl2; have HB2 : Hid (Below w.heap.size w w2) := (HBZ.out.grown hg2 HBZ.out.size (fun r e => by cases e; exact HB1.out.size)); clear hl2 hg2 hs2) | fail)
          obtain ⟨sb, hsb⟩ : ∃ sb, w1.heap.size = sb := ⟨_, rfl⟩
          have hles : w.heap.size ≤ sb := by have := HB1.out.size; omega
          rw [hsb] at HL2
          simp only [hsb]
          have hls2 : sb < w2.heap.size := (Array.getElem?_eq_some_iff.1 HL2.out).1
          have hm2 := ms_cells (HM0.out w2.drew HB2.out.drew)
          have hS2 : w2.drew.cell? ⟨q, 0, none⟩ = some (ptr p) ∧ w2.drew.cell? ⟨q, 1, none⟩ = some (nu l) ∧ w2.drew.cell? ⟨sb, 2, none⟩ = some (nu x.kids) := ⟨hm2.1, hm2.2, (Lone.cells (w := w2.drew) HL2.out).2.2.1⟩
          have c5 := Hid.mk' (cP.out w2.drew HB2.out.drew)
          have HC5 : Hid (∀ w', Hid (Ms Rep w p q F 4 wr0 P.sl fr l w') → (∀ b, w.heap.size ≤ b → b < w2.drew.heap.size → w'.heap[b]? = w2.drew.heap[b]?) → w'.cell? ⟨q, 0, none⟩ = some (ptr p) ∧ w'.cell? ⟨q, 1, none⟩ = some (nu l) ∧ w'.cell? ⟨sb, 2, none⟩ = some (nu x.kids)) := fun w' h1 h2 => ⟨(ms_cells h1.out).1, (ms_cells h1.out).2, (Lone.cells (w := w') ((h2 sb hles hls2).trans HL2.out)).2.2.1⟩
          clear HZ HBZ hsb HB1 cP HM0 hm2
          refine wp_region_till 14 (fun w' => w'.cell? ⟨q, 0, none⟩ = some (ptr p) ∧ w'.cell? ⟨q, 1, none⟩ = some (nu l) ∧ w'.cell? ⟨sb, 2, none⟩ = some (nu x.kids)) (by kernel_rfl) ?_
          refine AnyT.takeY (i := 0) (v := ?_) rfl (by kernel_rfl) (by kernel_rfl) (by kernel_rfl) (by rfl) (fun _ _ _ h => h) (Or.inl ⟨by rfl, ?_⟩) (fun _ => hS2) ?_
          rotate_left
          · (intro w' hS'; go_simp <;> with_reducible rfl)
          simp only [Act.put, List.getElem_toArray, List.getElem_cons_succ, List.getElem_cons_zero, List.setIfInBounds_toArray, List.set]
          refine AnyT.takeY (i := 1) (v := ?_) rfl (by kernel_rfl) (by kernel_rfl) (by kernel_rfl) (by rfl) (fun _ _ _ h => h) (Or.inl ⟨by rfl, ?_⟩) (fun _ => hS2) ?_
          rotate_left
          · (intro w' hS'; go_simp <;> with_reducible rfl)
          simp only [Act.put, List.getElem_toArray, List.getElem_cons_succ, List.getElem_cons_zero, List.setIfInBounds_toArray, List.set]
          refine AnyT.takeY (i := 2) (v := ?_) rfl (by kernel_rfl) (by kernel_rfl) (by kernel_rfl) (by rfl) (fun _ _ _ h => h) (Or.inl ⟨by rfl, ?_⟩) (fun _ => hS2) ?_
          rotate_left
          · (intro w' hS'; go_simp <;> with_reducible rfl)
          simp only [Act.put, List.getElem_toArray, List.getElem_cons_succ, List.getElem_cons_zero, List.setIfInBounds_toArray, List.set]
          refine AnyT.takeY (i := 3) (v := ?_) rfl (by kernel_rfl) (by kernel_rfl) (by kernel_rfl) (by rfl) (fun _ _ _ h => h) (Or.inl ⟨by rfl, ?_⟩) (fun _ => hS2) ?_
          rotate_left
          · (intro w' hS'; go_simp <;> with_reducible rfl)
          simp only [Act.put, List.getElem_toArray, List.getElem_cons_succ, List.getElem_cons_zero, List.setIfInBounds_toArray, List.set]
          refine AnyT.take (i := 4) (v := ?_) [11, 12, 14] rfl (by kernel_rfl) (by kernel_rfl) (by kernel_rfl) (by kernel_rfl) (by kernel_rfl) (by kernel_rfl) (fun _ _ _ h => h) (Or.inl ⟨by rfl, ?_⟩) hS2 ?_
          rotate_left
          · (intro w' hS'; have hq0 := hS'.1; have hq1 := hS'.2.1; have hq2 := hS'.2.2; go_simp <;> with_reducible rfl)
          simp only [Act.put, List.getElem_toArray, List.getElem_cons_succ, List.getElem_cons_zero, List.setIfInBounds_toArray, List.set]
          refine AnyT.takeY (i := 5) (v := ?_) rfl (by kernel_rfl) (by kernel_rfl) (by kernel_rfl) (by rfl) (fun _ _ _ h => h) (Or.inl ⟨by rfl, ?_⟩) (fun _ => hS2) ?_
          rotate_left
          · (intro w' hS'; go_simp <;> with_reducible rfl)
          simp only [Act.put, List.getElem_toArray, List.getElem_cons_succ, List.getElem_cons_zero, List.setIfInBounds_toArray, List.set]
          refine AnyT.takeY (i := 6) (v := ?_) rfl (by kernel_rfl) (by kernel_rfl) (by kernel_rfl) (by rfl) (fun _ _ _ h => h) (Or.inl ⟨by rfl, ?_⟩) (fun _ => hS2) ?_
          rotate_left
          · (intro w' hS'; go_simp <;> with_reducible rfl)
          simp only [Act.put, List.getElem_toArray, List.getElem_cons_succ, List.getElem_cons_zero, List.setIfInBounds_toArray, List.set]
          refine AnyT.takeY (i := 7) (v := ?_) rfl (by kernel_rfl) (by kernel_rfl) (by kernel_rfl) (by rfl) (fun _ _ _ h => h) (Or.inl ⟨by rfl, ?_⟩) (fun _ => hS2) ?_
          rotate_left
          · (intro w' hS'; go_simp <;> with_reducible rfl)
          simp only [Act.put, List.getElem_toArray, List.getElem_cons_succ, List.getElem_cons_zero, List.setIfInBounds_toArray, List.set]
          refine AnyT.take (i := 8) (v := ?_) [11, 12, 14] rfl (by kernel_rfl) (by kernel_rfl) (by kernel_rfl) (by kernel_rfl) (by kernel_rfl) (by kernel_rfl) (fun _ _ _ h => h) (Or.inl ⟨by rfl, ?_⟩) hS2 ?_
          rotate_left
          · (intro w' hS'; have hq0 := hS'.1; have hq1 := hS'.2.1; have hq2 := hS'.2.2; go_simp <;> with_reducible rfl)
          simp only [Act.put, List.getElem_toArray, List.getElem_cons_succ, List.getElem_cons_zero, List.setIfInBounds_toArray, List.set]
          refine AnyT.takeY (i := 9) (v := ?_) rfl (by kernel_rfl) (by kernel_rfl) (by kernel_rfl) (by rfl) (fun _ _ _ h => h) (Or.inl ⟨by rfl, ?_⟩) (fun _ => hS2) ?_
          rotate_left
          · (intro w' hS'; go_simp <;> with_reducible rfl)
          simp only [Act.put, List.getElem_toArray, List.getElem_cons_succ, List.getElem_cons_zero, List.setIfInBounds_toArray, List.set]
          refine AnyT.take (i := 10) (v := ?_) [11, 12, 14] rfl (by kernel_rfl) (by kernel_rfl) (by kernel_rfl) (by kernel_rfl) (by kernel_rfl) (by kernel_rfl) (fun _ _ _ h => h) (Or.inl ⟨by rfl, ?_⟩) hS2 ?_
          rotate_left
          · (intro w' hS'; have hq0 := hS'.1; have hq1 := hS'.2.1; have hq2 := hS'.2.2; go_simp <;> with_reducible rfl)
          simp only [Act.put, List.getElem_toArray, List.getElem_cons_succ, List.getElem_cons_zero, List.setIfInBounds_toArray, List.set]
          refine AnyT.next (i := 11) (by kernel_rfl) rfl (fun K hK => ?_)
          go_simp
          refine (c5.out).mono ?_
          rintro e w5 ⟨rfl, HQ5, hk5⟩
          go_wp2_with fail
          refine hK.out _ _ (fun _ => HC5.out w5 HQ5 hk5) ?_
          clear hK K
          have hS5 := HC5.out w5 HQ5 hk5
          refine AnyT.takeY (i := 12) (v := ?_) rfl (by kernel_rfl) (by kernel_rfl) (by kernel_rfl) (by rfl) (fun _ _ _ h => h) (Or.inl ⟨by rfl, ?_⟩) (fun _ => hS5) ?_
          rotate_left
          · (intro w' hS'; go_simp <;> with_reducible rfl)
          simp only [Act.put, List.getElem_toArray, List.getElem_cons_succ, List.getElem_cons_zero, List.setIfInBounds_toArray, List.set]
          refine AnyT.takeY (i := 13) (v := ?_) rfl (by kernel_rfl) (by kernel_rfl) (by kernel_rfl) (by rfl) (fun _ _ _ h => h) (Or.inl ⟨by rfl, ?_⟩) (fun _ => hS5) ?_
          rotate_left
          · (intro w' hS'; go_simp <;> with_reducible rfl)
          simp only [Act.put, List.getElem_toArray, List.getElem_cons_succ, List.getElem_cons_zero, List.setIfInBounds_toArray, List.set]
          refine AnyT.next (i := 14) (by kernel_rfl) rfl (fun K hK => ?_)
          go_simp
          refine (cT.out w5 HQ5).mono ?_
          rintro e w6 ⟨rfl, HQ6⟩
          go_wp2_with fail
          refine hK.out _ _ (fun h => absurd h (by decide)) ?_
          clear hK K
          refine AnyT.takeY (i := 15) (v := ?_) rfl (by kernel_rfl) (by kernel_rfl) (by kernel_rfl) (by rfl) (fun _ _ _ h => h) (Or.inl ⟨by rfl, ?_⟩) (fun h => absurd h (by decide)) ?_
          rotate_left
          · (intro w' hS'; go_simp <;> with_reducible rfl)
          simp only [Act.put, List.getElem_toArray, List.getElem_cons_succ, List.getElem_cons_zero, List.setIfInBounds_toArray, List.set]
          refine AnyT.done (by kernel_rfl) ?_ _
          clear hS2 hS5 hk5 HC5 c5 cT HL2 HQ5
          have hS6 : w6.drew.cell? ⟨q, 0, none⟩ = some (ptr p) ∧ w6.drew.cell? ⟨q, 1, none⟩ = some (nu P.ans) := cQ2.out _ (cW2.out _ HQ6)
          have c6 := Hid.mk' (cD.out _ (cW2.out _ HQ6))
          go_upto_region 6 with fail
          refine wp_region_till 13 (fun w' => w'.cell? ⟨q, 0, none⟩ = some (ptr p) ∧ w'.cell? ⟨q, 1, none⟩ = some (nu P.ans)) (by kernel_rfl) ?_
          refine AnyT.takeY (i := 0) (v := ?_) rfl (by kernel_rfl) (by kernel_rfl) (by kernel_rfl) (by rfl) (fun _ _ _ h => h) (Or.inl ⟨by rfl, ?_⟩) (fun _ => hS6) ?_
          rotate_left
          · (intro w' hS'; go_simp <;> with_reducible rfl)
          simp only [Act.put, List.getElem_toArray, List.getElem_cons_succ, List.getElem_cons_zero, List.setIfInBounds_toArray, List.set]
          refine AnyT.takeY (i := 1) (v := ?_) rfl (by kernel_rfl) (by kernel_rfl) (by kernel_rfl) (by rfl) (fun _ _ _ h => h) (Or.inl ⟨by rfl, ?_⟩) (fun _ => hS6) ?_
          rotate_left
          · (intro w' hS'; go_simp <;> with_reducible rfl)
          simp only [Act.put, List.getElem_toArray, List.getElem_cons_succ, List.getElem_cons_zero, List.setIfInBounds_toArray, List.set]
          refine AnyT.takeY (i := 2) (v := ?_) rfl (by kernel_rfl) (by kernel_rfl) (by kernel_rfl) (by rfl) (fun _ _ _ h => h) (Or.inl ⟨by rfl, ?_⟩) (fun _ => hS6) ?_
          rotate_left
          · (intro w' hS'; go_simp <;> with_reducible rfl)
          simp only [Act.put, List.getElem_toArray, List.getElem_cons_succ, List.getElem_cons_zero, List.setIfInBounds_toArray, List.set]
          refine AnyT.takeY (i := 3) (v := ?_) rfl (by kernel_rfl) (by kernel_rfl) (by kernel_rfl) (by rfl) (fun _ _ _ h => h) (Or.inl ⟨by rfl, ?_⟩) (fun _ => hS6) ?_
          rotate_left
          · (intro w' hS'; go_simp <;> with_reducible rfl)
          simp only [Act.put, List.getElem_toArray, List.getElem_cons_succ, List.getElem_cons_zero, List.setIfInBounds_toArray, List.set]
          refine AnyT.take (i := 4) (v := ?_) [10, 11, 13] rfl (by kernel_rfl) (by kernel_rfl) (by kernel_rfl) (by kernel_rfl) (by kernel_rfl) (by kernel_rfl) (fun _ _ _ h => h) (Or.inl ⟨by rfl, ?_⟩) hS6 ?_
          rotate_left
          · (intro w' hS'; have hq0 := hS'.1; have hq1 := hS'.2; go_simp <;> with_reducible rfl)
          simp only [Act.put, List.getElem_toArray, List.getElem_cons_succ, List.getElem_cons_zero, List.setIfInBounds_toArray, List.set]
          refine AnyT.takeY (i := 5) (v := ?_) rfl (by kernel_rfl) (by kernel_rfl) (by kernel_rfl) (by rfl) (fun _ _ _ h => h) (Or.inl ⟨by rfl, ?_⟩) (fun _ => hS6) ?_
          rotate_left
          · (intro w' hS'; go_simp <;> with_reducible rfl)
          simp only [Act.put, List.getElem_toArray, List.getElem_cons_succ, List.getElem_cons_zero, List.setIfInBounds_toArray, List.set]
          refine AnyT.takeY (i := 6) (v := ?_) rfl (by kernel_rfl) (by kernel_rfl) (by kernel_rfl) (by rfl) (fun _ _ _ h => h) (Or.inl ⟨by rfl, ?_⟩) (fun _ => hS6) ?_
          rotate_left
          · (intro w' hS'; go_simp <;> with_reducible rfl)
          simp only [Act.put, List.getElem_toArray, List.getElem_cons_succ, List.getElem_cons_zero, List.setIfInBounds_toArray, List.set]
          refine AnyT.takeY (i := 7) (v := ?_) rfl (by kernel_rfl) (by kernel_rfl) (by kernel_rfl) (by rfl) (fun _ _ _ h => h) (Or.inl ⟨by rfl, ?_⟩) (fun _ => hS6) ?_
          rotate_left
          · (intro w' hS'; go_simp <;> with_reducible rfl)
          simp only [Act.put, List.getElem_toArray, List.getElem_cons_succ, List.getElem_cons_zero, List.setIfInBounds_toArray, List.set]
          refine AnyT.take (i := 8) (v := ?_) [10, 11, 13] rfl (by kernel_rfl) (by kernel_rfl) (by kernel_rfl) (by kernel_rfl) (by kernel_rfl) (by kernel_rfl) (fun _ _ _ h => h) (Or.inl ⟨by rfl, ?_⟩) hS6 ?_
          rotate_left
          · (intro w' hS'; have hq0 := hS'.1; have hq1 := hS'.2; go_simp <;> with_reducible rfl)
          simp only [Act.put, List.getElem_toArray, List.getElem_cons_succ, List.getElem_cons_zero, List.setIfInBounds_toArray, List.set]
          refine AnyT.takeY (i := 9) (v := ?_) rfl (by kernel_rfl) (by kernel_rfl) (by kernel_rfl) (by rfl) (fun _ _ _ h => h) (Or.inl ⟨by rfl, ?_⟩) (fun _ => hS6) ?_
          rotate_left
          · (intro w' hS'; go_simp <;> with_reducible rfl)
          simp only [Act.put, List.getElem_toArray, List.getElem_cons_succ, List.getElem_cons_zero, List.setIfInBounds_toArray, List.set]
          refine AnyT.next (i := 10) (by kernel_rfl) rfl (fun K hK => ?_)
          go_simp
          refine (c6.out).mono ?_
          rintro e w7 ⟨rfl, HQ7⟩
          go_wp2_with fail
          refine hK.out _ _ (fun _ => ms_cells HQ7.out) ?_
          clear hK K
          have hS7 := ms_cells HQ7.out
          refine AnyT.takeY (i := 11) (v := ?_) rfl (by kernel_rfl) (by kernel_rfl) (by kernel_rfl) (by rfl) (fun _ _ _ h => h) (Or.inl ⟨by rfl, ?_⟩) (fun _ => hS7) ?_
          rotate_left
          · (intro w' hS'; go_simp <;> with_reducible rfl)
          simp only [Act.put, List.getElem_toArray, List.getElem_cons_succ, List.getElem_cons_zero, List.setIfInBounds_toArray, List.set]
          refine AnyT.takeY (i := 12) (v := ?_) rfl (by kernel_rfl) (by kernel_rfl) (by kernel_rfl) (by rfl) (fun _ _ _ h => h) (Or.inl ⟨by rfl, ?_⟩) (fun _ => hS7) ?_
          rotate_left
          · (intro w' hS'; go_simp <;> with_reducible rfl)
          simp only [Act.put, List.getElem_toArray, List.getElem_cons_succ, List.getElem_cons_zero, List.setIfInBounds_toArray, List.set]
          refine AnyT.next (i := 13) (by kernel_rfl) rfl (fun K hK => ?_)
          go_simp
          refine (cT2.out w7 HQ7).mono ?_
          rintro e w8 ⟨rfl, HQ8⟩
          go_wp2_with fail
          refine hK.out _ _ (fun h => absurd h (by decide)) ?_
          clear hK K
          refine AnyT.takeY (i := 14) (v := ?_) rfl (by kernel_rfl) (by kernel_rfl) (by kernel_rfl) (by rfl) (fun _ _ _ h => h) (Or.inl ⟨by rfl, ?_⟩) (fun h => absurd h (by decide)) ?_
          rotate_left
          · (intro w' hS'; go_simp <;> with_reducible rfl)
          simp only [Act.put, List.getElem_toArray, List.getElem_cons_succ, List.getElem_cons_zero, List.setIfInBounds_toArray, List.set]
          refine AnyT.done (by kernel_rfl) ?_ _
          clear hS6 hS7 c6 cT2 HQ7 HQ6
          have z8 := cQ3.out _ HQ8
          have c8 := Hid.mk' (cF.out _ HQ8)
          clear cF cQ3
          go_wp2_with fail
          refine c8.out.mono ?_
          rintro e w9 ⟨rfl, HQ9⟩
          go_wp2
          go_ret2
          obtain ⟨n, hn, hl⟩ := HQ9.out
          refine ⟨?_, n, by omega, hl⟩
          show _ = Ending.returned (.tuple #[.int .i64 ((u.toNat : Nat) : Int), .bool true])
          rw [HUT.out]
          rfl
      · rw [if_pos hdn]
        obtain ⟨t, v, e0⟩ := errP_some D.no D.pl hdn
        rw [e0] at cD
        have cT2 : Hid (∀ wx, Hid (Ms Rep w p q F 7 wr0 D.sl fr P.ans wx) → Calls Try.prog 32 #[ptr q, nu D.ans, .iface t v] wx fun e w' => e = .returned (.bool false) ∧ Hid (Ms Rep w p q F 7 wr0 D.sl fr P.ans w')) := fun wx h => ms_turn_no HC.out.keep h.out D.ans t v
        clear hDp hdn e0 htu hS hPl hDl hnd hlt
        go_enter Try.func12, Try.ntmps12
        go_wp2_with fail
        refine cf.out.mono ?_
        rintro e w1 ⟨rfl, hb1⟩
        have HB1 := Hid.mk' hb1
        have HZ := Hid.mk' (lone_zero w1)
        have HBZ : Hid (Below w.heap.size w (w1.alloc (.cells sltZ 49))) := HB1.out.alloc HB1.out.size _
        clear hb1 cf
        go_upto_region 4 with (first | (refine wpList_store_lone rfl _ _ rfl w1.heap.size rfl x rfl slt0 HZ.out ?_; intro w2 hl2 hg2 hs2; have HL2 := Hid.mk' hl2; have HB2 : Hid (Below w.heap.size w w2) := (HBZ.out.grown hg2 HBZ.out.size (fun r e => by cases e; exact HB1.out.size)); clear hl2 hg2 hs2) | fail)
        obtain ⟨sb, hsb⟩ : ∃ sb, w1.heap.size = sb := ⟨_, rfl⟩
        have hles : w.heap.size ≤ sb := by have := HB1.out.size; omega
        rw [hsb] at HL2
        simp only [hsb]
        have hls2 : sb < w2.heap.size := (Array.getElem?_eq_some_iff.1 HL2.out).1
        have hm2 := ms_cells (HM0.out w2.drew HB2.out.drew)
        have hS2 : w2.drew.cell? ⟨q, 0, none⟩ = some (ptr p) ∧ w2.drew.cell? ⟨q, 1, none⟩ = some (nu l) ∧ w2.drew.cell? ⟨sb, 2, none⟩ = some (nu x.kids) := ⟨hm2.1, hm2.2, (Lone.cells (w := w2.drew) HL2.out).2.2.1⟩
        have c5 := Hid.mk' (cP.out w2.drew HB2.out.drew)
        have HC5 : Hid (∀ w', Hid (Ms Rep w p q F 4 wr0 P.sl fr l w') → (∀ b, w.heap.size ≤ b → b < w2.drew.heap.size → w'.heap[b]? = w2.drew.heap[b]?) → w'.cell? ⟨q, 0, none⟩ = some (ptr p) ∧ w'.cell? ⟨q, 1, none⟩ = some (nu l) ∧ w'.cell? ⟨sb, 2, none⟩ = some (nu x.kids)) := fun w' h1 h2 => ⟨(ms_cells h1.out).1, (ms_cells h1.out).2, (Lone.cells (w := w') ((h2 sb hles hls2).trans HL2.out)).2.2.1⟩
        clear HZ HBZ hsb HB1 cP HM0 hm2
        refine wp_region_till 14 (fun w' => w'.cell? ⟨q, 0, none⟩ = some (ptr p) ∧ w'.cell? ⟨q, 1, none⟩ = some (nu l) ∧ w'.cell? ⟨sb, 2, none⟩ = some (nu x.kids)) (by kernel_rfl) ?_
        refine AnyT.takeY (i := 0) (v := ?_) rfl (by kernel_rfl) (by kernel_rfl) (by kernel_rfl) (by rfl) (fun _ _ _ h => h) (Or.inl ⟨by rfl, ?_⟩) (fun _ => hS2) ?_
        rotate_left
        · (intro w' hS'; go_simp <;> with_reducible rfl)
        simp only [Act.put, List.getElem_toArray, List.getElem_cons_succ, List.getElem_cons_zero, List.setIfInBounds_toArray, List.set]
        refine AnyT.takeY (i := 1) (v := ?_) rfl (by kernel_rfl) (by kernel_rfl) (by kernel_rfl) (by rfl) (fun _ _ _ h => h) (Or.inl ⟨by rfl, ?_⟩) (fun _ => hS2) ?_
        rotate_left
        · (intro w' hS'; go_simp <;> with_reducible rfl)
        simp only [Act.put, List.getElem_toArray, List.getElem_cons_succ, List.getElem_cons_zero, List.setIfInBounds_toArray, List.set]
        refine AnyT.takeY (i := 2) (v := ?_) rfl (by kernel_rfl) (by kernel_rfl) (by kernel_rfl) (by rfl) (fun _ _ _ h => h) (Or.inl ⟨by rfl, ?_⟩) (fun _ => hS2) ?_
        rotate_left
        · (intro w' hS'; go_simp <;> with_reducible rfl)
        simp only [Act.put, List.getElem_toArray, List.getElem_cons_succ, List.getElem_cons_zero, List.setIfInBounds_toArray, List.set]
        refine AnyT.takeY (i := 3) (v := ?_) rfl (by kernel_rfl) (by kernel_rfl) (by kernel_rfl) (by rfl) (fun _ _ _ h => h) (Or.inl ⟨by rfl, ?_⟩) (fun _ => hS2) ?_
        rotate_left
        · (intro w' hS'; go_simp <;> with_reducible rfl)
        simp only [Act.put, List.getElem_toArray, List.getElem_cons_succ, List.getElem_cons_zero, List.setIfInBounds_toArray, List.set]
        refine AnyT.take (i := 4) (v := ?_) [11, 12, 14] rfl (by kernel_rfl) (by kernel_rfl) (by kernel_rfl) (by kernel_rfl) (by kernel_rfl) (by kernel_rfl) (fun _ _ _ h => h) (Or.inl ⟨by rfl, ?_⟩) hS2 ?_
        rotate_left
        · (intro w' hS'; have hq0 := hS'.1; have hq1 := hS'.2.1; have hq2 := hS'.2.2; go_simp <;> with_reducible rfl)
        simp only [Act.put, List.getElem_toArray, List.getElem_cons_succ, List.getElem_cons_zero, List.setIfInBounds_toArray, List.set]
        refine AnyT.takeY (i := 5) (v := ?_) rfl (by kernel_rfl) (by kernel_rfl) (by kernel_rfl) (by rfl) (fun _ _ _ h => h) (Or.inl ⟨by rfl, ?_⟩) (fun _ => hS2) ?_
        rotate_left
        · (intro w' hS'; go_simp <;> with_reducible rfl)
        simp only [Act.put, List.getElem_toArray, List.getElem_cons_succ, List.getElem_cons_zero, List.setIfInBounds_toArray, List.set]
        refine AnyT.takeY (i := 6) (v := ?_) rfl (by kernel_rfl) (by kernel_rfl) (by kernel_rfl) (by rfl) (fun _ _ _ h => h) (Or.inl ⟨by rfl, ?_⟩) (fun _ => hS2) ?_
        rotate_left
        · (intro w' hS'; go_simp <;> with_reducible rfl)
        simp only [Act.put, List.getElem_toArray, List.getElem_cons_succ, List.getElem_cons_zero, List.setIfInBounds_toArray, List.set]
        refine AnyT.takeY (i := 7) (v := ?_) rfl (by kernel_rfl) (by kernel_rfl) (by kernel_rfl) (by rfl) (fun _ _ _ h => h) (Or.inl ⟨by rfl, ?_⟩) (fun _ => hS2) ?_
        rotate_left
        · (intro w' hS'; go_simp <;> with_reducible rfl)
        simp only [Act.put, List.getElem_toArray, List.getElem_cons_succ, List.getElem_cons_zero, List.setIfInBounds_toArray, List.set]
        refine AnyT.take (i := 8) (v := ?_) [11, 12, 14] rfl (by kernel_rfl) (by kernel_rfl) (by kernel_rfl) (by kernel_rfl) (by kernel_rfl) (by kernel_rfl) (fun _ _ _ h => h) (Or.inl ⟨by rfl, ?_⟩) hS2 ?_
        rotate_left
        · (intro w' hS'; have hq0 := hS'.1; have hq1 := hS'.2.1; have hq2 := hS'.2.2; go_simp <;> with_reducible rfl)
        simp only [Act.put, List.getElem_toArray, List.getElem_cons_succ, List.getElem_cons_zero, List.setIfInBounds_toArray, List.set]
        refine AnyT.takeY (i := 9) (v := ?_) rfl (by kernel_rfl) (by kernel_rfl) (by kernel_rfl) (by rfl) (fun _ _ _ h => h) (Or.inl ⟨by rfl, ?_⟩) (fun _ => hS2) ?_
        rotate_left
        · (intro w' hS'; go_simp <;> with_reducible rfl)
        simp only [Act.put, List.getElem_toArray, List.getElem_cons_succ, List.getElem_cons_zero, List.setIfInBounds_toArray, List.set]
        refine AnyT.take (i := 10) (v := ?_) [11, 12, 14] rfl (by kernel_rfl) (by kernel_rfl) (by kernel_rfl) (by kernel_rfl) (by kernel_rfl) (by kernel_rfl) (fun _ _ _ h => h) (Or.inl ⟨by rfl, ?_⟩) hS2 ?_
        rotate_left
        · (intro w' hS'; have hq0 := hS'.1; have hq1 := hS'.2.1; have hq2 := hS'.2.2; go_simp <;> with_reducible rfl)
        simp only [Act.put, List.getElem_toArray, List.getElem_cons_succ, List.getElem_cons_zero, List.setIfInBounds_toArray, List.set]
        refine AnyT.next (i := 11) (by kernel_rfl) rfl (fun K hK => ?_)
        go_simp
        refine (c5.out).mono ?_
        rintro e w5 ⟨rfl, HQ5, hk5⟩
        go_wp2_with fail
        refine hK.out _ _ (fun _ => HC5.out w5 HQ5 hk5) ?_
        clear hK K
        have hS5 := HC5.out w5 HQ5 hk5
        refine AnyT.takeY (i := 12) (v := ?_) rfl (by kernel_rfl) (by kernel_rfl) (by kernel_rfl) (by rfl) (fun _ _ _ h => h) (Or.inl ⟨by rfl, ?_⟩) (fun _ => hS5) ?_
        rotate_left
        · (intro w' hS'; go_simp <;> with_reducible rfl)
        simp only [Act.put, List.getElem_toArray, List.getElem_cons_succ, List.getElem_cons_zero, List.setIfInBounds_toArray, List.set]
        refine AnyT.takeY (i := 13) (v := ?_) rfl (by kernel_rfl) (by kernel_rfl) (by kernel_rfl) (by rfl) (fun _ _ _ h => h) (Or.inl ⟨by rfl, ?_⟩) (fun _ => hS5) ?_
        rotate_left
        · (intro w' hS'; go_simp <;> with_reducible rfl)
        simp only [Act.put, List.getElem_toArray, List.getElem_cons_succ, List.getElem_cons_zero, List.setIfInBounds_toArray, List.set]
        refine AnyT.next (i := 14) (by kernel_rfl) rfl (fun K hK => ?_)
        go_simp
        refine (cT.out w5 HQ5).mono ?_
        rintro e w6 ⟨rfl, HQ6⟩
        go_wp2_with fail
        refine hK.out _ _ (fun h => absurd h (by decide)) ?_
        clear hK K
        refine AnyT.takeY (i := 15) (v := ?_) rfl (by kernel_rfl) (by kernel_rfl) (by kernel_rfl) (by rfl) (fun _ _ _ h => h) (Or.inl ⟨by rfl, ?_⟩) (fun h => absurd h (by decide)) ?_
        rotate_left
        · (intro w' hS'; go_simp <;> with_reducible rfl)
        simp only [Act.put, List.getElem_toArray, List.getElem_cons_succ, List.getElem_cons_zero, List.setIfInBounds_toArray, List.set]
        refine AnyT.done (by kernel_rfl) ?_ _
        clear hS2 hS5 hk5 HC5 c5 cT HL2 HQ5
        have hS6 : w6.drew.cell? ⟨q, 0, none⟩ = some (ptr p) ∧ w6.drew.cell? ⟨q, 1, none⟩ = some (nu P.ans) := cQ2.out _ (cW2.out _ HQ6)
        have c6 := Hid.mk' (cD.out _ (cW2.out _ HQ6))
        go_upto_region 6 with fail
        refine wp_region_till 13 (fun w' => w'.cell? ⟨q, 0, none⟩ = some (ptr p) ∧ w'.cell? ⟨q, 1, none⟩ = some (nu P.ans)) (by kernel_rfl) ?_
        refine AnyT.takeY (i := 0) (v := ?_) rfl (by kernel_rfl) (by kernel_rfl) (by kernel_rfl) (by rfl) (fun _ _ _ h => h) (Or.inl ⟨by rfl, ?_⟩) (fun _ => hS6) ?_
        rotate_left
        · (intro w' hS'; go_simp <;> with_reducible rfl)
        simp only [Act.put, List.getElem_toArray, List.getElem_cons_succ, List.getElem_cons_zero, List.setIfInBounds_toArray, List.set]
        refine AnyT.takeY (i := 1) (v := ?_) rfl (by kernel_rfl) (by kernel_rfl) (by kernel_rfl) (by rfl) (fun _ _ _ h => h) (Or.inl ⟨by rfl, ?_⟩) (fun _ => hS6) ?_
        rotate_left
        · (intro w' hS'; go_simp <;> with_reducible rfl)
        simp only [Act.put, List.getElem_toArray, List.getElem_cons_succ, List.getElem_cons_zero, List.setIfInBounds_toArray, List.set]
        refine AnyT.takeY (i := 2) (v := ?_) rfl (by kernel_rfl) (by kernel_rfl) (by kernel_rfl) (by rfl) (fun _ _ _ h => h) (Or.inl ⟨by rfl, ?_⟩) (fun _ => hS6) ?_
        rotate_left
        · (intro w' hS'; go_simp <;> with_reducible rfl)
        simp only [Act.put, List.getElem_toArray, List.getElem_cons_succ, List.getElem_cons_zero, List.setIfInBounds_toArray, List.set]
        refine AnyT.takeY (i := 3) (v := ?_) rfl (by kernel_rfl) (by kernel_rfl) (by kernel_rfl) (by rfl) (fun _ _ _ h => h) (Or.inl ⟨by rfl, ?_⟩) (fun _ => hS6) ?_
        rotate_left
        · (intro w' hS'; go_simp <;> with_reducible rfl)
        simp only [Act.put, List.getElem_toArray, List.getElem_cons_succ, List.getElem_cons_zero, List.setIfInBounds_toArray, List.set]
        refine AnyT.take (i := 4) (v := ?_) [10, 11, 13] rfl (by kernel_rfl) (by kernel_rfl) (by kernel_rfl) (by kernel_rfl) (by kernel_rfl) (by kernel_rfl) (fun _ _ _ h => h) (Or.inl ⟨by rfl, ?_⟩) hS6 ?_
        rotate_left
        · (intro w' hS'; have hq0 := hS'.1; have hq1 := hS'.2; go_simp <;> with_reducible rfl)
        simp only [Act.put, List.getElem_toArray, List.getElem_cons_succ, List.getElem_cons_zero, List.setIfInBounds_toArray, List.set]
        refine AnyT.takeY (i := 5) (v := ?_) rfl (by kernel_rfl) (by kernel_rfl) (by kernel_rfl) (by rfl) (fun _ _ _ h => h) (Or.inl ⟨by rfl, ?_⟩) (fun _ => hS6) ?_
        rotate_left
        · (intro w' hS'; go_simp <;> with_reducible rfl)
        simp only [Act.put, List.getElem_toArray, List.getElem_cons_succ, List.getElem_cons_zero, List.setIfInBounds_toArray, List.set]
        refine AnyT.takeY (i := 6) (v := ?_) rfl (by kernel_rfl) (by kernel_rfl) (by kernel_rfl) (by rfl) (fun _ _ _ h => h) (Or.inl ⟨by rfl, ?_⟩) (fun _ => hS6) ?_
        rotate_left
        · (intro w' hS'; go_simp <;> with_reducible rfl)
        simp only [Act.put, List.getElem_toArray, List.getElem_cons_succ, List.getElem_cons_zero, List.setIfInBounds_toArray, List.set]
        refine AnyT.takeY (i := 7) (v := ?_) rfl (by kernel_rfl) (by kernel_rfl) (by kernel_rfl) (by rfl) (fun _ _ _ h => h) (Or.inl ⟨by rfl, ?_⟩) (fun _ => hS6) ?_
        rotate_left
        · (intro w' hS'; go_simp <;> with_reducible rfl)
        simp only [Act.put, List.getElem_toArray, List.getElem_cons_succ, List.getElem_cons_zero, List.setIfInBounds_toArray, List.set]
        refine AnyT.take (i := 8) (v := ?_) [10, 11, 13] rfl (by kernel_rfl) (by kernel_rfl) (by kernel_rfl) (by kernel_rfl) (by kernel_rfl) (by kernel_rfl) (fun _ _ _ h => h) (Or.inl ⟨by rfl, ?_⟩) hS6 ?_
        rotate_left
        · (intro w' hS'; have hq0 := hS'.1; have hq1 := hS'.2; go_simp <;> with_reducible rfl)
        simp only [Act.put, List.getElem_toArray, List.getElem_cons_succ, List.getElem_cons_zero, List.setIfInBounds_toArray, List.set]
        refine AnyT.takeY (i := 9) (v := ?_) rfl (by kernel_rfl) (by kernel_rfl) (by kernel_rfl) (by rfl) (fun _ _ _ h => h) (Or.inl ⟨by rfl, ?_⟩) (fun _ => hS6) ?_
        rotate_left
        · (intro w' hS'; go_simp <;> with_reducible rfl)
        simp only [Act.put, List.getElem_toArray, List.getElem_cons_succ, List.getElem_cons_zero, List.setIfInBounds_toArray, List.set]
        refine AnyT.next (i := 10) (by kernel_rfl) rfl (fun K hK => ?_)
        go_simp
        refine (c6.out).mono ?_
        rintro e w7 ⟨rfl, HQ7⟩
        go_wp2_with fail
        refine hK.out _ _ (fun _ => ms_cells HQ7.out) ?_
        clear hK K
        have hS7 := ms_cells HQ7.out
        refine AnyT.takeY (i := 11) (v := ?_) rfl (by kernel_rfl) (by kernel_rfl) (by kernel_rfl) (by rfl) (fun _ _ _ h => h) (Or.inl ⟨by rfl, ?_⟩) (fun _ => hS7) ?_
        rotate_left
        · (intro w' hS'; go_simp <;> with_reducible rfl)
        simp only [Act.put, List.getElem_toArray, List.getElem_cons_succ, List.getElem_cons_zero, List.setIfInBounds_toArray, List.set]
        refine AnyT.takeY (i := 12) (v := ?_) rfl (by kernel_rfl) (by kernel_rfl) (by kernel_rfl) (by rfl) (fun _ _ _ h => h) (Or.inl ⟨by rfl, ?_⟩) (fun _ => hS7) ?_
        rotate_left
        · (intro w' hS'; go_simp <;> with_reducible rfl)
        simp only [Act.put, List.getElem_toArray, List.getElem_cons_succ, List.getElem_cons_zero, List.setIfInBounds_toArray, List.set]
        refine AnyT.next (i := 13) (by kernel_rfl) rfl (fun K hK => ?_)
        go_simp
        refine (cT2.out w7 HQ7).mono ?_
        rintro e w8 ⟨rfl, HQ8⟩
        go_wp2_with fail
        refine hK.out _ _ (fun h => absurd h (by decide)) ?_
        clear hK K
        refine AnyT.takeY (i := 14) (v := ?_) rfl (by kernel_rfl) (by kernel_rfl) (by kernel_rfl) (by rfl) (fun _ _ _ h => h) (Or.inl ⟨by rfl, ?_⟩) (fun h => absurd h (by decide)) ?_
        rotate_left
        · (intro w' hS'; go_simp <;> with_reducible rfl)
        simp only [Act.put, List.getElem_toArray, List.getElem_cons_succ, List.getElem_cons_zero, List.setIfInBounds_toArray, List.set]
        refine AnyT.done (by kernel_rfl) ?_ _
        clear hS6 hS7 c6 cT2 HQ7 HQ6
        go_wp2
        go_ret2
        obtain ⟨n, hn, hl⟩ := HQ8.out
        exact ⟨rfl, n, by omega, hl⟩
    · rw [if_pos hn]
      obtain ⟨t, v, e0⟩ := errP_some P.no P.pl hn
      rw [e0] at cP
      have cT : Hid (∀ wx, Hid (Ms Rep w p q F 4 wr0 P.sl fr l wx) → Calls Try.prog 32 #[ptr q, nu P.ans, .iface t v] wx fun e w' => e = .returned (.bool false) ∧ Hid (Ms Rep w p q F 4 wr0 P.sl fr l w')) := fun wx h => ms_turn_no HC.out.keep h.out P.ans t v
      clear hPp hn e0 htu hS hPl hnd hlt
      go_enter Try.func12, Try.ntmps12
      go_wp2_with fail
      refine cf.out.mono ?_
      rintro e w1 ⟨rfl, hb1⟩
      have HB1 := Hid.mk' hb1
      have HZ := Hid.mk' (lone_zero w1)
      have HBZ : Hid (Below w.heap.size w (w1.alloc (.cells sltZ 49))) := HB1.out.alloc HB1.out.size _
      clear hb1 cf
      go_upto_region 4 with (first | (refine wpList_store_lone rfl _ _ rfl w1.heap.size rfl x rfl slt0 HZ.out ?_; intro w2 hl2 hg2 hs2; have HL2 := Hid.mk' hl2; have HB2 : Hid (Below w.heap.size w w2) := (HBZ.out.grown hg2 HBZ.out.size (fun r e => by cases e; exact HB1.out.size)); clear hl2 hg2 hs2) | fail)
      obtain ⟨sb, hsb⟩ : ∃ sb, w1.heap.size = sb := ⟨_, rfl⟩
      have hles : w.heap.size ≤ sb := by have := HB1.out.size; omega
      rw [hsb] at HL2
      simp only [hsb]
      have hls2 : sb < w2.heap.size := (Array.getElem?_eq_some_iff.1 HL2.out).1
      have hm2 := ms_cells (HM0.out w2.drew HB2.out.drew)
      have hS2 : w2.drew.cell? ⟨q, 0, none⟩ = some (ptr p) ∧ w2.drew.cell? ⟨q, 1, none⟩ = some (nu l) ∧ w2.drew.cell? ⟨sb, 2, none⟩ = some (nu x.kids) := ⟨hm2.1, hm2.2, (Lone.cells (w := w2.drew) HL2.out).2.2.1⟩
      have c5 := Hid.mk' (cP.out w2.drew HB2.out.drew)
      have HC5 : Hid (∀ w', Hid (Ms Rep w p q F 4 wr0 P.sl fr l w') → (∀ b, w.heap.size ≤ b → b < w2.drew.heap.size → w'.heap[b]? = w2.drew.heap[b]?) → w'.cell? ⟨q, 0, none⟩ = some (ptr p) ∧ w'.cell? ⟨q, 1, none⟩ = some (nu l) ∧ w'.cell? ⟨sb, 2, none⟩ = some (nu x.kids)) := fun w' h1 h2 => ⟨(ms_cells h1.out).1, (ms_cells h1.out).2, (Lone.cells (w := w') ((h2 sb hles hls2).trans HL2.out)).2.2.1⟩
      clear HZ HBZ hsb HB1 cP HM0 hm2
      refine wp_region_till 14 (fun w' => w'.cell? ⟨q, 0, none⟩ = some (ptr p) ∧ w'.cell? ⟨q, 1, none⟩ = some (nu l) ∧ w'.cell? ⟨sb, 2, none⟩ = some (nu x.kids)) (by kernel_rfl) ?_
      refine AnyT.takeY (i := 0) (v := ?_) rfl (by kernel_rfl) (by kernel_rfl) (by kernel_rfl) (by rfl) (fun _ _ _ h => h) (Or.inl ⟨by rfl, ?_⟩) (fun _ => hS2) ?_
      rotate_left
      · (intro w' hS'; go_simp <;> with_reducible rfl)
      simp only [Act.put, List.getElem_toArray, List.getElem_cons_succ, List.getElem_cons_zero, List.setIfInBounds_toArray, List.set]
      refine AnyT.takeY (i := 1) (v := ?_) rfl (by kernel_rfl) (by kernel_rfl) (by kernel_rfl) (by rfl) (fun _ _ _ h => h) (Or.inl ⟨by rfl, ?_⟩) (fun _ => hS2) ?_
      rotate_left
      · (intro w' hS'; go_simp <;> with_reducible rfl)
      simp only [Act.put, List.getElem_toArray, List.getElem_cons_succ, List.getElem_cons_zero, List.setIfInBounds_toArray, List.set]
      refine AnyT.takeY (i := 2) (v := ?_) rfl (by kernel_rfl) (by kernel_rfl) (by kernel_rfl) (by rfl) (fun _ _ _ h => h) (Or.inl ⟨by rfl, ?_⟩) (fun _ => hS2) ?_
      rotate_left
      · (intro w' hS'; go_simp <;> with_reducible rfl)
      simp only [Act.put, List.getElem_toArray, List.getElem_cons_succ, List.getElem_cons_zero, List.setIfInBounds_toArray, List.set]
      refine AnyT.takeY (i := 3) (v := ?_) rfl (by kernel_rfl) (by kernel_rfl) (by kernel_rfl) (by rfl) (fun _ _ _ h => h) (Or.inl ⟨by rfl, ?_⟩) (fun _ => hS2) ?_
      rotate_left
      · (intro w' hS'; go_simp <;> with_reducible rfl)
      simp only [Act.put, List.getElem_toArray, List.getElem_cons_succ, List.getElem_cons_zero, List.setIfInBounds_toArray, List.set]
      refine AnyT.take (i := 4) (v := ?_) [11, 12, 14] rfl (by kernel_rfl) (by kernel_rfl) (by kernel_rfl) (by kernel_rfl) (by kernel_rfl) (by kernel_rfl) (fun _ _ _ h => h) (Or.inl ⟨by rfl, ?_⟩) hS2 ?_
      rotate_left
      · (intro w' hS'; have hq0 := hS'.1; have hq1 := hS'.2.1; have hq2 := hS'.2.2; go_simp <;> with_reducible rfl)
      simp only [Act.put, List.getElem_toArray, List.getElem_cons_succ, List.getElem_cons_zero, List.setIfInBounds_toArray, List.set]
      refine AnyT.takeY (i := 5) (v := ?_) rfl (by kernel_rfl) (by kernel_rfl) (by kernel_rfl) (by rfl) (fun _ _ _ h => h) (Or.inl ⟨by rfl, ?_⟩) (fun _ => hS2) ?_
      rotate_left
      · (intro w' hS'; go_simp <;> with_reducible rfl)
      simp only [Act.put, List.getElem_toArray, List.getElem_cons_succ, List.getElem_cons_zero, List.setIfInBounds_toArray, List.set]
      refine AnyT.takeY (i := 6) (v := ?_) rfl (by kernel_rfl) (by kernel_rfl) (by kernel_rfl) (by rfl) (fun _ _ _ h => h) (Or.inl ⟨by rfl, ?_⟩) (fun _ => hS2) ?_
      rotate_left
      · (intro w' hS'; go_simp <;> with_reducible rfl)
      simp only [Act.put, List.getElem_toArray, List.getElem_cons_succ, List.getElem_cons_zero, List.setIfInBounds_toArray, List.set]
      refine AnyT.takeY (i := 7) (v := ?_) rfl (by kernel_rfl) (by kernel_rfl) (by kernel_rfl) (by rfl) (fun _ _ _ h => h) (Or.inl ⟨by rfl, ?_⟩) (fun _ => hS2) ?_
      rotate_left
      · (intro w' hS'; go_simp <;> with_reducible rfl)
      simp only [Act.put, List.getElem_toArray, List.getElem_cons_succ, List.getElem_cons_zero, List.setIfInBounds_toArray, List.set]
      refine AnyT.take (i := 8) (v := ?_) [11, 12, 14] rfl (by kernel_rfl) (by kernel_rfl) (by kernel_rfl) (by kernel_rfl) (by kernel_rfl) (by kernel_rfl) (fun _ _ _ h => h) (Or.inl ⟨by rfl, ?_⟩) hS2 ?_
      rotate_left
      · (intro w' hS'; have hq0 := hS'.1; have hq1 := hS'.2.1; have hq2 := hS'.2.2; go_simp <;> with_reducible rfl)
      simp only [Act.put, List.getElem_toArray, List.getElem_cons_succ, List.getElem_cons_zero, List.setIfInBounds_toArray, List.set]
      refine AnyT.takeY (i := 9) (v := ?_) rfl (by kernel_rfl) (by kernel_rfl) (by kernel_rfl) (by rfl) (fun _ _ _ h => h) (Or.inl ⟨by rfl, ?_⟩) (fun _ => hS2) ?_
      rotate_left
      · (intro w' hS'; go_simp <;> with_reducible rfl)
      simp only [Act.put, List.getElem_toArray, List.getElem_cons_succ, List.getElem_cons_zero, List.setIfInBounds_toArray, List.set]
      refine AnyT.take (i := 10) (v := ?_) [11, 12, 14] rfl (by kernel_rfl) (by kernel_rfl) (by kernel_rfl) (by kernel_rfl) (by kernel_rfl) (by kernel_rfl) (fun _ _ _ h => h) (Or.inl ⟨by rfl, ?_⟩) hS2 ?_
      rotate_left
      · (intro w' hS'; have hq0 := hS'.1; have hq1 := hS'.2.1; have hq2 := hS'.2.2; go_simp <;> with_reducible rfl)
      simp only [Act.put, List.getElem_toArray, List.getElem_cons_succ, List.getElem_cons_zero, List.setIfInBounds_toArray, List.set]
      refine AnyT.next (i := 11) (by kernel_rfl) rfl (fun K hK => ?_)
      go_simp
      refine (c5.out).mono ?_
      rintro e w5 ⟨rfl, HQ5, hk5⟩
      go_wp2_with fail
      refine hK.out _ _ (fun _ => HC5.out w5 HQ5 hk5) ?_
      clear hK K
      have hS5 := HC5.out w5 HQ5 hk5
      refine AnyT.takeY (i := 12) (v := ?_) rfl (by kernel_rfl) (by kernel_rfl) (by kernel_rfl) (by rfl) (fun _ _ _ h => h) (Or.inl ⟨by rfl, ?_⟩) (fun _ => hS5) ?_
      rotate_left
      · (intro w' hS'; go_simp <;> with_reducible rfl)
      simp only [Act.put, List.getElem_toArray, List.getElem_cons_succ, List.getElem_cons_zero, List.setIfInBounds_toArray, List.set]
      refine AnyT.takeY (i := 13) (v := ?_) rfl (by kernel_rfl) (by kernel_rfl) (by kernel_rfl) (by rfl) (fun _ _ _ h => h) (Or.inl ⟨by rfl, ?_⟩) (fun _ => hS5) ?_
      rotate_left
      · (intro w' hS'; go_simp <;> with_reducible rfl)
      simp only [Act.put, List.getElem_toArray, List.getElem_cons_succ, List.getElem_cons_zero, List.setIfInBounds_toArray, List.set]
      refine AnyT.next (i := 14) (by kernel_rfl) rfl (fun K hK => ?_)
      go_simp
      refine (cT.out w5 HQ5).mono ?_
      rintro e w6 ⟨rfl, HQ6⟩
      go_wp2_with fail
      refine hK.out _ _ (fun h => absurd h (by decide)) ?_
      clear hK K
      refine AnyT.takeY (i := 15) (v := ?_) rfl (by kernel_rfl) (by kernel_rfl) (by kernel_rfl) (by rfl) (fun _ _ _ h => h) (Or.inl ⟨by rfl, ?_⟩) (fun h => absurd h (by decide)) ?_
      rotate_left
      · (intro w' hS'; go_simp <;> with_reducible rfl)
      simp only [Act.put, List.getElem_toArray, List.getElem_cons_succ, List.getElem_cons_zero, List.setIfInBounds_toArray, List.set]
      refine AnyT.done (by kernel_rfl) ?_ _
      clear hS2 hS5 hk5 HC5 c5 cT HL2 HQ5
      go_wp2
      go_ret2
      obtain ⟨n, hn, hl⟩ := HQ6.out
      exact ⟨rfl, n, by omega, hl⟩
end
end Sp
end Go.Proofs.Ythabnombfbehkaa
