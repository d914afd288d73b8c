/- What the program's rings must answer; what the laws ask first of errors and slots. -/
import Derived.Test.YtckgecmcjnhceaaDoorRngT
import Derived.Test.YtckgecmcjnhceaaDoorArnA
namespace Go.Proofs.YtckgecmcjnhceaaDoor
set_option linter.ambiguousOpen false
open Go.RowKit
namespace Rg
open An Ft Lv
set_option linter.unusedSimpArgs false
set_option linter.unusedVariables false

/-- An error with its place; below 0: it tells none. -/
def errP (no : Nat) (pl : Int) : Value := if pl < 0 then errE no else .iface 91 (.agg #[.int .i64 (no : Int), .int .i64 pl])

@[reducible] def I64 (i : Int) : Prop := -9223372036854775808 ≤ i ∧ i ≤ 9223372036854775807

def PushC (Rep : World → Nat → (Nat → Prop) → Arn → Prop) : Prop := ∀ (w : World) (p : Nat) (F : Nat → Prop) (A : Arn) (last i : Int), Rep w p F A → An.Good A → A.wr ≤ 999999990 → I64 last → I64 i → Calls Tryd.prog 31 #[ptr p, nu last, nu i] w fun e w' => e = .returned (.tuple #[nu (push A.sl last i).ans, errP (push A.sl last i).no (push A.sl last i).pl]) ∧ ∃ n, n ≤ 3 ∧ ((push A.sl last i).no ≠ 0 → n = 0) ∧ An.Left Rep w w' p F ⟨(push A.sl last i).sl, A.fr, A.wr + n⟩

def DropC (Rep : World → Nat → (Nat → Prop) → Arn → Prop) : Prop := ∀ (w : World) (p : Nat) (F : Nat → Prop) (A : Arn) (last i : Int), Rep w p F A → An.Good A → A.wr ≤ 999999990 → I64 last → I64 i → Calls Tryd.prog 27 #[ptr p, nu last, nu i] w fun e w' => e = .returned (.tuple #[nu (drop A.sl last i).ans, errP (drop A.sl last i).no (drop A.sl last i).pl]) ∧ ∃ n, n ≤ 3 ∧ ((drop A.sl last i).no ≠ 0 → n = 0) ∧ An.Left Rep w w' p F ⟨(drop A.sl last i).sl, A.fr, A.wr + n⟩

def SpliceC (Rep : World → Nat → (Nat → Prop) → Arn → Prop) : Prop := ∀ (w : World) (p : Nat) (F : Nat → Prop) (A : Arn) (one two : Int), Rep w p F A → An.Good A → A.wr ≤ 999999990 → I64 one → I64 two → Calls Tryd.prog 29 #[ptr p, nu one, nu two] w fun e w' => e = .returned (.tuple #[nu (splice A.sl one two).ans, errP (splice A.sl one two).no (splice A.sl one two).pl]) ∧ ∃ n, n ≤ 4 ∧ ((splice A.sl one two).no ≠ 0 → n = 0) ∧ An.Left Rep w w' p F ⟨(splice A.sl one two).sl, A.fr, A.wr + n⟩

def AllC (Rep : World → Nat → (Nat → Prop) → Arn → Prop) : Prop := ∀ (w : World) (p : Nat) (F : Nat → Prop) (A : Arn) (last : Int), Rep w p F A → An.Good A → I64 last → Calls Tryd.prog 9 #[ptr p, nu last] w fun e w' => ∃ fv X, e = .returned fv ∧ IterA w' fv X (allL A.sl last) ∧ (∀ b, X b → w.heap.size ≤ b) ∧ Below w.heap.size w w'

/-- Links that are turned leave an arena good. -/
theorem good_sl {A : Arn} (h : An.Good A) {S : List Slt} {n : Nat} (hS : S.length = A.sl.length) : An.Good ⟨S, A.fr, n⟩ := ⟨hS.trans h.len, h.nd, h.lt⟩

/-! ### Errors -/

set_option maxRecDepth 100000 in
theorem told_any (no : Nat) (pl : Int) (h : no ≤ 24) (h1 : 0 ≤ pl → 1 ≤ no) (w : World) (hg : Er.Handle w) :
    Calls Tryd.prog 33 #[errP no pl, nun no, nu pl] w fun e w' => e = .returned (.bool true) ∧ Below w.heap.size w w' := by
  unfold errP
  by_cases hp : pl < 0
  · rw [if_pos hp]
    have c1 := Hid.mk' (plainA no h w hg)
    generalize errE no = ev at *
    clear hg h1
    go_enter Tryd.func33, Tryd.ntmps33
    go_wp2_with fail
    refine c1.out.mono ?_
    rintro e w1 ⟨rfl, hb⟩
    have HB := Hid.mk' hb
    clear hb
    go_wp2
    go_ret
    exact ⟨rfl, HB.out⟩
  · rw [if_neg hp]
    have c1 := Hid.mk' (Er.at_at no pl (h1 (by omega)) h w hg)
    unfold Er.atV at c1
    clear hg h1
    go_enter Tryd.func33, Tryd.ntmps33
    go_wp2_with fail
    refine c1.out.mono ?_
    rintro e w1 ⟨rfl, hb⟩
    have HB := Hid.mk' hb
    clear hb
    go_wp2
    go_ret
    exact ⟨rfl, HB.out⟩

theorem push_no (S : List Slt) (l i : Int) : (push S l i).no ≤ 24 ∧ (0 ≤ (push S l i).pl → 1 ≤ (push S l i).no) := by
  unfold push
  repeat' split
  all_goals simp

theorem drop_no (S : List Slt) (l i : Int) : (drop S l i).no ≤ 24 ∧ (0 ≤ (drop S l i).pl → 1 ≤ (drop S l i).no) := by
  unfold drop
  repeat' split
  all_goals simp

theorem splice_no (S : List Slt) (l i : Int) : (splice S l i).no ≤ 24 ∧ (0 ≤ (splice S l i).pl → 1 ≤ (splice S l i).no) := by
  unfold splice
  repeat' split
  all_goals simp

/-! ### The slots hold the same -/

theorem at_in (A : Arn) (k : Nat) (h : k < 32) : A.at k = A.sl.getD k bare ∧ Arn.atE k = 0 := by
  unfold Arn.at Arn.atE
  rw [if_pos (by omega), if_pos (by omega), Int.toNat_natCast]
  exact ⟨rfl, rfl⟩

set_option maxRecDepth 100000 in
set_option maxHeartbeats 2000000 in
theorem same_any {Rep : World → Nat → (Nat → Prop) → Arn → Prop} (H : KeepC Rep) (CG : GetC Rep) (base : Nat) (w : World) (p g : Nat) (F G : Nat → Prop) (A1 A2 : Arn) (h : Rep w p F A1) (hr : RepA base w g G A2) (hg : An.Good A1) (hs : A1.sl = A2.sl) :
    Calls Tryd.prog 14 #[ptr p, ptr g] w fun e w' => e = .returned (.bool true) ∧ Below w.heap.size w w' := by
  have hl2 : A2.sl.length = 32 := by rw [← hs]; exact hg.len
  obtain ⟨b, cap, fv, hRA, ⟨hc1, hc2⟩, _, _⟩ := RepA.open hr hl2
  have cG : Hid (∀ wx (k : Nat), k < 32 → Below w.heap.size w wx → Calls Tryd.prog 24 #[ptr p, nu k] wx fun e w' => e = .returned (.tuple #[(A2.sl.getD k bare).v, .nilIface]) ∧ Below wx.heap.size wx w') := fun wx k hk hb => by
    have := CG wx p F A1 k (H.below h hb) hg (by omega)
    rw [(at_in A1 k hk).1, (at_in A1 k hk).2, hs] at this
    exact this
  have HR : Hid (∀ wx, Below w.heap.size w wx → wx.cell? ⟨g, 0, none⟩ = some (.slice (some ⟨b, 0, none⟩) 32 cap) ∧ ∀ k : Nat, k < 32 → wx.rangeAt b (k * 17) (A2.sl.getD k bare).cells) := fun wx hb => by
    have hx := hRA.below hb
    refine ⟨hx.cells.1, fun k hk => ?_⟩
    obtain ⟨b', cap', e, _, _, hr', _⟩ := hx.slot hl2 k hk
    simp only [Value.slice.injEq, Option.some.injEq, Addr.mk.injEq, and_true, true_and] at e
    obtain ⟨rfl, rfl⟩ := e
    exact hr'
  clear H CG h hr hg hs hRA hl2
  go_enter Tryd.func14, Tryd.ntmps14
  go_wp2
  go_loopw [5] (fun iv wr => ∃ k : Nat, k ≤ 32 ∧ iv = nun k ∧ Hid (Below w.heap.size w wr)) (fun iv _ => 32 - (intOf iv).toNat)
  case atStart => exact ⟨0, by omega, rfl, Below.refl _ _⟩
  case round =>
    obtain ⟨k, hk, rfl, HB⟩ := hrel
    by_cases hlt : k < 32
    · have hkI : (k : Int) < 32 := by omega
      have c1 := Hid.mk' (cG.out wr k hlt HB.out)
      obtain ⟨x, hx⟩ : ∃ x, A2.sl.getD k bare = x := ⟨_, rfl⟩
      have HRx : Hid (∀ wx, Below w.heap.size w wx → wx.cell? ⟨g, 0, none⟩ = some (.slice (some ⟨b, 0, none⟩) 32 cap) ∧ wx.rangeAt b (k * 17) x.cells) := fun wx hb => ⟨(HR.out wx hb).1, by rw [← hx]; exact (HR.out wx hb).2 k hlt⟩
      rw [hx] at c1
      have hnq := neq_self x
      clear hx
      go_wp2_with fail
      refine c1.out.mono ?_
      rintro e w3 ⟨rfl, hb3⟩
      have HB3 : Hid (Below w.heap.size w w3) := HB.out.trans (hb3.mono HB.out.size)
      have HZ3 := Hid.mk' (lone_zero w3)
      clear hb3 c1
      go_wp2_with (first | (refine wpList_store_lone rfl _ _ rfl w3.heap.size rfl x rfl slt0 HZ3.out ?_; intro w4 hl4 hg4 hs4; have HL4 := Hid.mk' hl4; have HB4 : Hid (Below w.heap.size w w4) := ((HB3.out.alloc HB3.out.size _).grown hg4 (HB3.out.alloc HB3.out.size _).size (fun r e => by cases e; exact HB3.out.size)); clear hl4 hg4 hs4) | fail)
      have hS4 : Lone w4 w3.heap.size x ∧ w4.cell? ⟨g, 0, none⟩ = some (.slice (some ⟨b, 0, none⟩) 32 cap) ∧ w4.rangeAt b (k * 17) x.cells := ⟨HL4.out, HRx.out w4 HB4.out⟩
      refine wp_region_held_drew (S := fun w' => Lone w' w3.heap.size x ∧ w'.cell? ⟨g, 0, none⟩ = some (.slice (some ⟨b, 0, none⟩) 32 cap) ∧ w'.rangeAt b (k * 17) x.cells) (by kernel_rfl) hS4 (fun hHeld => ?_)
      refine wpAnyH_take (i := 0) (v := ?_) rfl (by kernel_rfl) (by kernel_rfl) (by kernel_rfl) (fun _ _ _ h => h) (Or.inl ⟨by rfl, ?_⟩) hHeld ?_
      rotate_left
      · (intro w' hS'; go_simp <;> with_reducible rfl)
      simp only [Act.put, List.getElem_toArray, List.getElem_cons_succ, List.getElem_cons_zero, List.setIfInBounds_toArray, List.set]
      refine wpAnyH_take (i := 1) (v := ?_) rfl (by kernel_rfl) (by kernel_rfl) (by kernel_rfl) (fun _ _ _ h => h) (Or.inl ⟨by rfl, ?_⟩) hHeld ?_
      rotate_left
      · (intro w' hS'; go_simp <;> with_reducible rfl)
      simp only [Act.put, List.getElem_toArray, List.getElem_cons_succ, List.getElem_cons_zero, List.setIfInBounds_toArray, List.set]
      refine wpAnyH_take (i := 2) (v := ?_) rfl (by kernel_rfl) (by kernel_rfl) (by kernel_rfl) (fun _ _ _ h => h) (Or.inl ⟨by rfl, ?_⟩) hHeld ?_
      rotate_left
      · (intro w' hS'; go_simp <;> with_reducible rfl)
      simp only [Act.put, List.getElem_toArray, List.getElem_cons_succ, List.getElem_cons_zero, List.setIfInBounds_toArray, List.set]
      refine wpAnyH_take (i := 3) (v := _) rfl (by kernel_rfl) (by kernel_rfl) (by kernel_rfl) (fun _ _ _ h => h) (yieldsIf_load_mid (by rfl) 52 _ rfl w3.heap.size 0 rfl x.cells _ (fun w' h => h.1.range) Tryd.underlying52 rfl size_slt) hHeld ?_
      simp only [Act.put, List.getElem_toArray, List.getElem_cons_succ, List.getElem_cons_zero, List.setIfInBounds_toArray, List.set]
      refine wpAnyH_take (i := 4) (v := ?_) rfl (by kernel_rfl) (by kernel_rfl) (by kernel_rfl) (fun _ _ _ h => h) (Or.inl ⟨by rfl, ?_⟩) hHeld ?_
      rotate_left
      · (intro w' hS'; go_simp <;> with_reducible rfl)
      simp only [Act.put, List.getElem_toArray, List.getElem_cons_succ, List.getElem_cons_zero, List.setIfInBounds_toArray, List.set]
      refine wpAnyH_take (i := 5) (v := ?_) rfl (by kernel_rfl) (by kernel_rfl) (by kernel_rfl) (fun _ _ _ h => h) (Or.inl ⟨by rfl, ?_⟩) hHeld ?_
      rotate_left
      · (intro w' hS'; go_simp <;> with_reducible rfl)
      simp only [Act.put, List.getElem_toArray, List.getElem_cons_succ, List.getElem_cons_zero, List.setIfInBounds_toArray, List.set]
      refine wpAnyH_take (i := 6) (v := ?_) rfl (by kernel_rfl) (by kernel_rfl) (by kernel_rfl) (fun _ _ _ h => h) (Or.inl ⟨by rfl, ?_⟩) hHeld ?_
      rotate_left
      · (intro w' hS'; go_simp <;> with_reducible rfl)
      simp only [Act.put, List.getElem_toArray, List.getElem_cons_succ, List.getElem_cons_zero, List.setIfInBounds_toArray, List.set]
      refine wpAnyH_take (i := 7) (v := ?_) rfl (by kernel_rfl) (by kernel_rfl) (by kernel_rfl) (fun _ _ _ h => h) (Or.inl ⟨by rfl, ?_⟩) hHeld ?_
      rotate_left
      · (intro w' hS'; go_simp <;> with_reducible rfl)
      simp only [Act.put, List.getElem_toArray, List.getElem_cons_succ, List.getElem_cons_zero, List.setIfInBounds_toArray, List.set]
      refine wpAnyH_take (i := 8) (v := ?_) rfl (by kernel_rfl) (by kernel_rfl) (by kernel_rfl) (fun _ _ _ h => h) (Or.inl ⟨by rfl, ?_⟩) hHeld ?_
      rotate_left
      · (intro w' hS'; go_simp <;> with_reducible rfl)
      simp only [Act.put, List.getElem_toArray, List.getElem_cons_succ, List.getElem_cons_zero, List.setIfInBounds_toArray, List.set]
      refine wpAnyH_take (i := 9) (v := ?_) rfl (by kernel_rfl) (by kernel_rfl) (by kernel_rfl) (fun _ _ _ h => h) (Or.inl ⟨by rfl, ?_⟩) hHeld ?_
      rotate_left
      · (intro w' hS'; go_simp <;> with_reducible rfl)
      simp only [Act.put, List.getElem_toArray, List.getElem_cons_succ, List.getElem_cons_zero, List.setIfInBounds_toArray, List.set]
      refine wpAnyH_take (i := 10) (v := _) rfl (by kernel_rfl) (by kernel_rfl) (by kernel_rfl) (fun _ _ _ h => h) (yieldsIf_load_mid (by rfl) 52 _ rfl b (k * 17) rfl x.cells _ (fun w' h => h.2.2) Tryd.underlying52 rfl size_slt) hHeld ?_
      simp only [Act.put, List.getElem_toArray, List.getElem_cons_succ, List.getElem_cons_zero, List.setIfInBounds_toArray, List.set]
      refine wpAnyH_take (i := 11) (v := ?_) rfl (by kernel_rfl) (by kernel_rfl) (by kernel_rfl) (fun _ _ _ h => h) (Or.inl ⟨by rfl, ?_⟩) hHeld ?_
      rotate_left
      · (intro w' hS'; go_simp <;> with_reducible rfl)
      simp only [Act.put, List.getElem_toArray, List.getElem_cons_succ, List.getElem_cons_zero, List.setIfInBounds_toArray, List.set]
      refine wpAnyH_take (i := 12) (v := ?_) rfl (by kernel_rfl) (by kernel_rfl) (by kernel_rfl) (fun _ _ _ h => h) (Or.inl ⟨by rfl, ?_⟩) hHeld ?_
      rotate_left
      · (intro w' hS'; go_simp <;> with_reducible rfl)
      simp only [Act.put, List.getElem_toArray, List.getElem_cons_succ, List.getElem_cons_zero, List.setIfInBounds_toArray, List.set]
      refine wpAnyH_done (by kernel_rfl) ?_ _
      have HB5 : Hid (Below w.heap.size w w4.drew) := HB4.out.drew
      generalize w4.drew = w5 at *
      clear hHeld hS4
      go_wp2
      go_roundw
      case rel => exact ⟨k + 1, by omega, by go_num, HB5⟩
      case measure => simp [intOf]; omega
    · obtain rfl : k = 32 := by omega
      go_wp2
      go_ret
      exact ⟨rfl, HB.out⟩
end Rg
end Go.Proofs.YtckgecmcjnhceaaDoor
