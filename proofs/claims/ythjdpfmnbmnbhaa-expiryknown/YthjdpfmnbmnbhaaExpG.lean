/- The program's expiry: how it lies: a map from slots to births, a heap of the same slots by their deadlines. -/
import Derived.Test.YthjdpfmnbmnbhaaExpC
import Derived.Test.YthjdpfmnbmnbhaaHqY
import Derived.Maps.OwnSet
namespace Go.Proofs.Ythjdpfmnbmnbhaa
set_option linter.ambiguousOpen false
open Go.RowKit Go.Maps
namespace Ex
open Hh Ft Hq
set_option linter.unusedSimpArgs false
set_option linter.unusedVariables false

theorem len_dropL (s : Int) : ∀ L : List En, L.Pairwise (fun x y => x.s ≠ y.s) → (dropE L s).length + (if hasE L s = true then 1 else 0) = L.length
  | [], _ => rfl
  | x :: L, h => by
    obtain ⟨h1, h2⟩ := List.pairwise_cons.1 h
    have ih := len_dropL s L h2
    unfold dropE hasE at ih ⊢
    rw [List.filter_cons, List.any_cons]
    by_cases e : x.s = s
    · have hb : (x.s == s) = true := by simpa using e
      have hn : L.any (fun x => x.s == s) = false := by
        rw [List.any_eq_false]
        intro y hy
        have := h1 y hy
        simp only [beq_iff_eq]
        omega
      rw [hn] at ih
      simp only [hb, Bool.not_true, Bool.false_eq_true, if_false, Bool.true_or, if_true, List.length_cons] at ih ⊢
      omega
    · have hb : (x.s == s) = false := by simpa using e
      simp only [hb, Bool.not_false, if_true, Bool.false_or, List.length_cons] at ih ⊢
      omega

theorem Ge.nd {L : List En} (h : Ge L) : L.Pairwise (fun x y => x.s ≠ y.s) := by
  have := h.hk.nd
  unfold its at this
  rw [List.pairwise_map] at this
  exact this

theorem hasE_set (L : List En) (x : En) (s : Int) : hasE (setE L x) s = (decide (s = x.s) || hasE L s) := by
  rw [Bool.eq_iff_iff]
  unfold hasE
  simp only [List.any_eq_true, Bool.or_eq_true, decide_eq_true_eq, beq_iff_eq]
  constructor
  · rintro ⟨y, hy, rfl⟩
    rcases mem_setE.1 hy with rfl | ⟨h1, h2⟩
    · exact .inl rfl
    · exact .inr ⟨y, h1, rfl⟩
  · intro h
    by_cases e : s = x.s
    · exact ⟨x, mem_setE.2 (.inl rfl), e.symm⟩
    · rcases h with h | ⟨y, h1, rfl⟩
      · exact absurd h e
      · exact ⟨y, mem_setE.2 (.inr ⟨h1, e⟩), rfl⟩

theorem hasE_drop (L : List En) (s r : Int) : hasE (dropE L s) r = (!decide (r = s) && hasE L r) := by
  rw [Bool.eq_iff_iff]
  unfold hasE
  simp only [List.any_eq_true, Bool.and_eq_true, Bool.not_eq_true', decide_eq_false_iff_not, beq_iff_eq]
  constructor
  · rintro ⟨y, hy, rfl⟩
    obtain ⟨h1, h2⟩ := mem_dropE.1 hy
    exact ⟨h2, y, h1, rfl⟩
  · rintro ⟨h1, y, h2, rfl⟩
    exact ⟨y, mem_dropE.2 ⟨h2, h1⟩, rfl⟩

theorem len_set (L : List En) (x : En) : (setE L x).length = (dropE L x.s).length + 1 := by
  unfold setE
  rw [List.length_append, List.length_cons]
  conv => rhs; rw [← List.takeWhile_append_dropWhile (p := fun y => ehd y x) (l := dropE L x.s), List.length_append]
  omega

/-- What the map of births holds. -/
structure BD (D : DataW Unit) (L : List En) : Prop where
  at_ : ∀ x ∈ L, D.atKey (.int .i64 x.s) (.lit (.int .i64 0)) = .lit (.int .i64 x.b)
  has : ∀ s, Maps.has D (.int .i64 s) = hasE L s
  size : Maps.size D = L.length

theorem BD.nil : BD (.map []) [] := ⟨by simp, fun s => rfl, rfl⟩

theorem key_ne {a b : Int} (h : a ≠ b) : (Lit.int .i64 a) ≠ Lit.int .i64 b := fun e => h (by injection e)

theorem BD.put {D : DataW Unit} {L : List En} (h : BD D L) (ht : Tidy D) (hn : L.Pairwise (fun x y => x.s ≠ y.s)) (x : En) : BD (D.put (.int .i64 x.s) (.lit (.int .i64 x.b))) (setE L x) := by
  have hk : WideAt.IsKeyLit (Lit.int .i64 x.s) := trivial
  refine ⟨fun y hy => ?_, fun s => ?_, ?_⟩
  · rcases mem_setE.1 hy with rfl | ⟨h1, h2⟩
    · exact atKey_put_same ht.isMap hk _ _
    · rw [atKey_put_other (key_ne h2)]
      exact h.at_ y h1
  · rw [hasE_set]
    by_cases e : s = x.s
    · subst e
      rw [has_put_same ht.isMap hk]
      simp
    · rw [has_put_other (key_ne e), h.has]
      simp [e]
  · rw [size_put ht, h.has, h.size, len_set]
    have := len_dropL x.s L hn
    split <;> simp_all <;> omega

theorem BD.del {D : DataW Unit} {L : List En} (h : BD D L) (ht : Tidy D) (hn : L.Pairwise (fun x y => x.s ≠ y.s)) (s : Int) : BD (D.del (.int .i64 s)) (dropE L s) := by
  refine ⟨fun y hy => ?_, fun r => ?_, ?_⟩
  · obtain ⟨h1, h2⟩ := mem_dropE.1 hy
    rw [atKey_del_other (key_ne h2)]
    exact h.at_ y h1
  · rw [hasE_drop]
    by_cases e : r = s
    · subst e
      rw [has_del_same]
      simp
    · rw [has_del_other (key_ne e), h.has]
      simp [e]
  · have h1 := size_del (k := Lit.int .i64 s) ht
    rw [h.has, h.size] at h1
    have h2 := len_dropL s L hn
    omega

/-- The map that stands in a block. -/
@[reducible] def MapB (w : World) (bm : Nat) (D : DataW Unit) : Prop := w.ownsMap Try.prog 3 (plainElem Try.prog 3) bm 32 D

theorem map_trim {w : World} {bm n m : Nat} {D : DataW Unit} (h : w.ownsMap Try.prog 3 (plainElem Try.prog 3) bm n D) (hs : Maps.size D ≤ m) : w.ownsMap Try.prog 3 (plainElem Try.prog 3) bm m D := by
  obtain ⟨es, clock, hb, F, hn, rfl⟩ := h
  refine ⟨es, clock, hb, F, ?_, rfl⟩
  rw [size_eq, length_sorted] at hs
  simpa using hs

theorem map_keep {w w' : World} {bm n : Nat} {D : DataW Unit} {G : Nat → Prop} (h : w.ownsMap Try.prog 3 (plainElem Try.prog 3) bm n D) (hk : Keep G w w') (hn : ¬ G bm) : w'.ownsMap Try.prog 3 (plainElem Try.prog 3) bm n D := by
  obtain ⟨es, clock, hb, r⟩ := h
  exact ⟨es, clock, hk.at hb hn, r⟩

theorem turned_keep {w w' : World} {bm : Nat} (h : w.mapTurned w' bm) : Keep (fun k => k = bm) w w' := by
  have hg := h.grown
  exact ⟨hg.os, hg.tape, hg.output, hg.size, fun k hk hn => hg.block k hk (fun e => hn (by injection e))⟩

/-- How the program's expiry lies. -/
structure LayX (w : World) (p bm h : Nat) (Fh : Nat → Prop) (D : DataW Unit) (L : List En) : Prop where
  blk : w.heap[p]? = some (.cells #[.map (some bm), ptr h] 49)
  map : MapB w bm D
  heap : RepQ w h Fh 32 (its L)
  ge : Ge L
  bd : BD D L
  n1 : p ≠ bm
  n2 : ¬ Fh p
  n3 : ¬ Fh bm

@[reducible] def footX (p bm : Nat) (Fh : Nat → Prop) : Nat → Prop := fun k => k = p ∨ k = bm ∨ Fh k

def RepX : RepXT := fun w p F L => ∃ bm h Fh D, LayX w p bm h Fh D L ∧ F = footX p bm Fh

section
variable {w w' : World} {p bm h : Nat} {Fh F G : Nat → Prop} {D : DataW Unit} {L : List En}

theorem LayX.keep (hl : LayX w p bm h Fh D L) (hk : Keep G w w') (hn : ∀ k, footX p bm Fh k → ¬ G k) : LayX w' p bm h Fh D L :=
  ⟨hk.at hl.blk (hn p (.inl rfl)), map_keep hl.map hk (hn bm (.inr (.inl rfl))), rep_keep hl.heap hk (fun k hk2 => hn k (.inr (.inr hk2))), hl.ge, hl.bd, hl.n1, hl.n2, hl.n3⟩

theorem LayX.below (hl : LayX w p bm h Fh D L) (hb : Below w.heap.size w w') : LayX w' p bm h Fh D L := hl.keep (Keep.of_below (F := fun _ => False) hb) (fun _ _ e => e)

theorem LayX.lt (hl : LayX w p bm h Fh D L) : ∀ k, footX p bm Fh k → k < w.heap.size := by
  rintro k (rfl | rfl | hk)
  · exact (Array.getElem?_eq_some_iff.1 hl.blk).1
  · exact hl.map.lt
  · exact rep_lt hl.heap k hk

theorem LayX.cells (hl : LayX w p bm h Fh D L) : w.cell? ⟨p, 0, none⟩ = some (.map (some bm)) ∧ w.cell? ⟨p, 1, none⟩ = some (ptr h) :=
  ⟨by rw [cell_of_row w p 0 _ _ _ hl.blk]; rfl, by rw [cell_of_row w p 1 _ _ _ hl.blk]; rfl⟩

theorem repX_keep (hr : RepX w p F L) (hk : Keep G w w') (hn : ∀ k, F k → ¬ G k) : RepX w' p F L := by
  obtain ⟨bm, h, Fh, D, h1, rfl⟩ := hr
  exact ⟨bm, h, Fh, D, h1.keep hk hn, rfl⟩

theorem repX_below (hr : RepX w p F L) (hb : Below w.heap.size w w') : RepX w' p F L := repX_keep hr (Keep.of_below (F := fun _ => False) hb) (fun _ _ e => e)

theorem repX_lt (hr : RepX w p F L) : ∀ k, F k → k < w.heap.size := by
  obtain ⟨bm, h, Fh, D, h1, rfl⟩ := hr
  exact h1.lt

theorem repX_ge (hr : RepX w p F L) : Ge L := by
  obtain ⟨bm, h, Fh, D, h1, rfl⟩ := hr
  exact h1.ge

/-- The map turned, then the heap: what is left. -/
theorem LayX.turn {w1 w2 : World} {D' : DataW Unit} {L' : List En} {n : Nat} (hl : LayX w p bm h Fh D L) (hm : w1.ownsMap Try.prog 3 (plainElem Try.prog 3) bm n D') (h1 : Keep (fun k => k = bm) w w1) (hh : LeftH RepQ w1 w2 h Fh 32 (its L')) (hg : Ge L') (hb : BD D' L') : LeftX RepX w w2 p (footX p bm Fh) L' := by
  obtain ⟨Fh', r1, r2, r3⟩ := hh
  have hs1 := h1.size
  have hlt := hl.lt
  have hm' : MapB w1 bm D' := map_trim hm (by rw [hb.size]; exact hg.few)
  refine ⟨footX p bm Fh', ⟨bm, h, Fh', D', ⟨?_, map_keep hm' r2 hl.n3, r1, hg, hb, hl.n1, fun e => ?_, fun e => ?_⟩, rfl⟩, ?_, ?_⟩
  · exact r2.at (h1.at hl.blk hl.n1) hl.n2
  · rcases r3 p e with e | e
    · exact hl.n2 e
    · have := hlt p (.inl rfl)
      omega
  · rcases r3 bm e with e | e
    · exact hl.n3 e
    · have := hlt bm (.inr (.inl rfl))
      omega
  · exact (h1.weaken (fun k _ e => .inr (.inl e))).trans r2 (fun k _ e => .inr (.inr e))
  · rintro k (e | e | e)
    · exact .inl (.inl e)
    · exact .inl (.inr (.inl e))
    · rcases r3 k e with e | e
      · exact .inl (.inr (.inr e))
      · exact .inr (by omega)
end

theorem nextE_its (L : List En) : fstK (its L) = nextE L := by cases L <;> rfl

theorem snextE_its (L : List En) : (!(its L).isEmpty) = snextE L := by cases L <;> rfl

theorem keyed_int : Keyed Try.prog 3 := int_keyed Try.underlying3

theorem zero_int (w : World) : (zeroValue 3).run Try.prog w = .ok (.int .i64 0) w := by kernel_rfl

set_option maxRecDepth 100000 in
theorem newX_p (w : World) : Calls Try.prog 6 #[] w fun e w' => ∃ p F, e = .returned (ptr p) ∧ RepX w' p F [] ∧ (∀ k, F k → w.heap.size ≤ k) ∧ Below w.heap.size w w' := by
  have c1 : Hid (Calls Try.prog 14 #[nu 32] w fun e w' => ∃ h Fh, e = .returned (.tuple #[ptr h, .nilIface]) ∧ Hid (Below w.heap.size w w' ∧ RepQ w' h Fh 32 [] ∧ (∀ k, Fh k → w.heap.size ≤ k))) := by
    refine (new_p w 32).mono ?_
    rintro e w' ⟨h1, h2⟩
    rw [if_neg (by omega)] at h2
    obtain ⟨h, Fh, rfl, h3, h4⟩ := h2
    exact ⟨h, Fh, rfl, h1, h3, h4⟩
  have hmm := @run_makeMap Try.prog
  go_enter Try.func6, Try.ntmps6
  go_wp2_with fail
  refine c1.out.mono ?_
  rintro e w1 ⟨h, Fh, rfl, HQ⟩
  go_wp2
  go_ret
  obtain ⟨hb, hq, hf⟩ := HQ.out
  have hs := hb.size
  have hB1 : Below w1.heap.size w1 (w1.alloc (.map #[] 0)) := (Below.refl _ _).alloc (Nat.le_refl _) _
  have hB2 : Below (w1.alloc (.map #[] 0)).heap.size (w1.alloc (.map #[] 0)) ((w1.alloc (.map #[] 0)).alloc (.cells #[.map (some w1.heap.size), ptr h] 49)) := (Below.refl _ _).alloc (Nat.le_refl _) _
  have hlt := rep_lt hq
  refine ⟨_, footX (w1.heap.size + 1) w1.heap.size Fh, rfl, ⟨w1.heap.size, h, Fh, .map [], ⟨by have := heap_alloc_new (w1.alloc (.map #[] 0)) (.cells #[.map (some w1.heap.size), ptr h] 49); rwa [World.size_alloc] at this, ?_, ?_, Ge.nil, BD.nil, by omega, fun e => ?_, fun e => ?_⟩, rfl⟩, ?_, ?_⟩
  · exact (map_trim (m := 32) (World.ownsMap_made w1 _ _ _) (by simp [Maps.size])).alloc _
  · exact rep_keep (rep_keep hq (Keep.of_below (F := fun _ => False) hB1) (fun _ _ e => e)) (Keep.of_below (F := fun _ => False) hB2) (fun _ _ e => e)
  · have := hlt _ e
    omega
  · have := hlt _ e
    omega
  · rintro k (e | e | e)
    · rw [e]
      omega
    · rw [e]
      exact hs
    · exact hf k e
  · exact (hb.alloc hs _).alloc (by simp; omega) _

set_option maxRecDepth 100000 in
theorem nextX_p (w : World) (p : Nat) (F : Nat → Prop) (L : List En) (hr : RepX w p F L) : Calls Try.prog 10 #[ptr p] w fun e w' => e = .returned (.tuple #[nu (nextE L), .bool (snextE L)]) ∧ Below w.heap.size w w' := by
  obtain ⟨bm, h, Fh, D, h1, rfl⟩ := hr
  have c1 := Hid.mk' (leastq_p w h Fh 32 (its L) h1.heap h1.ge.hk)
  rw [nextE_its, snextE_its] at c1
  obtain ⟨q0, q1⟩ := h1.cells
  clear h1
  go_enter Try.func10, Try.ntmps10
  go_wp2_with fail
  refine c1.out.mono ?_
  rintro e w1 ⟨rfl, hb⟩
  have HB := Hid.mk' hb
  clear hb
  go_wp2
  go_ret2
  exact ⟨rfl, HB.out⟩

set_option maxRecDepth 100000 in
theorem forgetX_p (w : World) (p : Nat) (F : Nat → Prop) (L : List En) (s : Int) (hr : RepX w p F L) (hs : I64e s) : Calls Try.prog 11 #[ptr p, nu s] w fun e w' => e = .returned (.bool (hasE L s)) ∧ LeftX RepX w w' p F (dropE L s) := by
  obtain ⟨bm, h, Fh, D, h1, rfl⟩ := hr
  have hkey := keyOf_int_mk Try.underlying3 (q := .i64) (a := s) (WalkArith.wf_i64 (by omega))
  obtain ⟨q0, q1⟩ := h1.cells
  have HL := Hid.mk' h1
  have HM := Hid.mk' h1.map
  have HQ1 : Hid (∀ w1, w.mapTurned w1 bm → w1.cell? ⟨p, 1, none⟩ = some (ptr h)) := fun w1 ht => by
    rw [(turned_keep ht).cell (p := ⟨p, 1, none⟩) (h1.lt p (.inl rfl)) h1.n1]
    exact q1
  clear h1 hs
  go_enter Try.func11, Try.ntmps11
  go_wp2_with (first | (at_delete; refine wpList_delete_own _ rfl _ _ 47 3 rfl 3 keyed_int Try.underlying47 _ bm 32 D rfl HM.out _ _ rfl hkey ?_; intro w1 hown1 hturn1; have HOW := Hid.mk' hown1; have HTU := Hid.mk' hturn1; have q1' := HQ1.out w1 hturn1; clear hown1 hturn1) | fail)
  have hown1 := HOW.out
  have hk1 := turned_keep HTU.out
  have hq : RepQ w1 h Fh 32 (its L) := rep_keep HL.out.heap hk1 (fun k hk e => HL.out.n3 (e ▸ hk))
  have c1 : Hid (Calls Try.prog 21 #[ptr h, nu s] w1 fun e w' => e = .returned (.bool (hasE L s)) ∧ Hid (LeftX RepX w w' p (footX p bm Fh) (dropE L s))) := by
    refine (drop_p w1 h Fh 32 (its L) s hq HL.out.ge.hk).mono ?_
    rintro e w' ⟨rfl, hl⟩
    rw [has_its]
    rw [← its_drop] at hl
    exact ⟨rfl, HL.out.turn hown1 hk1 hl (HL.out.ge.drop s) (HL.out.bd.del (HL.out.map.tidy keyed_int) HL.out.ge.nd s)⟩
  clear hown1 hk1 hq q0 q1 HM hkey HQ1
  go_wp2_with fail
  refine c1.out.mono ?_
  rintro e w2 ⟨rfl, HE⟩
  go_wp2
  go_ret
  exact ⟨rfl, HE.out⟩
end Ex
end Go.Proofs.Ythjdpfmnbmnbhaa
