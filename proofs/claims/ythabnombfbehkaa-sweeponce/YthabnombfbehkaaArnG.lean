import Derived.Test.YthabnombfbehkaaArnC
import Derived.Test.YthabnombfbehkaaArM
import Derived.Test.YthabnombfbehkaaShelf
/- The program's arena: how it lies; what only asks; Get, Put, Take, Writes. -/
namespace Go.Proofs.Ythabnombfbehkaa
set_option linter.ambiguousOpen false
open Go.RowKit
namespace An
open Ft Lv
set_option linter.unusedSimpArgs false
set_option linter.unusedVariables false

/-- Its cells: the slots, the list of free ones, the writes. -/
def pcs (A : Arn) (fv : Value) : List Value := scs A.sl ++ [fv, nun A.wr]

/-- It lies in the block p; the free ones lie in fv, the first one last. -/
structure PAn (w : World) (p : Nat) (fv : Value) (A : Arn) : Prop where
  blk : w.heap[p]? = some (.cells (pcs A fv).toArray 77)
  len : A.sl.length = 32
  fr : w.ownsRow 0 3 1 fv A.fr.length (A.fr.reverse.map nun)

/-- Where it lies. -/
def pfp (p : Nat) (fv : Value) (k : Nat) : Prop := k = p ∨ fv.ownBlock = some k

def RepP (w : World) (p : Nat) (F : Nat → Prop) (A : Arn) : Prop := ∃ fv, PAn w p fv A ∧ F = pfp p fv

section
variable {w w' : World} {p : Nat} {fv : Value} {A : Arn}

theorem PAn.plt (h : PAn w p fv A) : p < w.heap.size := (Array.getElem?_eq_some_iff.1 h.blk).1

theorem PAn.slen (h : PAn w p fv A) : (scs A.sl).length = 544 := by rw [scs_len, h.len]

theorem PAn.lt (h : PAn w p fv A) (k : Nat) (hk : pfp p fv k) : k < w.heap.size := by
  rcases hk with rfl | hk
  · exact h.plt
  · exact (h.fr.lt k hk).2

theorem PAn.keep (h : PAn w p fv A) {G : Nat → Prop} (hk : Keep G w w') (hn : ∀ k, pfp p fv k → ¬ G k) : PAn w' p fv A :=
  ⟨(hk.block p h.plt (hn p (.inl rfl))).trans h.blk, h.len, hk.own h.fr (fun k hkk => hn k (.inr hkk))⟩

theorem PAn.below (h : PAn w p fv A) (hb : Below w.heap.size w w') : PAn w' p fv A :=
  h.keep (Keep.of_below (F := fun _ => False) hb) (fun _ _ h => h)

theorem PAn.cells (h : PAn w p fv A) : w.cell? ⟨p, 544, none⟩ = some fv ∧ w.cell? ⟨p, 545, none⟩ = some (nun A.wr) ∧ ∀ i, w.frozen? ⟨p, i, none⟩ = false := by
  have hl := h.slen
  refine ⟨?_, ?_, fun i => by simp [World.frozen?, h.blk]⟩
  · rw [cell_of_row w p 544 _ _ _ h.blk, List.getElem?_toArray, pcs, List.getElem?_append_right (by omega), hl]
    rfl
  · rw [cell_of_row w p 545 _ _ _ h.blk, List.getElem?_toArray, pcs, List.getElem?_append_right (by omega), hl]
    rfl

theorem PAn.ne (h : PAn w p fv A) : fv.ownBlock ≠ some p := fun e => by
  obtain ⟨c, hc, _⟩ := own_cellsT h.fr e
  rw [h.blk] at hc
  simp at hc

theorem PAn.slot (h : PAn w p fv A) (k : Nat) (hk : k < 32) : w.rangeAt p (k * 17) (A.sl.getD k bare).cells := fun j v hv => by
  have hj : j < 17 := (List.getElem?_eq_some_iff.1 hv).1
  have hx : A.sl[k]? = some (A.sl.getD k bare) := by
    rw [List.getD_eq_getElem?_getD, List.getElem?_eq_getElem (by have := h.len; omega)]
    rfl
  rw [cell_of_row w p _ _ _ _ h.blk, List.getElem?_toArray, pcs, List.getElem?_append_left (by have := h.slen; omega), scs_at A.sl k _ hx j hj]
  exact hv

theorem PAn.thereAt (h : PAn w p fv A) (k : Nat) (hk : k < 32) : w.there p (k * 17) 17 := fun j hj => by
  refine ⟨?_, h.cells.2.2 _⟩
  rw [cell_of_row w p _ _ _ _ h.blk, List.getElem?_toArray, pcs, List.getElem?_append_left (by have := h.slen; omega), List.getElem?_eq_getElem (by have := h.slen; omega)]
  rfl

theorem PAn.stored (h : PAn w p fv A) (k : Nat) (hk : k < 32) (x : Slt) : PAn (w.setCells p (k * 17) x.cells) p fv ⟨A.sl.set k x, A.fr, A.wr⟩ := by
  have hG := grown_setCells p x.cells (k * 17) w
  have hl := h.slen
  have hll := h.len
  obtain ⟨C', e1, e2⟩ := heap_setCells p _ x.cells (k * 17) w (pcs A fv).toArray h.blk (by rw [Slt.len, List.size_toArray, pcs, List.length_append]; simp; omega)
  refine ⟨?_, by simpa using h.len, h.fr.kept hG (.inr h.ne)⟩
  rw [e1]
  refine congrArg (fun c => some (Obj.cells c 77 (0, 0))) (Array.toList_inj.1 ?_)
  rw [e2, Slt.len]
  simp only [pcs]
  rw [scs_set A.sl k x (by omega), List.take_append_of_le_length (by omega), List.drop_append_of_le_length (by omega)]
  simp only [List.append_assoc]

theorem PAn.counted (h : PAn w p fv A) (n : Nat) : PAn (w.setCell ⟨p, 545, none⟩ (nun n)) p fv ⟨A.sl, A.fr, n⟩ := by
  have hG : w.grownBy (w.setCell ⟨p, 545, none⟩ (nun n)) (some p) := ⟨rfl, rfl, rfl, by simp, fun k hk hn => Below.heap_setCell _ _ _ k (fun e => hn (by rw [e]))⟩
  have hl := h.slen
  refine ⟨?_, h.len, h.fr.kept hG (.inr h.ne)⟩
  rw [heap_setCell_same _ p 545 _ _ _ h.blk]
  refine congrArg (fun c => some (Obj.cells c 77 (0, 0))) ?_
  simp only [pcs, List.setIfInBounds_toArray]
  rw [List.set_append_right _ _ (by omega), hl]
  rfl

theorem PAn.setFree (h : PAn w p fv A) {lv : Value} {l : List Nat} (ho : w.ownsRow 0 3 1 lv l.length (l.reverse.map nun)) : PAn (w.setCell ⟨p, 544, none⟩ lv) p lv ⟨A.sl, l, A.wr⟩ := by
  have hG : w.grownBy (w.setCell ⟨p, 544, none⟩ lv) (some p) := ⟨rfl, rfl, rfl, by simp, fun k hk hn => Below.heap_setCell _ _ _ k (fun e => hn (by rw [e]))⟩
  have hl := h.slen
  have hne : lv.ownBlock ≠ some p := fun e => by
    obtain ⟨c, hc, _⟩ := own_cellsT ho e
    rw [h.blk] at hc
    simp at hc
  refine ⟨?_, h.len, ho.kept hG (.inr hne)⟩
  rw [heap_setCell_same _ p 544 _ _ _ h.blk]
  refine congrArg (fun c => some (Obj.cells c 77 (0, 0))) ?_
  simp only [pcs, List.setIfInBounds_toArray]
  rw [List.set_append_right _ _ (by omega), hl]
  rfl

/-- The free ones, one by one. -/
theorem PAn.freeAt (h : PAn w p fv A) (hp : 0 < A.fr.length) : ∃ b cap, fv = .slice (some ⟨b, 0, none⟩) A.fr.length cap ∧ A.fr.length ≤ cap ∧ cap ≤ maxLen ∧ b < w.heap.size ∧ ∀ k i, A.fr.reverse[k]? = some i → w.cell? ⟨b, k, none⟩ = some (nun i) := by
  rcases h.fr.2 with ⟨_, h1⟩ | ⟨b, cap, cur, rfl, hb, hc, h3, h4, h5, h6⟩
  · omega
  · refine ⟨b, cap, rfl, h3, h4, (Array.getElem?_eq_some_iff.1 hc).1, fun k i hi => ?_⟩
    have hk : k < A.fr.length := by simpa using (List.getElem?_eq_some_iff.1 hi).1
    have := h.fr.cellAt (g := b) (cap := cap) k (by omega)
    rw [this, List.getElem?_map, hi]
    rfl
end

theorem keepP : KeepC RepP := ⟨fun ⟨fv, h, e⟩ hk hn => ⟨fv, h.keep hk (fun k hkk => hn k (by rw [e]; exact hkk)), e⟩, fun ⟨fv, h, e⟩ k hk => h.lt k (by rw [← e]; exact hk)⟩

theorem leftP_self {w w' : World} {p : Nat} {fv : Value} {A : Arn} (h : PAn w' p fv A) (hk : Keep (pfp p fv) w w') : Left RepP w w' p (pfp p fv) A := ⟨pfp p fv, ⟨fv, h, rfl⟩, hk, Goes.refl _ _⟩

set_option maxRecDepth 100000 in
theorem isSlot_any (i : Int) (w : World) : Calls Try.prog 37 #[nu i] w fun e w' => e = .returned (.bool (decide (there i))) ∧ w' = w := by
  obtain ⟨r, hr⟩ : ∃ r, decide (there i) = r := ⟨_, rfl⟩
  rw [hr]
  unfold there at hr
  by_cases h1 : 0 ≤ i
  · have hm : r = decide (i < 32) := by rw [← hr]; exact decide_eq_decide.2 (by omega)
    clear hr
    subst hm
    go_enter Try.func37, Try.ntmps37
    go_wp2
    go_ret
    exact ⟨rfl, rfl⟩
  · have hm : r = false := by rw [← hr]; exact decide_eq_false (by omega)
    clear hr
    subst hm
    go_enter Try.func37, Try.ntmps37
    go_wp2
    go_ret
    exact ⟨rfl, rfl⟩

set_option maxRecDepth 100000 in
theorem bare_any (w : World) : Calls Try.prog 41 #[] w fun e w' => e = .returned bare.v ∧ w' = w.alloc (.cells bare.cells.toArray 49) := by
  go_enter Try.func41, Try.ntmps41
  go_wp2
  refine bodyPost_ret (results_cell_row rfl _ _ w.heap.size _ _ _ _ rfl (heap_alloc_new w _) Try.underlying49 rfl size_slt) rfl ?_
  exact ⟨rfl, rfl⟩

theorem clone_a (s : ByteArray) (w : World) (h : s.size ≤ 281474976710656) :
    Calls Try.prog 54 #[.string s] w fun e w' => e = .returned (.string s) ∧ Below w.heap.size w w' := by
  go_enter Try.func54, Try.ntmps54
  go_wp2_with (go_at_call 57; refine (Try.stringslite_Clone _ _ h).mono ?_; rintro e w1 ⟨rfl, hb1⟩)
  go_ret
  exact ⟨rfl, hb1⟩

/-- The slot's texts are copied: what own holds amid it. -/
def OwnA (w : World) (x : Slt) (u l : ByteArray) (w' : World) : Prop :=
  w'.cell? ⟨w.heap.size, 10, none⟩ = some (.string u) ∧ w'.cell? ⟨w.heap.size, 11, none⟩ = some (.string l) ∧ w'.frozen? ⟨w.heap.size, 10, none⟩ = false ∧ w'.frozen? ⟨w.heap.size, 11, none⟩ = false ∧ Lone w' w.heap.size x ∧ Lone w' (w.heap.size + 1) slt0 ∧ Below w.heap.size w w'

section
variable {w w' w2 : World} {x : Slt} {u l : ByteArray}

theorem cells_self {w : World} {b o : Nat} {cs : Array Value} {t : TypeId} {fr : Nat × Nat} {v : Value} (h : w.heap[b]? = some (.cells cs t fr)) (hv : cs[o]? = some v) : w.setCell ⟨b, o, none⟩ v = w := by
  obtain ⟨hb, e⟩ := Array.getElem?_eq_some_iff.1 h
  obtain ⟨ho, eo⟩ := Array.getElem?_eq_some_iff.1 hv
  have e1 : (w.setCell ⟨b, o, none⟩ v).heap = w.heap := by
    unfold World.setCell
    apply Array.ext
    · simp
    · intro i h1 h2
      simp only [Array.getElem_modify]
      split
      · rename_i q
        subst q
        rw [e]
        simp only [Option.isSome_none, Bool.false_eq_true, if_false, Obj.cells.injEq, and_true]
        apply Array.ext
        · simp
        · intro j k1 k2
          rw [Array.getElem_setIfInBounds]
          split
          · rename_i q2; subst q2; exact eo.symm
          · rfl
      · rfl
  show ({ w with heap := (w.setCell ⟨b, o, none⟩ v).heap } : World) = w
  rw [e1]

theorem lone_self {w : World} {b o : Nat} {x : Slt} {v : Value} (h : Lone w b x) (hv : x.cells.toArray[o]? = some v) : w.setCell ⟨b, o, none⟩ v = w := cells_self h hv

theorem OwnA.user (hu : x.s.user = u) (h : OwnA w x u l w') : w'.setCell ⟨w.heap.size, 10, none⟩ (.string u) = w' := lone_self h.2.2.2.2.1 (by rw [← hu]; rfl)

theorem OwnA.label (hl : x.s.label = l) (h : OwnA w x u l w') : w'.setCell ⟨w.heap.size, 11, none⟩ (.string l) = w' := lone_self h.2.2.2.2.1 (by rw [← hl]; rfl)

theorem OwnA.drew (h : OwnA w x u l w') : OwnA w x u l w'.drew := ⟨h.1, h.2.1, h.2.2.1, h.2.2.2.1, h.2.2.2.2.1, h.2.2.2.2.2.1, h.2.2.2.2.2.2.drew⟩

theorem OwnA.below (h : OwnA w x u l w') (hb : Below w'.heap.size w' w2) : OwnA w x u l w2 := by
  have l0 := (Array.getElem?_eq_some_iff.1 h.2.2.2.2.1).1
  have l1 := (Array.getElem?_eq_some_iff.1 h.2.2.2.2.2.1).1
  exact ⟨(hb.cell (p := ⟨_, 10, none⟩) l0).trans h.1, (hb.cell (p := ⟨_, 11, none⟩) l0).trans h.2.1, (World.frozen?_of_block (a := ⟨_, 10, none⟩) (hb.block _ l0)).trans h.2.2.1, (World.frozen?_of_block (a := ⟨_, 11, none⟩) (hb.block _ l0)).trans h.2.2.2.1, (hb.block _ l0).trans h.2.2.2.2.1, (hb.block _ l1).trans h.2.2.2.2.2.1, h.2.2.2.2.2.2.trans (hb.mono (by omega))⟩
end

set_option maxRecDepth 100000 in
set_option maxHeartbeats 2000000 in
theorem own_any (x : Slt) (w : World) : Calls Try.prog 38 #[x.v] w fun e w' => e = .returned x.v ∧ Below w.heap.size w w' := by
  have hf := x.tx
  obtain ⟨u, hu⟩ : ∃ u, x.s.user = u := ⟨_, rfl⟩
  obtain ⟨l, hl⟩ : ∃ l, x.s.label = l := ⟨_, rfl⟩
  rw [hu, hl] at hf
  obtain ⟨hf1, hf2⟩ := hf
  have c1 : Hid (∀ w1, Calls Try.prog 54 #[.string u] w1 fun e w' => e = .returned (.string u) ∧ Below w1.heap.size w1 w') := fun w1 => clone_a u w1 hf1
  have c2 : Hid (∀ w1, Calls Try.prog 54 #[.string l] w1 fun e w' => e = .returned (.string l) ∧ Below w1.heap.size w1 w') := fun w1 => clone_a l w1 hf2
  have hS0 : OwnA w x u l ((w.alloc (.cells x.cells.toArray 49)).alloc (.cells sltZ 49)) := by
    have e0 : Lone ((w.alloc (.cells x.cells.toArray 49)).alloc (.cells sltZ 49)) w.heap.size x := (heap_alloc_old _ _ (by simp)).trans (heap_alloc_new _ _)
    have e1 : Lone ((w.alloc (.cells x.cells.toArray 49)).alloc (.cells sltZ 49)) (w.heap.size + 1) slt0 := by have := lone_zero (w.alloc (.cells x.cells.toArray 49)); simpa using this
    have e2 : ∀ o, ((w.alloc (.cells x.cells.toArray 49)).alloc (.cells sltZ 49)).frozen? ⟨w.heap.size, o, none⟩ = false := fun o => by
      unfold Lone at e0
      simp only [World.frozen?, e0]
      rfl
    exact ⟨by rw [e0.cells.2.2.2.2.2.2.2.2.2.2.1, hu], by rw [e0.cells.2.2.2.2.2.2.2.2.2.2.2.1, hl], e2 _, e2 _, e0, e1, ((Below.refl _ _).alloc (Nat.le_refl _) _).alloc (by simp) _⟩
  have HU : Hid (∀ wx, OwnA w x u l wx → wx.setCell ⟨w.heap.size, 10, none⟩ (.string u) = wx) := fun wx h => h.user hu
  have HL : Hid (∀ wx, OwnA w x u l wx → wx.setCell ⟨w.heap.size, 11, none⟩ (.string l) = wx) := fun wx h => h.label hl
  clear hu hl hf1 hf2
  go_enter Try.func38, Try.ntmps38
  go_wp2_with fail
  generalize (w.alloc (.cells x.cells.toArray 49)).alloc (.cells sltZ 49) = wA at *
  have HS0 := Hid.mk' hS0
  unfold OwnA at hS0
  go_region_held3 (fun w' => w'.cell? ⟨w.heap.size, 10, none⟩ = some (.string u) ∧ w'.cell? ⟨w.heap.size, 11, none⟩ = some (.string l) ∧ w'.frozen? ⟨w.heap.size, 10, none⟩ = false ∧ w'.frozen? ⟨w.heap.size, 11, none⟩ = false ∧ Lone w' w.heap.size x ∧ Lone w' (w.heap.size + 1) slt0 ∧ Below w.heap.size w w') (first | assumption | exact OwnA.drew (by assumption) | (rw [HU.out _ (by assumption)]; assumption) | (rw [HL.out _ (by assumption)]; assumption) | fail) (first | (go_at_call 54; (first | with_reducible refine (c1.out _).mono ?_ | with_reducible refine (c2.out _).mono ?_ | fail); rintro e w2 ⟨rfl, hq⟩; have hS2 := OwnA.below (w := w) (by assumption) hq; unfold OwnA at hS2; clear hq) | fail)
  have hS3 : OwnA w x u l w2 := hS2
  rw [HU.out _ hS3, HL.out _ hS3]
  obtain ⟨_, _, _, _, hx1, hx2, hB3⟩ := hS2
  have HX1 := Hid.mk' hx1.range
  have HX2 := Hid.mk' hx2
  have HB3 := Hid.mk' hB3
  clear hS3 hS0 HS0 HU HL c1 c2 hx1 hx2 hB3
  go_wp2_with (first | (refine wpList_load_slt rfl _ rfl w.heap.size 0 rfl x HX1.out ?_) | (refine wpList_store_lone rfl _ _ rfl (w.heap.size + 1) rfl x rfl _ HX2.out ?_; intro w4 hl4 hg4 hs4; have HL4 := Hid.mk' hl4; have HB4 : Hid (Below w.heap.size w w4) := (HB3.out.grown hg4 HB3.out.size (fun r e => by cases e; omega)); clear hl4 hg4 hs4) | fail)
  refine bodyPost_ret (results_cell_row rfl _ _ (w.heap.size + 1) _ _ _ _ rfl HL4.out Try.underlying49 rfl size_slt) rfl ?_
  exact ⟨rfl, HB4.out⟩

set_option maxRecDepth 100000 in
set_option maxHeartbeats 1000000 in
theorem get_u : GetU RepP := fun w p F A i ⟨fv, h, e⟩ hg => by
  have c1 : Hid (∀ wx, _) := fun wx => isSlot_any i wx
  have hz := lone_zero w
  have hB : Below w.heap.size w (w.alloc (.cells sltZ 49)) := (Below.refl _ _).alloc (Nat.le_refl _) _
  have hR := h.below hB
  obtain ⟨w0, hw0⟩ : ∃ w0, w.alloc (.cells sltZ 49) = w0 := ⟨_, rfl⟩
  rw [hw0] at hz hB hR
  unfold Arn.at Arn.atE
  by_cases ht : there i
  · rw [if_pos ht, if_pos ht]
    obtain ⟨k, rfl⟩ : ∃ k : Nat, i = (k : Int) := ⟨i.toNat, by omega⟩
    have hk : k < 32 := by omega
    have hr := hR.slot k hk
    simp only [Int.toNat_natCast]
    obtain ⟨x, hx⟩ : ∃ x, A.sl.getD k bare = x := ⟨_, rfl⟩
    rw [hx] at hr ⊢
    have c2 : Hid (∀ wx, _) := fun wx => own_any x wx
    have HRG := Hid.mk' hr
    have HZ := Hid.mk' hz
    have HB := Hid.mk' hB
    have hkI : (k : Int) < 32 := by omega
    simp only [decide_eq_true ht] at c1
    have HW0 := Hid.mk' hw0
    clear h hg hr hx ht hw0 hz hR hB e
    go_enter Try.func14, Try.ntmps14
    go_wp2_with fail
    refine (c1.out _).mono ?_
    rintro e w1 ⟨rfl, hw1⟩
    rw [HW0.out] at hw1
    subst w1
    go_wp2_with (first | (refine wpList_load_slt rfl _ rfl p (k * 17) rfl x HRG.out ?_) | fail)
    refine (c2.out _).mono ?_
    rintro e w1 ⟨rfl, hb1⟩
    have HZ1 : Hid (Lone w1 w.heap.size slt0) := (hb1.block _ (Array.getElem?_eq_some_iff.1 HZ.out).1).trans HZ.out
    have HB1 : Hid (Below w.heap.size w w1) := HB.out.trans (hb1.mono HB.out.size)
    clear hb1
    go_wp2_with (first | (refine wpList_store_lone rfl _ _ rfl w.heap.size rfl x rfl _ HZ1.out ?_; intro w2 hl2 hg2 hs2; have HL := Hid.mk' hl2; have HB2 : Hid (Below w.heap.size w w2) := (HB1.out.grown hg2 HB1.out.size (fun r e => by cases e; exact Nat.le_refl _)); clear hl2 hg2 hs2) | fail)
    refine bodyPost_ret (results_slt rfl _ _ w.heap.size x rfl HL.out) rfl ?_
    exact ⟨rfl, HB2.out⟩
  · rw [if_neg ht, if_neg ht]
    have HZ := Hid.mk' hz
    have HB := Hid.mk' hB
    have HW0 := Hid.mk' hw0
    simp only [decide_eq_false ht] at c1
    clear h hg ht hw0 hz hR hB e
    go_enter Try.func14, Try.ntmps14
    go_wp2_with fail
    refine (c1.out _).mono ?_
    rintro e w1 ⟨rfl, hw1⟩
    rw [HW0.out] at hw1
    subst w1
    go_wp2_with (first | (refine wpList_store_lone rfl _ _ rfl w.heap.size rfl slt0 rfl _ HZ.out ?_; intro w2 hl2 hg2 hs2; have HL := Hid.mk' hl2; have HB2 : Hid (Below w.heap.size w w2) := (HB.out.grown hg2 HB.out.size (fun r e => by cases e; exact Nat.le_refl _)); clear hl2 hg2 hs2) | fail)
    refine bodyPost_ret (results_slt rfl _ _ w.heap.size slt0 rfl HL.out) rfl ?_
    exact ⟨rfl, HB2.out⟩

theorem get_any : GetC RepP := fun w p F A i h hg _ => get_u w p F A i h hg

set_option maxRecDepth 100000 in
set_option maxHeartbeats 1000000 in
theorem write_any (w : World) (p : Nat) (fv : Value) (A : Arn) (k : Nat) (s : Slt) (h1 : PAn w p fv A) (hk : k < 32) (hwr : A.wr ≤ 1000000000) :
    Calls Try.prog 42 #[ptr p, nun k, s.v] w fun e w' => (∃ u, e = .returned u) ∧ PAn w' p fv ⟨A.sl.set k s, A.fr, A.wr + 1⟩ ∧ Keep (fun j => j = p) w w' := by
  have hz := lone_new w s
  have hB : Below w.heap.size w (w.alloc (.cells s.cells.toArray 49)) := (Below.refl _ _).alloc (Nat.le_refl _) _
  have hR := h1.below hB
  have hpw : w.heap.size ≠ p := fun e => by have := h1.plt; omega
  obtain ⟨w0, hw0⟩ : ∃ w0, w.alloc (.cells s.cells.toArray 49) = w0 := ⟨_, rfl⟩
  rw [hw0] at hz hB hR
  have HW0 := Hid.mk' hw0
  have HB := Hid.mk' hB
  have hkI : (k : Int) < 32 := by omega
  have hk0 : (0 : Int) ≤ (k : Int) := by omega
  have hS0 : Lone w0 w.heap.size s := hz
  have HTD : Hid (w0.drew.there p (k * 17) 17) := hR.thereAt k hk
  have HR1 : Hid (PAn (w0.drew.setCells p (k * 17) s.cells) p fv ⟨A.sl.set k s, A.fr, A.wr⟩) := (hR.below (Below.refl _ _).drew).stored k hk s
  have HK1 : Hid (Keep (fun j => j = p) w (w0.drew.setCells p (k * 17) s.cells)) := by
    have hG := grown_setCells p s.cells (k * 17) w0.drew
    exact ⟨hG.os.trans hB.os, hG.tape.trans hB.tape, hG.output.trans hB.output, Nat.le_trans hB.size hG.size, fun j hj hn => (hG.block j (Nat.lt_of_lt_of_le hj hB.size) (fun e => hn (Option.some.inj e))).trans (hB.block j hj)⟩
  have hS1 : Lone (w0.drew.setCells p (k * 17) s.cells) w.heap.size s := ((grown_setCells p s.cells (k * 17) w0.drew).block _ (Array.getElem?_eq_some_iff.1 hS0).1 (fun e => hpw (Option.some.inj e))).trans hS0
  clear hw0 hB hR hz h1
  go_enter Try.func42, Try.ntmps42
  go_wp2_with fail
  rw [HW0.out]
  refine wp_region_held_drew (S := fun w' => Lone w' w.heap.size s) (by kernel_rfl) hS0 (fun hHeld => ?_)
  refine wpAnyH_take (i := 0) (v := ?_) rfl (by kernel_rfl) (by kernel_rfl) (by kernel_rfl) (fun _ _ _ h => h) (Or.inl ⟨by rfl, ?_⟩) hHeld ?_
  rotate_left
  · (intro w' hS'; go_simp <;> with_reducible rfl)
  simp only [Act.put, List.getElem_toArray, List.getElem_cons_succ, List.getElem_cons_zero, List.setIfInBounds_toArray, List.set]
  refine wpAnyH_take (i := 1) (v := ?_) rfl (by kernel_rfl) (by kernel_rfl) (by kernel_rfl) (fun _ _ _ h => h) (Or.inl ⟨by rfl, ?_⟩) hHeld ?_
  rotate_left
  · (intro w' hS'; go_simp <;> with_reducible rfl)
  simp only [Act.put, List.getElem_toArray, List.getElem_cons_succ, List.getElem_cons_zero, List.setIfInBounds_toArray, List.set]
  refine wpAnyH_take (i := 2) (v := _) rfl (by kernel_rfl) (by kernel_rfl) (by kernel_rfl) (fun _ _ _ h => h) (yieldsIf_load_mid (by rfl) 49 _ rfl w.heap.size 0 rfl s.cells _ (fun w' h => h.range) Try.underlying49 rfl size_slt) hHeld ?_
  simp only [Act.put, List.getElem_toArray, List.getElem_cons_succ, List.getElem_cons_zero, List.setIfInBounds_toArray, List.set]
  refine wpAnyH_take (i := 3) (v := ?_) rfl (by kernel_rfl) (by kernel_rfl) (by kernel_rfl) (fun _ _ _ h => h) (Or.inl ⟨by rfl, ?_⟩) hHeld ?_
  rotate_left
  · (intro w' hS'; go_simp <;> with_reducible rfl)
  simp only [Act.put, List.getElem_toArray, List.getElem_cons_succ, List.getElem_cons_zero, List.setIfInBounds_toArray, List.set]
  refine wpAnyH_take (i := 4) (v := ?_) rfl (by kernel_rfl) (by kernel_rfl) (by kernel_rfl) (fun _ _ _ h => h) (Or.inl ⟨by rfl, ?_⟩) hHeld ?_
  rotate_left
  · (intro w' hS'; go_simp <;> with_reducible rfl)
  simp only [Act.put, List.getElem_toArray, List.getElem_cons_succ, List.getElem_cons_zero, List.setIfInBounds_toArray, List.set]
  refine wpAnyH_take (i := 5) (v := ?_) rfl (by kernel_rfl) (by kernel_rfl) (by kernel_rfl) (fun _ _ _ h => h) (Or.inl ⟨by rfl, ?_⟩) hHeld ?_
  rotate_left
  · (intro w' hS'; go_simp <;> with_reducible rfl)
  simp only [Act.put, List.getElem_toArray, List.getElem_cons_succ, List.getElem_cons_zero, List.setIfInBounds_toArray, List.set]
  refine wpAnyH_ready (rs := [6]) (by kernel_rfl) (by simp) ?_
  refine AllReadyH.cons rfl (fun K hK => ?_) AllReadyH.nil
  rw [if_pos (by rfl)]
  simp only [List.getElem_toArray, List.getElem_cons_succ, List.getElem_cons_zero]
  refine wp_store_mid 49 _ _ rfl p (k * 17) s.cells.toArray rfl rfl HTD.out size_slt (all_one s) ?_
  refine hK.out _ _ hS1 (fun hHeld => ?_)
  clear hK K
  refine wpAnyH_done (by kernel_rfl) ?_ _
  simp only [Act.put, List.getElem_toArray, List.getElem_cons_succ, List.getElem_cons_zero, List.setIfInBounds_toArray, List.set]
  clear hHeld hS0 hS1 HTD
  obtain ⟨z0, z1, zf⟩ := HR1.out.cells
  have HRC : Hid (PAn ((w0.drew.setCells p (k * 17) s.cells).setCell ⟨p, 545, none⟩ (nu ((A.wr : Int) + 1))) p fv ⟨A.sl.set k s, A.fr, A.wr + 1⟩) := HR1.out.counted (A.wr + 1)
  have HKC : Hid (Keep (fun j => j = p) w ((w0.drew.setCells p (k * 17) s.cells).setCell ⟨p, 545, none⟩ (nu ((A.wr : Int) + 1)))) := HK1.out.setCell (p := ⟨p, 545, none⟩) (.inl rfl) _
  generalize w0.drew.setCells p (k * 17) s.cells = w3 at *
  clear HR1 HK1
  go_wp2
  go_end0
  exact ⟨⟨_, rfl⟩, HRC.out, HKC.out⟩

set_option maxRecDepth 100000 in
set_option maxHeartbeats 1000000 in
theorem put_u : PutU RepP := fun w p F A i s ⟨fv, h, e⟩ hg hwr => by
  subst e
  have c1 : Hid (∀ wx, _) := fun wx => isSlot_any i wx
  have c2 : Hid (∀ wx, _) := fun wx => own_any s wx
  have hz := lone_new w s
  have hB : Below w.heap.size w (w.alloc (.cells s.cells.toArray 49)) := (Below.refl _ _).alloc (Nat.le_refl _) _
  have hR := h.below hB
  obtain ⟨w0, hw0⟩ : ∃ w0, w.alloc (.cells s.cells.toArray 49) = w0 := ⟨_, rfl⟩
  rw [hw0] at hz hB hR
  have HW0 := Hid.mk' hw0
  unfold Arn.put
  by_cases ht : there i
  · rw [if_pos ht]
    obtain ⟨k, rfl⟩ : ∃ k : Nat, i = (k : Int) := ⟨i.toNat, by omega⟩
    have hk : k < 32 := by omega
    simp only [Int.toNat_natCast]
    simp only [decide_eq_true ht] at c1
    have HX := Hid.mk' hz.range
    have HB := Hid.mk' hB
    have HP := Hid.mk' hR
    have c3 : Hid (∀ wx, PAn wx p fv A → _) := fun wx h => write_any wx p fv A k s h hk hwr
    clear h hg ht hw0 hz hR hB hwr
    go_enter Try.func20, Try.ntmps20
    go_wp2_with fail
    refine (c1.out _).mono ?_
    rintro e w1 ⟨rfl, hw1⟩
    rw [HW0.out] at hw1
    subst w1
    go_wp2_with (first | (refine wpList_load_slt rfl _ rfl w.heap.size 0 rfl s HX.out ?_) | fail)
    refine (c2.out _).mono ?_
    rintro e w1 ⟨rfl, hb1⟩
    have HP1 : Hid (PAn w1 p fv A) := HP.out.below hb1
    have HB1 : Hid (Below w.heap.size w w1) := HB.out.trans (hb1.mono HB.out.size)
    clear hb1
    go_wp2_with fail
    refine (c3.out _ HP1.out).mono ?_
    rintro e w2 ⟨⟨u, rfl⟩, hp2, hk2⟩
    have HL : Hid (Left RepP w w2 p (pfp p fv) ⟨A.sl.set k s, A.fr, A.wr + 1⟩) := leftP_self hp2 ((Keep.of_below (F := pfp p fv) HB1.out).trans hk2 (fun j _ e => .inl e))
    clear hp2 hk2
    go_wp2
    go_ret
    exact ⟨rfl, HL.out⟩
  · rw [if_neg ht]
    simp only [decide_eq_false ht] at c1
    have HL : Hid (Left RepP w w0 p (pfp p fv) A) := leftP_self hR (Keep.of_below hB)
    clear ht hw0 hB hR hz h hwr
    go_enter Try.func20, Try.ntmps20
    go_wp2_with fail
    refine (c1.out _).mono ?_
    rintro e w1 ⟨rfl, hw1⟩
    rw [HW0.out] at hw1
    subst w1
    go_wp2
    go_ret
    exact ⟨rfl, HL.out⟩

theorem put_any : PutC RepP := fun w p F A i s h hg hwr _ => put_u w p F A i s h hg hwr

theorem slice_toI (a : Option Addr) (len cap k : Nat) (h : k ≤ cap) (w : World) : (Instr.slice 22 (.slice a len cap) none (some (.int .i64 (k : Int))) none).run Try.prog w = .ok (.slice a k cap) w := by
  have h1 : (0 : Int) ≤ (k : Int) ∧ (k : Int) ≤ (cap : Int) := by omega
  have hu := Try.underlying22
  cases a with
  | none =>
    simp [Instr.slice, Instr.sliceBounds, Instr.sliceBound, asIntOf, run_underlying hu]
    intro hh; omega
  | some ad =>
    simp [Instr.slice, Instr.sliceBounds, Instr.sliceBound, asIntOf, run_underlying hu, Addr.add]
    intro hh; omega

/-- A shorter row of one's own. -/
theorem own_less {w : World} {base n m cap : Nat} {a : Option Addr} {l : List Nat} (h : w.ownsRow base 3 1 (.slice a n cap) n (l.map nun)) (hm : m ≤ n) (ha : a ≠ none) : w.ownsRow base 3 1 (.slice a m cap) m ((l.take m).map nun) := by
  rcases h.2 with ⟨e, _⟩ | ⟨b, cap', cur, e, hb, hc, h3, h4, h5, h6⟩
  · simp at e
    exact absurd e.1 ha
  · simp only [Value.slice.injEq, true_and] at e
    obtain ⟨rfl, rfl⟩ := e
    have hl := h.1
    rw [List.length_map, Nat.mul_one] at hl
    refine ⟨by simp; omega, .inr ⟨b, cap, cur, rfl, hb, hc, by omega, h4, h5, ?_⟩⟩
    rw [List.map_take, ← h6, List.take_take]
    congr 1
    omega

set_option maxRecDepth 100000 in
set_option maxHeartbeats 1000000 in
theorem take_any : TakeC RepP := fun w p F A ⟨fv, h, e⟩ hg => by
  subst e
  obtain ⟨q0, q1, qf⟩ := h.cells
  have hfew := hg.few
  unfold Arn.take
  cases hfr : A.fr with
  | nil =>
    obtain ⟨a0, c0, hfv, _⟩ := Nm.own_shape h.fr
    rw [hfr] at hfv
    simp only [List.length_nil] at hfv
    subst hfv
    have HL : Hid (Left RepP w w p (pfp p (.slice a0 0 c0)) A) := leftP_self h (Keep.refl _ _)
    clear h hg q1 qf hfr
    go_enter Try.func19, Try.ntmps19
    go_wp2
    go_ret2
    exact ⟨rfl, HL.out⟩
  | cons i r =>
    obtain ⟨b, cap, hfv, hc1, hc2, hbl, hcell⟩ := h.freeAt (by rw [hfr]; simp)
    obtain ⟨n, hn⟩ : ∃ n, r.length = n := ⟨_, rfl⟩
    have hlen : A.fr.length = n + 1 := by rw [hfr, List.length_cons, hn]
    rw [hlen] at hfv hc1 hfew
    have hci := hcell n i (by rw [hfr, List.reverse_cons, List.getElem?_append_right (by simp; omega)]; simp [hn])
    have hro : w.ownsRow 0 3 1 (.slice (some ⟨b, 0, none⟩) n cap) r.length (r.reverse.map nun) := by
      have h0 := h.fr
      rw [hlen, hfv] at h0
      have := own_less (m := n) h0 (by omega) (by simp)
      rw [hn]
      rwa [hfr, List.reverse_cons, List.take_append_of_le_length (by simp; omega), List.take_of_length_le (by simp; omega)] at this
    have hP := h.setFree hro
    have HK : Hid (Keep (pfp p fv) w (w.setCell ⟨p, 544, none⟩ (.slice (some ⟨b, 0, none⟩) n cap))) := (Keep.refl (pfp p fv) w).setCell (p := ⟨p, 544, none⟩) (.inl (.inl rfl)) _
    have HP := Hid.mk' hP
    subst hfv
    have hsl := slice_toI (some ⟨b, 0, none⟩) (n + 1) cap n (by omega)
    unfold maxLen at hc2
    clear h hg q1 hfr hlen hcell hro hP hn
    go_enter Try.func19, Try.ntmps19
    go_wp2
    go_ret2
    refine ⟨rfl, pfp p (.slice (some ⟨b, 0, none⟩) n cap), ⟨_, HP.out, rfl⟩, HK.out, fun j hj => .inl ?_⟩
    rcases hj with e | e
    · exact .inl e
    · exact .inr e
end An
end Go.Proofs.Ythabnombfbehkaa
