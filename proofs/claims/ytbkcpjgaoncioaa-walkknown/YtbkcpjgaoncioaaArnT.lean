/- The document's arena: Put, Give, New. -/
import Derived.Test.YtbkcpjgaoncioaaArnS
namespace Go.Proofs.Ytbkcpjgaoncioaa
set_option linter.ambiguousOpen false
open Go.RowKit
namespace An
open Ft Lv
set_option linter.unusedSimpArgs false
set_option linter.unusedVariables false

theorem heap_setCells (b : Nat) (T : TypeId) : ∀ (vs : List Value) (o : Nat) (w : World) (C : Array Value), w.heap[b]? = some (.cells C T) → o + vs.length ≤ C.size → ∃ C' : Array Value, (w.setCells b o vs).heap[b]? = some (.cells C' T) ∧ C'.toList = C.toList.take o ++ vs ++ C.toList.drop (o + vs.length)
  | [], o, w, C, h, hs => ⟨C, h, by simp⟩
  | v :: r, o, w, C, h, hs => by
    simp only [List.length_cons] at hs
    have h1 := heap_setCell_same w b o C T v h
    obtain ⟨C', h2, h3⟩ := heap_setCells b T r (o + 1) (w.setCell ⟨b, o, none⟩ v) _ h1 (by simp; omega)
    refine ⟨C', h2, ?_⟩
    have ho : o < C.toList.length := by rw [Array.length_toList]; omega
    have e0 : (C.toList.set o v).drop (o + 1 + r.length) = C.toList.drop (o + 1 + r.length) := List.drop_set_of_lt (by omega)
    rw [h3, Array.toList_setIfInBounds, List.take_set, e0]
    have e : (C.toList.take (o + 1)).set o v = C.toList.take o ++ [v] := by
      rw [List.take_add_one, List.getElem?_eq_getElem ho, List.set_append_right _ _ (by rw [List.length_take]; omega), List.length_take, show o - min o C.toList.length = 0 by omega]
      simp
    rw [e]
    simp only [List.length_cons, List.append_assoc, List.cons_append, List.nil_append]
    rw [show o + 1 + r.length = o + (r.length + 1) by omega]

theorem grown_setCells (b : Nat) : ∀ (vs : List Value) (o : Nat) (w : World), w.grownBy (w.setCells b o vs) (some b)
  | [], o, w => ⟨rfl, rfl, rfl, Nat.le_refl _, fun _ _ _ => rfl⟩
  | v :: r, o, w => by
    have ih := grown_setCells b r (o + 1) (w.setCell ⟨b, o, none⟩ v)
    exact ⟨ih.os, ih.tape, ih.output, by have := ih.size; rw [World.setCells]; simpa using this, fun k hk hn => (ih.block k (by simpa using hk) hn).trans (Below.heap_setCell _ _ _ k (fun e => hn (by rw [e])))⟩

section
variable {base : Nat} {w : World} {g b cap : Nat} {fv : Value} {A : Arn}

/-- A slot may be written. -/
theorem RAn.thereAt (h : RAn base w g (.slice (some ⟨b, 0, none⟩) 32 cap) fv A) (hl : A.sl.length = 32) (k : Nat) (hk : k < 32) : w.there b (k * 17) 17 := by
  have h0 := h.sl
  rw [hl] at h0
  rcases h0.2 with ⟨_, h1⟩ | ⟨b', cap', cur, e, hb, hc, h3, h4, h5, h6⟩
  · omega
  · simp only [Value.slice.injEq, Option.some.injEq, Addr.mk.injEq, and_true, true_and] at e
    obtain ⟨rfl, rfl⟩ := e
    refine fun j hj => ⟨?_, by simp [World.frozen?, hc]⟩
    rw [cell_of_row w b _ _ _ _ hc]
    simp
    omega

/-- A slot is written. -/
theorem RAn.stored (h : RAn base w g (.slice (some ⟨b, 0, none⟩) 32 cap) fv A) (hl : A.sl.length = 32) (k : Nat) (hk : k < 32) (x : Slt) : RAn base (w.setCells b (k * 17) x.cells) g (.slice (some ⟨b, 0, none⟩) 32 cap) fv ⟨A.sl.set k x, A.fr, A.wr⟩ := by
  have hG := grown_setCells b x.cells (k * 17) w
  have hne := h.ne
  refine ⟨(hG.block g h.glt (fun e => hne.1 e.symm)).trans h.blk, ?_, h.fr.kept hG (.inr (fun e => hne.2.2 b rfl e)), h.lo⟩
  have h0 := h.sl
  rw [hl] at h0
  have hll : (A.sl.set k x).length = 32 := by rw [List.length_set, hl]
  simp only
  rw [hll]
  rcases h0.2 with ⟨_, h1⟩ | ⟨b', cap', cur, e, hb, hc, h3, h4, h5, h6⟩
  · omega
  · simp only [Value.slice.injEq, Option.some.injEq, Addr.mk.injEq, and_true, true_and] at e
    obtain ⟨rfl, rfl⟩ := e
    obtain ⟨C', e1, e2⟩ := heap_setCells b _ x.cells (k * 17) w cur hc (by rw [Slt.len]; omega)
    refine ⟨by rw [scs_len, hll], .inr ⟨b, cap, C', rfl, hb, e1, h3, h4, ?_, ?_⟩⟩
    · rw [← Array.length_toList, e2, List.length_append, List.length_append, List.length_take, List.length_drop, Slt.len, Array.length_toList]
      omega
    · rw [e2, scs_set A.sl k x (by omega), ← h6, Slt.len]
      have hc1 : (cur.toList.take (32 * 17)).take (k * 17) = cur.toList.take (k * 17) := by
        rw [List.take_take, show min (k * 17) (32 * 17) = k * 17 by omega]
      rw [hc1, List.drop_take, List.take_append, List.take_append]
      have hlen : (cur.toList.take (k * 17)).length = k * 17 := by rw [List.length_take, Array.length_toList]; omega
      have ha : (cur.toList.take (k * 17)).take (32 * 17) = cur.toList.take (k * 17) := List.take_of_length_le (by rw [hlen]; omega)
      have hb' : x.cells.take (32 * 17 - k * 17) = x.cells := List.take_of_length_le (by rw [Slt.len]; omega)
      rw [List.length_append, hlen, Slt.len, ha, hb']

/-- The writes are counted. -/
theorem RAn.counted {sv : Value} (h : RAn base w g sv fv A) (n : Nat) : RAn base (w.setCell ⟨g, 2, none⟩ (nun n)) g sv fv ⟨A.sl, A.fr, n⟩ := by
  have hG : w.grownBy (w.setCell ⟨g, 2, none⟩ (nun n)) (some g) := ⟨rfl, rfl, rfl, by simp, fun k hk hn => Below.heap_setCell _ _ _ k (fun e => hn (by rw [e]))⟩
  exact ⟨heap_setCell_same _ g 2 _ _ _ h.blk, h.sl.kept hG (.inr h.ne.1), h.fr.kept hG (.inr h.ne.2.1), h.lo⟩
end

theorem leftA_self {base : Nat} {w w' : World} {g : Nat} {sv fv : Value} {A : Arn} (h : RAn base w' g sv fv A) (hb : base ≤ w.heap.size) (hk : Keep (rfp g sv fv) w w') : LeftA base w w' g (rfp g sv fv) A :=
  ⟨rfp g sv fv, ⟨sv, fv, h, rfl, Nat.le_trans hb hk.size⟩, hk, Goes.refl _ _⟩

set_option maxRecDepth 100000 in
set_option maxHeartbeats 1000000 in
theorem put_r (base : Nat) (w : World) (g : Nat) (F : Nat → Prop) (A : Arn) (i : Int) (s : Slt) (h : RepA base w g F A) (hg : Good A) (hwr : A.wr ≤ 1000000000) :
    Calls Try.prog 27 #[ptr g, nu i, s.v] w fun e w' => e = .returned (nun (A.put i s).1) ∧ LeftA base w w' g F (A.put i s).2 := by
  have c1 : Hid (∀ wx, _) := fun wx => there_ref i wx
  obtain ⟨sv, fv, h1, rfl, h3⟩ := h
  have hz := lone_new w s
  have hB : Below w.heap.size w (w.alloc (.cells s.cells.toArray 52)) := (Below.refl _ _).alloc (Nat.le_refl _) _
  have hR := h1.below hB
  obtain ⟨w0, hw0⟩ : ∃ w0, w.alloc (.cells s.cells.toArray 52) = w0 := ⟨_, rfl⟩
  rw [hw0] at hz hB hR
  have HW0 := Hid.mk' hw0
  have HB := Hid.mk' hB
  unfold Arn.put
  by_cases ht : there i
  · rw [if_pos ht]
    obtain ⟨k, rfl⟩ : ∃ k : Nat, i = (k : Int) := ⟨i.toNat, by omega⟩
    have hk : k < 32 := by omega
    obtain ⟨b, cap, rfl, hc1, hc2, hr, hbl⟩ := hR.slot hg.len k hk
    obtain ⟨q0, q1, q2, qf⟩ := hR.cells
    unfold maxLen at hc2
    simp only [Int.toNat_natCast]
    have hkI : (k : Int) < 32 := by omega
    simp only [decide_eq_true ht] at c1
    have hgb : g ≠ b := fun e => hR.ne.1 (by rw [e]; rfl)
    have hbw : w.heap.size ≠ b := fun e => by
      have := (h1.sl.lt b rfl).2
      omega
    have HTH := Hid.mk' (hR.thereAt hg.len k hk)
    have hS0 : w0.cell? ⟨g, 0, none⟩ = some (.slice (some ⟨b, 0, none⟩) 32 cap) ∧ Lone w0 w.heap.size s := ⟨q0, hz⟩
    have HR1 : Hid (RAn base (w0.drew.setCells b (k * 17) s.cells) g (.slice (some ⟨b, 0, none⟩) 32 cap) fv ⟨A.sl.set k s, A.fr, A.wr⟩) := (hR.below (Below.refl _ _).drew).stored hg.len k hk s
    have HK1 : Hid (Keep (rfp g (.slice (some ⟨b, 0, none⟩) 32 cap) fv) w (w0.drew.setCells b (k * 17) s.cells)) := by
      have hG := grown_setCells b s.cells (k * 17) w0.drew
      exact ⟨hG.os.trans hB.os, hG.tape.trans hB.tape, hG.output.trans hB.output, Nat.le_trans hB.size hG.size, fun j hj hn => (hG.block j (Nat.lt_of_lt_of_le hj hB.size) (fun e => hn (.inr (.inl e.symm)))).trans (hB.block j hj)⟩
    have hS1 : (w0.drew.setCells b (k * 17) s.cells).cell? ⟨g, 0, none⟩ = some (.slice (some ⟨b, 0, none⟩) 32 cap) ∧ Lone (w0.drew.setCells b (k * 17) s.cells) w.heap.size s := ⟨(World.cell?_setCells_out b _ _ _ _ (fun e => absurd e hgb)).trans hS0.1, ((grown_setCells b s.cells (k * 17) w0.drew).block _ (Array.getElem?_eq_some_iff.1 hS0.2).1 (fun e => hbw (Option.some.inj e))).trans hS0.2⟩
    have HTD : Hid (w0.drew.there b (k * 17) 17) := HTH.out
    clear ht q1 q2 hw0 hB hr
    go_enter Try.func27, Try.ntmps27
    go_wp2_with fail
    refine (c1.out _).mono ?_
    rintro e w1 ⟨rfl, hw1⟩
    rw [HW0.out] at hw1
    subst w1
    go_wp2_with fail
    refine wp_region_held_drew (S := fun w' => w'.cell? ⟨g, 0, none⟩ = some (.slice (some ⟨b, 0, none⟩) 32 cap) ∧ Lone w' w.heap.size s) (by kernel_rfl) hS0 (fun hHeld => ?_)
    refine wpAnyH_take (i := 0) (v := ?_) rfl (by kernel_rfl) (by kernel_rfl) (by kernel_rfl) (fun _ _ _ h => h) (Or.inl ⟨by rfl, ?_⟩) hHeld ?_
    rotate_left
    · (intro w' hS'; go_simp <;> with_reducible rfl)
    simp only [Act.put, List.getElem_toArray, List.getElem_cons_succ, List.getElem_cons_zero, List.setIfInBounds_toArray, List.set]
    refine wpAnyH_take (i := 1) (v := ?_) rfl (by kernel_rfl) (by kernel_rfl) (by kernel_rfl) (fun _ _ _ h => h) (Or.inl ⟨by rfl, ?_⟩) hHeld ?_
    rotate_left
    · (intro w' hS'; go_simp <;> with_reducible rfl)
    simp only [Act.put, List.getElem_toArray, List.getElem_cons_succ, List.getElem_cons_zero, List.setIfInBounds_toArray, List.set]
    refine wpAnyH_take (i := 2) (v := ?_) rfl (by kernel_rfl) (by kernel_rfl) (by kernel_rfl) (fun _ _ _ h => h) (Or.inl ⟨by rfl, ?_⟩) hHeld ?_
    rotate_left
    · (intro w' hS'; go_simp <;> with_reducible rfl)
    simp only [Act.put, List.getElem_toArray, List.getElem_cons_succ, List.getElem_cons_zero, List.setIfInBounds_toArray, List.set]
    refine wpAnyH_take (i := 3) (v := ?_) rfl (by kernel_rfl) (by kernel_rfl) (by kernel_rfl) (fun _ _ _ h => h) (Or.inl ⟨by rfl, ?_⟩) hHeld ?_
    rotate_left
    · (intro w' hS'; go_simp <;> with_reducible rfl)
    simp only [Act.put, List.getElem_toArray, List.getElem_cons_succ, List.getElem_cons_zero, List.setIfInBounds_toArray, List.set]
    refine wpAnyH_take (i := 4) (v := ?_) rfl (by kernel_rfl) (by kernel_rfl) (by kernel_rfl) (fun _ _ _ h => h) (Or.inl ⟨by rfl, ?_⟩) hHeld ?_
    rotate_left
    · (intro w' hS'; go_simp <;> with_reducible rfl)
    simp only [Act.put, List.getElem_toArray, List.getElem_cons_succ, List.getElem_cons_zero, List.setIfInBounds_toArray, List.set]
    refine wpAnyH_take (i := 5) (v := _) rfl (by kernel_rfl) (by kernel_rfl) (by kernel_rfl) (fun _ _ _ h => h) (yieldsIf_load_mid (by rfl) 52 _ rfl w.heap.size 0 rfl s.cells _ (fun w' h => h.2.range) Try.underlying52 rfl size_slt) hHeld ?_
    simp only [Act.put, List.getElem_toArray, List.getElem_cons_succ, List.getElem_cons_zero, List.setIfInBounds_toArray, List.set]
    refine wpAnyH_take (i := 6) (v := ?_) rfl (by kernel_rfl) (by kernel_rfl) (by kernel_rfl) (fun _ _ _ h => h) (Or.inl ⟨by rfl, ?_⟩) hHeld ?_
    rotate_left
    · (intro w' hS'; go_simp <;> with_reducible rfl)
    simp only [Act.put, List.getElem_toArray, List.getElem_cons_succ, List.getElem_cons_zero, List.setIfInBounds_toArray, List.set]
    refine wpAnyH_ready (rs := [7]) (by kernel_rfl) (by simp) ?_
    refine AllReadyH.cons rfl (fun K hK => ?_) AllReadyH.nil
    rw [if_pos (by rfl)]
    simp only [List.getElem_toArray, List.getElem_cons_succ, List.getElem_cons_zero]
    refine wp_store_mid 52 _ _ rfl b (k * 17) s.cells.toArray rfl rfl HTD.out size_slt (all_one s) ?_
    refine hK.out _ _ hS1 (fun hHeld => ?_)
    clear hK K
    refine wpAnyH_done (by kernel_rfl) ?_ _
    simp only [Act.put, List.getElem_toArray, List.getElem_cons_succ, List.getElem_cons_zero, List.setIfInBounds_toArray, List.set]
    clear hHeld hS0 hS1 HTD HTH
    obtain ⟨z0, z1, z2, zf⟩ := HR1.out.cells
    have HRC : Hid (RAn base ((w0.drew.setCells b (k * 17) s.cells).setCell ⟨g, 2, none⟩ (nu ((A.wr : Int) + 1))) g (.slice (some ⟨b, 0, none⟩) 32 cap) fv ⟨A.sl.set k s, A.fr, A.wr + 1⟩) := HR1.out.counted (A.wr + 1)
    have HKC : Hid (Keep (rfp g (.slice (some ⟨b, 0, none⟩) 32 cap) fv) w ((w0.drew.setCells b (k * 17) s.cells).setCell ⟨g, 2, none⟩ (nu ((A.wr : Int) + 1)))) := HK1.out.setCell (p := ⟨g, 2, none⟩) (.inl (.inl rfl)) _
    generalize w0.drew.setCells b (k * 17) s.cells = w3 at *
    clear HR1 HK1
    go_wp2
    go_ret
    exact ⟨rfl, leftA_self HRC.out h3 HKC.out⟩
  · rw [if_neg ht]
    simp only [decide_eq_false ht] at c1
    have HL : Hid (LeftA base w w0 g (rfp g sv fv) A) := leftA_self hR h3 (Keep.of_below hB)
    clear ht hw0 hB hR hz h1
    go_enter Try.func27, Try.ntmps27
    go_wp2_with fail
    refine (c1.out _).mono ?_
    rintro e w1 ⟨rfl, hw1⟩
    rw [HW0.out] at hw1
    subst w1
    go_wp2
    go_ret
    exact ⟨rfl, HL.out⟩
end An
end Go.Proofs.Ytbkcpjgaoncioaa
