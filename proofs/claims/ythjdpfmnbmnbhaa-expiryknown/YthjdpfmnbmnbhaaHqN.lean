/- The program's heap: New, put together. -/
import Derived.Test.YthjdpfmnbmnbhaaHqR
namespace Go.Proofs.Ythjdpfmnbmnbhaa
set_option linter.ambiguousOpen false
open Go.RowKit
namespace Hq
open Hh Ft
set_option linter.unusedSimpArgs false
set_option linter.unusedVariables false
attribute [local go_sem] Oper.semAt_some

theorem sizeQ : (Try.prog.info? 63).map (·.size) = some 3 := by kernel_rfl

set_option maxRecDepth 100000 in
set_option maxHeartbeats 2000000 in
theorem newQueue_p (w : World) (n : Nat) (h1 : 1 ≤ n) (hn : n ≤ 65536) :
    Calls Try.prog 23 #[nun n, ordV] w fun e w' => ∃ b, e = .returned (.agg #[ordV, .slice none 0 0, slc b n n]) ∧ w.heap.size ≤ b ∧ Fil w' b n n ∧ Below w.heap.size w w' := by
  obtain ⟨W0, hW0⟩ : ∃ W0, w.alloc (.cells #[.nilFunc, .slice none 0 0, .slice none 0 0] 63) = W0 := ⟨_, rfl⟩
  have hB0 : Below w.heap.size w W0 := by rw [← hW0]; exact (Below.refl _ _).alloc (Nat.le_refl _) _
  have hq0 : W0.heap[w.heap.size]? = some (.cells #[.nilFunc, .slice none 0 0, .slice none 0 0] 63) := by rw [← hW0]; exact heap_alloc_new _ _
  have hz0 : W0.heap.size = w.heap.size + 1 := by rw [← hW0]; simp
  obtain ⟨W1, hW1⟩ : ∃ W1, W0.alloc (.cells #[nu (-1)] 3) = W1 := ⟨_, rfl⟩
  have hB1 : Below W0.heap.size W0 W1 := by rw [← hW1]; exact (Below.refl _ _).alloc (Nat.le_refl _) _
  have hz1 : W1.heap.size = W0.heap.size + 1 := by rw [← hW1]; simp
  have c1 := Hid.mk' (repeat_p W1 W0.heap.size n (by rw [← hW1]; simp) h1 hn)
  have hq1 := (hB1.block w.heap.size (by omega)).trans hq0
  have HQ1 := Hid.mk' hq1
  have HB := Hid.mk' (hB0.trans (hB1.mono (by omega)))
  have HS1 : Hid (w.heap.size < W1.heap.size) := by show _ < _; omega
  obtain ⟨z, hz⟩ : ∃ z, W0.heap.size = z := ⟨_, rfl⟩
  rw [hz] at c1
  obtain ⟨y, hy⟩ : ∃ y, w.heap.size = y := ⟨_, rfl⟩
  rw [hy] at HQ1 HB HS1 ⊢
  clear hB0 hq0 hB1 hq1 hz0 hz1
  go_enter Try.func23, Try.ntmps23
  go_wp2_with fail
  refine c1.out.mono ?_
  rintro e w2 ⟨b, rfl, hb1, hf2, hb2⟩
  have hq2 := (hb2.block y HS1.out).trans HQ1.out
  have q0 : w2.cell? ⟨y, 0, none⟩ = some .nilFunc := by simp [World.cell?, hq2]
  have q1 : w2.cell? ⟨y, 1, none⟩ = some (.slice none 0 0) := by simp [World.cell?, hq2]
  have q2 : w2.cell? ⟨y, 2, none⟩ = some (.slice none 0 0) := by simp [World.cell?, hq2]
  have qf : ∀ i, w2.frozen? ⟨y, i, none⟩ = false := fun i => by simp [World.frozen?, hq2]
  obtain ⟨w3, hw3⟩ : ∃ w3, w2.setCells y 0 [ordV, .slice none 0 0, slc b n n] = w3 := ⟨_, rfl⟩
  have hst : w2.setCells y 0 [ordV, .slice none 0 0, slc b n n] = ((w2.setCell ⟨y, 0, none⟩ ordV).setCell ⟨y, 1, none⟩ (.slice none 0 0)).setCell ⟨y, 2, none⟩ (slc b n n) := rfl
  have hth : w2.there y 0 3 := fun j hj => by
    refine ⟨?_, qf _⟩
    rcases j with _ | _ | _ | j
    · rw [q0]; rfl
    · rw [q1]; rfl
    · rw [q2]; rfl
    · omega
  have HTH := Hid.mk' hth
  have HONE : Hid ((#[ordV, .slice none 0 0, slc b n n] : Array Value).all (·.oneCell') = true) := by
    show _ = _
    simp [Value.oneCell']
  have HW3 : Hid (w2.setCells y 0 (#[ordV, .slice none 0 0, slc b n n] : Array Value).toList = w3) := hw3
  rw [hst] at hw3
  have hq3 : w3.heap[y]? = some (.cells #[ordV, .slice none 0 0, slc b n n] 63 (0, 0)) := by
    rw [← hw3, heap_setCell_same _ y 2 _ _ _ (heap_setCell_same _ y 1 _ _ _ (heap_setCell_same _ y 0 _ _ _ hq2))]
    rfl
  have hk3 : Keep (fun k => k = y) w2 w3 := by
    rw [← hw3]
    exact (((Keep.refl (fun k => k = y) w2).setCell (p := ⟨y, 0, none⟩) (.inl rfl) _).setCell (p := ⟨y, 1, none⟩) (.inl rfl) _).setCell (p := ⟨y, 2, none⟩) (.inl rfl) _
  have hby : y < b := Nat.lt_of_lt_of_le HS1.out hb1
  have HE : Hid (y ≤ b ∧ Fil w3 b n n ∧ Below y w w3) := ⟨by omega, hf2.keep hk3 (by omega), (HB.out.trans (hb2.mono (by have := HS1.out; omega))).trans (hk3.below (fun k hk => by omega) (by have := hb2.size; have := HS1.out; omega))⟩
  have HQ3 := Hid.mk' hq3
  clear c1 hq3 hk3 hf2 hb2 hb1 hq2 hst hth hw3 q0 q1 q2 qf
  go_wp2_with (first | ((refine wpList_store_mid rfl 63 _ _ rfl y 0 #[ordV, .slice none 0 0, slc b n n] rfl rfl HTH.out sizeQ HONE.out ?_; rw [HW3.out])) | fail)
  (try simp only [Exit.inBlock, Exit.then])
  refine bodyPost_ret (results_cell_row rfl _ _ y _ _ _ _ rfl HQ3.out Try.underlying63 rfl sizeQ) rfl ?_
  exact ⟨b, rfl, HE.out⟩

set_option maxRecDepth 100000 in
set_option maxHeartbeats 2000000 in
theorem new_p (w : World) (n : Int) : Calls Try.prog 14 #[nu n] w fun e w' => Below w.heap.size w w' ∧ if n < 1 ∨ 65536 < n then e = .returned (.tuple #[.pointer none, errE 1]) else ∃ p F, e = .returned (.tuple #[ptr p, errE 0]) ∧ RepQ w' p F n [] ∧ (∀ k, F k → w.heap.size ≤ k) := by
  by_cases h : n < 1 ∨ 65536 < n
  · simp only [if_pos h]
    rcases h with h | h
    · have h1 : decide (n < 1) = true := decide_eq_true h
      go_enter Try.func14, Try.ntmps14
      go_wp2
      go_ret2
      exact ⟨Below.refl _ _, rfl⟩
    · have h1 : decide (n < 1) = false := decide_eq_false (by omega)
      have h2 : decide (n > 65536) = true := decide_eq_true h
      have h3 : decide (65536 < n) = true := decide_eq_true h
      have h0 : ¬ n < 1 := by omega
      go_enter Try.func14, Try.ntmps14
      go_wp2
      go_ret2
      exact ⟨Below.refl _ _, rfl⟩
  · simp only [if_neg h]
    obtain ⟨m, rfl⟩ : ∃ m : Nat, n = (m : Int) := ⟨n.toNat, by omega⟩
    have h0 : ¬ (m : Int) < 1 := by omega
    have h2 : ¬ (m : Int) > 65536 := by omega
    have h3 : ¬ 65536 < (m : Int) := by omega
    have c1 := Hid.mk' (newQueue_p w m (by omega) (by omega))
    have HE : Hid (∀ b w2, w.heap.size ≤ b → Fil w2 b m m → Below w.heap.size w w2 → Below w.heap.size w (w2.alloc (.cells #[ordV, .slice none 0 0, slc b m m] 66)) ∧ ∃ p F, (Ending.returned (Value.tuple #[ptr w2.heap.size, .nilIface])) = .returned (.tuple #[ptr p, errE 0]) ∧ RepQ (w2.alloc (.cells #[ordV, .slice none 0 0, slc b m m] 66)) p F m [] ∧ (∀ k, F k → w.heap.size ≤ k)) := by
      intro b w2 hb hf hbl
      have hB : Below w2.heap.size w2 (w2.alloc (.cells #[ordV, .slice none 0 0, slc b m m] 66)) := (Below.refl _ _).alloc (Nat.le_refl _) _
      have hbs : b < w2.heap.size := by
        obtain ⟨cur, hg, _⟩ := hf.ex
        exact (Array.getElem?_eq_some_iff.1 hg).1
      refine ⟨hbl.alloc hbl.size _, w2.heap.size, footV w2.heap.size (.slice none 0 0) b, rfl, ⟨.slice none 0 0, b, m, 0, m, [], List.replicate m (-1), ?_, rfl, List.Perm.refl _, fun j _ hj => by simp at hj, rfl⟩, ?_⟩
      · refine ⟨rfl, List.length_replicate, heap_alloc_new _ _, World.ownsRow_nil _ _ _ _, ?_, by simp [Value.ownBlock], by omega, by simp [Value.ownBlock], ⟨fun j hj => by simp at hj, fun i hi => .inl ?_⟩, by omega⟩
        · exact (hf.keep (Keep.of_below (F := fun _ => False) hB) (fun e => e)).own 0 (Nat.zero_le _) (by unfold maxLen; omega)
        · unfold aN
          rw [List.length_replicate] at hi
          rw [List.getD_eq_getElem?_getD, List.getElem?_replicate_of_lt hi]
          rfl
      · rintro k (e | e | e)
        · have := hbl.size
          omega
        · simp [Value.ownBlock] at e
        · omega
    clear h
    go_enter Try.func14, Try.ntmps14
    go_wp2_with fail
    refine c1.out.mono ?_
    rintro e w2 ⟨b, rfl, hb, hf, hbl⟩
    have HX := Hid.mk' (HE.out b w2 hb hf hbl)
    clear hb hf hbl c1 HE
    go_wp2
    go_ret2
    exact HX.out
end Hq
end Go.Proofs.Ythjdpfmnbmnbhaa
