/- The program's arena: Frees (an iterator over a copy, from its end on), whether a slot is free. -/
import Derived.Test.YtckgecmcjnhceaaDoorArnG
import Derived.Test.YtckgecmcjnhceaaDoorArnA
namespace Go.Proofs.YtckgecmcjnhceaaDoor
set_option linter.ambiguousOpen false
open Go.RowKit
namespace An
open Ft Lv
set_option linter.unusedSimpArgs false
set_option linter.unusedVariables false
attribute [local go_sem] Oper.semAt_some

/-- Numbers that lie there, the first one last. -/
def RdF (w : World) (v : Value) (L : List Nat) : Prop :=
  ∃ a cap, v = .slice a L.length cap ∧ L.length ≤ cap ∧ cap ≤ maxLen ∧ (0 < L.length → ∃ g, a = some ⟨g, 0, none⟩ ∧ ∀ k i, L.reverse[k]? = some i → w.cell? ⟨g, k, none⟩ = some (nun i))

theorem rdF_own {w : World} {base n : Nat} {v : Value} {L : List Nat} (h : w.ownsRow base 3 1 v n (L.reverse.map nun)) : RdF w v L := by
  have hl := h.1
  simp only [List.length_map, List.length_reverse, Nat.mul_one] at hl
  subst hl
  obtain ⟨a, cap, hv, h1, h2, h3⟩ := Nm.own_shape h
  refine ⟨a, cap, hv, h1, h2, fun h0 => ?_⟩
  obtain ⟨g, rfl⟩ := h3 h0
  subst hv
  refine ⟨g, rfl, fun k i hk => ?_⟩
  have hkl := (List.getElem?_eq_some_iff.1 hk).1
  rw [List.length_reverse] at hkl
  have := h.cellAt (g := g) (cap := cap) k (by omega)
  rw [this, List.getElem?_map, hk]
  rfl

set_option maxRecDepth 100000 in
set_option maxHeartbeats 1000000 in
theorem frees_seq (L : List Nat) (Bl : Nat) (cv : Value) (w : World) (hB : w.cell? ⟨Bl, 0, none⟩ = some cv) (hlt : Bl < w.heap.size) (hR : RdF w cv L) (hL : L.length ≤ 32) :
    Rf.Seq Tryd.prog 35 #[.pointer (some ⟨Bl, 0, none⟩)] (fun i : Nat => #[nun i]) (fun b => b = Bl ∨ cv.ownBlock = some b) 0 L w := by
  intro l J Jx W hW hJ hJx hY h0
  have hc : W.cell? ⟨Bl, 0, none⟩ = some cv := (hW.cell (p := ⟨Bl, 0, none⟩) hlt).trans hB
  obtain ⟨a, cap, rfl, hcap, hmx, hcells⟩ := hR
  have HC : Hid (∀ k i, L.reverse[k]? = some i → ∃ g, a = some ⟨g, 0, none⟩ ∧ W.cell? ⟨g, k, none⟩ = some (nun i)) := fun k i hk => by
    have hkl := (List.getElem?_eq_some_iff.1 hk).1
    rw [List.length_reverse] at hkl
    obtain ⟨g, rfl, h⟩ := hcells (by omega)
    have h1 := h k i hk
    obtain ⟨ob, ho, _⟩ := cells_of_cell h1
    exact ⟨g, rfl, (hW.cell (p := ⟨g, k, none⟩) (Array.getElem?_eq_some_iff.1 ho).1).trans h1⟩
  obtain ⟨n, hn⟩ : ∃ n, L.length = n := ⟨_, rfl⟩
  rw [hn] at hc hcap hL
  rw [hn] at hY
  have HN := Hid.mk' hn
  have HY := Hid.mk' hY
  have hnI : (n : Int) ≤ 32 := by omega
  unfold maxLen at hmx
  clear hB hcells hn hY
  refine callsIn_of_wp Tryd.func35 rfl trivial ?_ rfl
  simp only [Tryd.ntmps35, List.size_toArray, List.length_cons, List.length_nil, Nat.reduceAdd, Nat.reduceSub, Array.replicate_succ, Array.replicate_zero, List.push_toArray, List.append_toArray, List.nil_append, List.cons_append]
  gi_wp2
  gi_loopw [3] (fun v wr => ∃ z : Int, -1 ≤ z ∧ z < n ∧ v = nu z ∧ Hid (J (L.take ((n : Int) - 1 - z).toNat) wr) ∧ Hid (Rf.Leaves (fun b => b = Bl ∨ (Value.slice a n cap).ownBlock = some b) W.heap.size (W.heap.size + 0) W wr)) (fun v _ => (intOf v + 1).toNat)
  case atStart => exact ⟨(n : Int) - 1, by omega, by omega, by go_num, by rw [show (n : Int) - 1 - ((n : Int) - 1) = 0 by omega]; exact Hid.mk' h0, Rf.Leaves.refl _ _ _ _⟩
  case round =>
    obtain ⟨z, hz1, hz2, rfl, HJ, HL⟩ := hrel
    have hcr0 : wr.cell? ⟨Bl, 0, none⟩ = some (.slice a n cap) := HL.out.cell (a := ⟨Bl, 0, none⟩) (.inl (.inl rfl)) hc
    by_cases hp : 0 ≤ z
    · obtain ⟨q, rfl⟩ : ∃ q : Nat, z = q := ⟨z.toNat, by omega⟩
      have hqn : q < n := by omega
      obtain ⟨k, hk⟩ : ∃ k : Nat, k = n - 1 - q := ⟨_, rfl⟩
      have hkk : ((n : Int) - 1 - (q : Int)).toNat = k := by omega
      rw [hkk] at HJ
      obtain ⟨i, hi⟩ : ∃ i, L[k]? = some i := ⟨L[k]'(by rw [HN.out]; omega), List.getElem?_eq_getElem _⟩
      have hri : L.reverse[q]? = some i := by
        rw [List.getElem?_reverse (by rw [HN.out]; exact hqn), HN.out, ← hk]
        exact hi
      obtain ⟨g, rfl, hci⟩ := HC.out q i hri
      have hcr : wr.cell? ⟨g, q, none⟩ = some (nun i) := HL.out.cell (a := ⟨g, q, none⟩) (.inl (.inr rfl)) hci
      have ht : L.take k ++ [i] = L.take (k + 1) := by
        obtain ⟨h1, rfl⟩ := List.getElem?_eq_some_iff.1 hi
        exact (List.take_succ_eq_append_getElem h1).symm
      have hpre : L.take k ++ [i] <+: L := by rw [ht]; exact List.take_prefix _ _
      obtain ⟨fn, tmps, assign, body, hy, hR⟩ := HY.out (L.take k) i wr hpre (by have := HL.out.size; omega) HJ.out
      rw [ht] at hR
      have HT := Hid.mk' ht
      have hk1 : Hid (((n : Int) - 1 - ((q : Int) - 1)).toNat = k + 1) := by show _ = _; omega
      clear ht hci hc hi hri hk hkk
      gi_wp2_with fail
      refine hR.mono ?_
      rintro e W3 (⟨rfl, hJ3, hk3⟩ | ⟨rfl, hJx3, _⟩)
      · gi_wp2
        go_roundw
        case rel => exact ⟨(q : Int) - 1, by omega, by omega, by go_num, by rw [hk1.out]; exact hJ3, HL.out.trans hk3⟩
        case measure => simp [intOf]
      · gi_wp2
        refine bodyPost_ret (results_none rfl _ _ _) rfl ?_
        exact ⟨⟨_, rfl⟩, .inr ⟨L.take (k + 1), by rw [← HT.out]; exact hpre, hJx3⟩⟩
    · obtain rfl : z = -1 := by omega
      have HJ2 : Hid (J L wr) := by
        have := HJ.out
        rwa [List.take_of_length_le (by rw [HN.out]; omega)] at this
      clear HJ hcr0
      gi_wp2
      go_end0
      exact ⟨⟨_, rfl⟩, .inl HJ2.out⟩

theorem cell_block {A B : World} {b o : Nat} (h : B.heap[b]? = A.heap[b]?) : B.cell? ⟨b, o, none⟩ = A.cell? ⟨b, o, none⟩ := by
  unfold World.cell?
  rw [h]

theorem frees_iter (L : List Nat) (Bl : Nat) (cv : Value) (w : World) (hB : w.cell? ⟨Bl, 0, none⟩ = some cv) (hR : RdF w cv L) (hL : L.length ≤ 32) (ho : ∀ b, cv.ownBlock = some b → b < w.heap.size) :
    IterA w (.func (.func 35) #[] #[.pointer (some ⟨Bl, 0, none⟩)]) (fun b => b = Bl ∨ cv.ownBlock = some b) L := by
  have hlt : Bl < w.heap.size := by
    obtain ⟨ob, h, _⟩ := cells_of_cell hB
    exact (Array.getElem?_eq_some_iff.1 h).1
  refine ⟨_, _, 0, rfl, enters_of Tryd.func35 (by kernel_rfl) rfl, ?_, fun W hs hX => frees_seq L Bl cv W ?_ (Nat.lt_of_lt_of_le hlt hs) ?_ hL⟩
  · rintro b (rfl | h)
    · exact hlt
    · exact ho b h
  · exact (cell_block (hX Bl (.inl rfl))).trans hB
  · obtain ⟨a, cap, rfl, h1, h2, h3⟩ := hR
    refine ⟨a, cap, rfl, h1, h2, fun h => ?_⟩
    obtain ⟨g, rfl, h4⟩ := h3 h
    exact ⟨g, rfl, fun k i hk => (cell_block (hX g (.inr rfl))).trans (h4 k i hk)⟩

/-- A copy of a row of one's own. -/
theorem clone_ints (v : Value) (n : Nat) (l : List Nat) (w : World) (h : w.ownsRow 0 3 1 v n (l.map nun)) (hn : n ≤ 32) :
    Calls Tryd.prog 34 #[v] w fun e w' => ∃ v', e = .returned v' ∧ w'.ownsRow w.heap.size 3 1 v' n (l.map nun) ∧ Below w.heap.size w w' := by
  have hl := h.1
  rw [List.length_map, Nat.mul_one] at hl
  have h0 := h
  rcases h.2 with ⟨rfl, h1⟩ | ⟨b, cap, cur, rfl, hb, hc, h3, h4, h5, h6⟩
  · subst h1
    obtain rfl := List.eq_nil_of_length_eq_zero hl
    refine (Tryd.slices_Clone_int_nil 0 0 w).mono ?_
    rintro e w' ⟨rfl, rfl⟩
    exact ⟨_, rfl, World.ownsRow_nil _ _ _ _, Below.refl _ _⟩
  · refine (Tryd.slices_Clone_int b 0 n cap (l.map (fun i : Nat => (i : Int))) w (by simp; omega) (by omega) (fun j hj => ?_)).mono ?_
    · rw [List.length_map] at hj
      have := h0.cellAt (g := b) (cap := cap) j (by omega)
      rw [Nat.zero_add, this, List.getElem?_map, List.getElem?_eq_getElem hj, List.getD_eq_getElem?_getD, List.getElem?_map, List.getElem?_eq_getElem hj]
      rfl
    · rintro e w' ⟨v', rfl, h7, _, h8⟩
      refine ⟨v', rfl, ?_, h8⟩
      rw [List.take_of_length_le (by simp; omega), List.map_map] at h7
      exact h7

set_option maxRecDepth 100000 in
set_option maxHeartbeats 1000000 in
theorem frees_any : FreesC RepP := fun w p F A ⟨fv, h, e⟩ hg => by
  have hfew := hg.few
  have hmf : ∀ fn first cap w, (Instr.makeFunc fn first cap).run Tryd.prog w = .ok (.func fn first cap) w := fun _ _ _ _ => rfl
  obtain ⟨q0, _, _⟩ := h.cells
  obtain ⟨a0, c0, hfv, _⟩ := Nm.own_shape h.fr
  have c1 := Hid.mk' (clone_ints fv A.fr.length A.fr.reverse w h.fr hfew)
  obtain ⟨n, hn⟩ : ∃ n, A.fr.length = n := ⟨_, rfl⟩
  rw [hn] at c1 hfv
  have HN := Hid.mk' hn
  subst hfv
  clear h hg e hn
  go_enter Tryd.func15, Tryd.ntmps15
  go_wp2_with fail
  refine c1.out.mono ?_
  rintro e w1 ⟨v', rfl, ho, hb⟩
  obtain ⟨a1, c2, rfl, _⟩ := Nm.own_shape ho
  have HB1 : Hid (Boxed (w1.alloc (.cells #[.slice a1 n c2] 30)) w1.heap.size 30 (.slice a1 n c2)) := Boxed.new w1 _ _
  have HO1 := Hid.mk' (ho.alloc (.cells #[.slice a1 n c2] 30))
  have HBW : Hid (Below w.heap.size w (w1.alloc (.cells #[.slice a1 n c2] 30))) := hb.alloc hb.size _
  have hs1 := hb.size
  have HLT := Hid.mk' ho.lt
  clear ho hb c1 q0
  go_wp2
  go_ret
  refine ⟨_, _, rfl, frees_iter A.fr w1.heap.size (.slice a1 n c2) _ HB1.out.cell (rdF_own HO1.out) hfew (fun b hb => (HO1.out.lt b hb).2), fun b hb => ?_, HBW.out⟩
  rcases hb with rfl | hb
  · exact hs1
  · exact (HLT.out b hb).1

end An
end Go.Proofs.YtckgecmcjnhceaaDoor
