/- The program's arena: Frees (an iterator over a copy, from its end on), whether a slot is free. -/
import Derived.Test.YtalpbciceogjlaaDoorArnG
import Derived.Test.YtalpbciceogjlaaDoorArnA
namespace Go.Proofs.YtalpbciceogjlaaDoor
set_option linter.ambiguousOpen false
open Go.RowKit
namespace An
open Ft Lv
set_option linter.unusedSimpArgs false
set_option linter.unusedVariables false
attribute [local go_sem] Oper.semAt_some

/-- Numbers that lie there, the first one last. -/
def RdF (w : World) (v : Value) (L : List Nat) : Prop :=
  ∃ a cap, v = .slice a L.length cap ∧ L.length ≤ cap ∧ cap ≤ maxLen ∧ (0 < L.length → ∃ g, a = some ⟨g, 0, none⟩ ∧ ∀ k i, L.reverse[k]? = some i → w.cell? ⟨g, k, none⟩ = some (nun i))

theorem rdF_own {w : World} {base n : Nat} {v : Value} {L : List Nat} (h : w.ownsRow base 3 1 v n (L.reverse.map nun)) : RdF w v L := by
  have hl := h.1
  simp only [List.length_map, List.length_reverse, Nat.mul_one] at hl
  subst hl
  obtain ⟨a, cap, hv, h1, h2, h3⟩ := Nm.own_shape h
  refine ⟨a, cap, hv, h1, h2, fun h0 => ?_⟩
  obtain ⟨g, rfl⟩ := h3 h0
  subst hv
  refine ⟨g, rfl, fun k i hk => ?_⟩
  have hkl := (List.getElem?_eq_some_iff.1 hk).1
  rw [List.length_reverse] at hkl
  have := h.cellAt (g := g) (cap := cap) k (by omega)
  rw [this, List.getElem?_map, hk]
  rfl

set_option maxRecDepth 100000 in
set_option maxHeartbeats 1000000 in
theorem frees_seq (L : List Nat) (Bl : Nat) (cv : Value) (w : World) (hB : w.cell? ⟨Bl, 0, none⟩ = some cv) (hlt : Bl < w.heap.size) (hR : RdF w cv L) (hL : L.length ≤ 32) :
    Rf.Seq Tryd.prog 28 #[.pointer (some ⟨Bl, 0, none⟩)] (fun i : Nat => #[nun i]) (fun b => b = Bl ∨ cv.ownBlock = some b) 0 L w := by
  intro l J Jx W hW hJ hJx hY h0
  have hc : W.cell? ⟨Bl, 0, none⟩ = some cv := (hW.cell (p := ⟨Bl, 0, none⟩) hlt).trans hB
  obtain ⟨a, cap, rfl, hcap, hmx, hcells⟩ := hR
  have HC : Hid (∀ k i, L.reverse[k]? = some i → ∃ g, a = some ⟨g, 0, none⟩ ∧ W.cell? ⟨g, k, none⟩ = some (nun i)) := fun k i hk => by
    have hkl := (List.getElem?_eq_some_iff.1 hk).1
    rw [List.length_reverse] at hkl
    obtain ⟨g, rfl, h⟩ := hcells (by omega)
    have h1 := h k i hk
    obtain ⟨ob, ho, _⟩ := cells_of_cell h1
    exact ⟨g, rfl, (hW.cell (p := ⟨g, k, none⟩) (Array.getElem?_eq_some_iff.1 ho).1).trans h1⟩
  obtain ⟨n, hn⟩ : ∃ n, L.length = n := ⟨_, rfl⟩
  rw [hn] at hc hcap hL
  rw [hn] at hY
  have HN := Hid.mk' hn
  have HY := Hid.mk' hY
  have hnI : (n : Int) ≤ 32 := by omega
  unfold maxLen at hmx
  clear hB hcells hn hY
  refine callsIn_of_wp Tryd.func28 rfl trivial ?_ rfl
  simp only [Tryd.ntmps28, List.size_toArray, List.length_cons, List.length_nil, Nat.reduceAdd, Nat.reduceSub, Array.replicate_succ, Array.replicate_zero, List.push_toArray, List.append_toArray, List.nil_append, List.cons_append]
  gi_wp2
  gi_loopw [3] (fun v wr => ∃ z : Int, -1 ≤ z ∧ z < n ∧ v = nu z ∧ Hid (J (L.take ((n : Int) - 1 - z).toNat) wr) ∧ Hid (Rf.Leaves (fun b => b = Bl ∨ (Value.slice a n cap).ownBlock = some b) W.heap.size (W.heap.size + 0) W wr)) (fun v _ => (intOf v + 1).toNat)
  case atStart => exact ⟨(n : Int) - 1, by omega, by omega, by go_num, by rw [show (n : Int) - 1 - ((n : Int) - 1) = 0 by omega]; exact Hid.mk' h0, Rf.Leaves.refl _ _ _ _⟩
  case round =>
    obtain ⟨z, hz1, hz2, rfl, HJ, HL⟩ := hrel
    have hcr0 : wr.cell? ⟨Bl, 0, none⟩ = some (.slice a n cap) := HL.out.cell (a := ⟨Bl, 0, none⟩) (.inl (.inl rfl)) hc
    by_cases hp : 0 ≤ z
    · obtain ⟨q, rfl⟩ : ∃ q : Nat, z = q := ⟨z.toNat, by omega⟩
      have hqn : q < n := by omega
      obtain ⟨k, hk⟩ : ∃ k : Nat, k = n - 1 - q := ⟨_, rfl⟩
      have hkk : ((n : Int) - 1 - (q : Int)).toNat = k := by omega
      rw [hkk] at HJ
      obtain ⟨i, hi⟩ : ∃ i, L[k]? = some i := ⟨L[k]'(by rw [HN.out]; omega), List.getElem?_eq_getElem _⟩
      have hri : L.reverse[q]? = some i := by
        rw [List.getElem?_reverse (by rw [HN.out]; exact hqn), HN.out, ← hk]
        exact hi
      obtain ⟨g, rfl, hci⟩ := HC.out q i hri
      have hcr : wr.cell? ⟨g, q, none⟩ = some (nun i) := HL.out.cell (a := ⟨g, q, none⟩) (.inl (.inr rfl)) hci
      have ht : L.take k ++ [i] = L.take (k + 1) := by
        obtain ⟨h1, rfl⟩ := List.getElem?_eq_some_iff.1 hi
        exact (List.take_succ_eq_append_getElem h1).symm
      have hpre : L.take k ++ [i] <+: L := by rw [ht]; exact List.take_prefix _ _
      obtain ⟨fn, tmps, assign, body, hy, hR⟩ := HY.out (L.take k) i wr hpre (by have := HL.out.size; omega) HJ.out
      rw [ht] at hR
      have HT := Hid.mk' ht
      have hk1 : Hid (((n : Int) - 1 - ((q : Int) - 1)).toNat = k + 1) := by show _ = _; omega
      clear ht hci hc hi hri hk hkk
      gi_wp2_with fail
      refine hR.mono ?_
      rintro e W3 (⟨rfl, hJ3, hk3⟩ | ⟨rfl, hJx3, _⟩)
      · gi_wp2
        go_roundw
        case rel => exact ⟨(q : Int) - 1, by omega, by omega, by go_num, by rw [hk1.out]; exact hJ3, HL.out.trans hk3⟩
        case measure => simp [intOf]
      · gi_wp2
        refine bodyPost_ret (results_none rfl _ _ _) rfl ?_
        exact ⟨⟨_, rfl⟩, .inr ⟨L.take (k + 1), by rw [← HT.out]; exact hpre, hJx3⟩⟩
    · obtain rfl : z = -1 := by omega
      have HJ2 : Hid (J L wr) := by
        have := HJ.out
        rwa [List.take_of_length_le (by rw [HN.out]; omega)] at this
      clear HJ hcr0
      gi_wp2
      go_end0
      exact ⟨⟨_, rfl⟩, .inl HJ2.out⟩

theorem cell_block {A B : World} {b o : Nat} (h : B.heap[b]? = A.heap[b]?) : B.cell? ⟨b, o, none⟩ = A.cell? ⟨b, o, none⟩ := by
  unfold World.cell?
  rw [h]

theorem frees_iter (L : List Nat) (Bl : Nat) (cv : Value) (w : World) (hB : w.cell? ⟨Bl, 0, none⟩ = some cv) (hR : RdF w cv L) (hL : L.length ≤ 32) (ho : ∀ b, cv.ownBlock = some b → b < w.heap.size) :
    IterA w (.func (.func 28) #[] #[.pointer (some ⟨Bl, 0, none⟩)]) (fun b => b = Bl ∨ cv.ownBlock = some b) L := by
  have hlt : Bl < w.heap.size := by
    obtain ⟨ob, h, _⟩ := cells_of_cell hB
    exact (Array.getElem?_eq_some_iff.1 h).1
  refine ⟨_, _, 0, rfl, enters_of Tryd.func28 (by kernel_rfl) rfl, ?_, fun W hs hX => frees_seq L Bl cv W ?_ (Nat.lt_of_lt_of_le hlt hs) ?_ hL⟩
  · rintro b (rfl | h)
    · exact hlt
    · exact ho b h
  · exact (cell_block (hX Bl (.inl rfl))).trans hB
  · obtain ⟨a, cap, rfl, h1, h2, h3⟩ := hR
    refine ⟨a, cap, rfl, h1, h2, fun h => ?_⟩
    obtain ⟨g, rfl, h4⟩ := h3 h
    exact ⟨g, rfl, fun k i hk => (cell_block (hX g (.inr rfl))).trans (h4 k i hk)⟩

/-- A copy of a row of one's own. -/
theorem clone_ints (v : Value) (n : Nat) (l : List Nat) (w : World) (h : w.ownsRow 0 3 1 v n (l.map nun)) (hn : n ≤ 32) :
    Calls Tryd.prog 27 #[v] w fun e w' => ∃ v', e = .returned v' ∧ w'.ownsRow w.heap.size 3 1 v' n (l.map nun) ∧ Below w.heap.size w w' := by
  have hl := h.1
  rw [List.length_map, Nat.mul_one] at hl
  have h0 := h
  rcases h.2 with ⟨rfl, h1⟩ | ⟨b, cap, cur, rfl, hb, hc, h3, h4, h5, h6⟩
  · subst h1
    obtain rfl := List.eq_nil_of_length_eq_zero hl
    refine (Tryd.slices_Clone_int_nil 0 0 w).mono ?_
    rintro e w' ⟨rfl, rfl⟩
    exact ⟨_, rfl, World.ownsRow_nil _ _ _ _, Below.refl _ _⟩
  · refine (Tryd.slices_Clone_int b 0 n cap (l.map (fun i : Nat => (i : Int))) w (by simp; omega) (by omega) (fun j hj => ?_)).mono ?_
    · rw [List.length_map] at hj
      have := h0.cellAt (g := b) (cap := cap) j (by omega)
      rw [Nat.zero_add, this, List.getElem?_map, List.getElem?_eq_getElem hj, List.getD_eq_getElem?_getD, List.getElem?_map, List.getElem?_eq_getElem hj]
      rfl
    · rintro e w' ⟨v', rfl, h7, _, h8⟩
      refine ⟨v', rfl, ?_, h8⟩
      rw [List.take_of_length_le (by simp; omega), List.map_map] at h7
      exact h7

set_option maxRecDepth 100000 in
set_option maxHeartbeats 1000000 in
theorem frees_any : FreesC RepP := fun w p F A ⟨fv, h, e⟩ hg => by
  have hfew := hg.few
  have hmf : ∀ fn first cap w, (Instr.makeFunc fn first cap).run Tryd.prog w = .ok (.func fn first cap) w := fun _ _ _ _ => rfl
  obtain ⟨q0, _, _⟩ := h.cells
  obtain ⟨a0, c0, hfv, _⟩ := Nm.own_shape h.fr
  have c1 := Hid.mk' (clone_ints fv A.fr.length A.fr.reverse w h.fr hfew)
  obtain ⟨n, hn⟩ : ∃ n, A.fr.length = n := ⟨_, rfl⟩
  rw [hn] at c1 hfv
  have HN := Hid.mk' hn
  subst hfv
  clear h hg e hn
  go_enter Tryd.func10, Tryd.ntmps10
  go_wp2_with fail
  refine c1.out.mono ?_
  rintro e w1 ⟨v', rfl, ho, hb⟩
  obtain ⟨a1, c2, rfl, _⟩ := Nm.own_shape ho
  have HB1 : Hid (Boxed (w1.alloc (.cells #[.slice a1 n c2] 44)) w1.heap.size 44 (.slice a1 n c2)) := Boxed.new w1 _ _
  have HO1 := Hid.mk' (ho.alloc (.cells #[.slice a1 n c2] 44))
  have HBW : Hid (Below w.heap.size w (w1.alloc (.cells #[.slice a1 n c2] 44))) := hb.alloc hb.size _
  have hs1 := hb.size
  have HLT := Hid.mk' ho.lt
  clear ho hb c1 q0
  go_wp2
  go_ret
  refine ⟨_, _, rfl, frees_iter A.fr w1.heap.size (.slice a1 n c2) _ HB1.out.cell (rdF_own HO1.out) hfew (fun b hb => (HO1.out.lt b hb).2), fun b hb => ?_, HBW.out⟩
  rcases hb with rfl | hb
  · exact hs1
  · exact (HLT.out b hb).1

set_option maxRecDepth 100000 in
set_option maxHeartbeats 2000000 in
theorem isFree_any (w : World) (p : Nat) (F : Nat → Prop) (A : Arn) (k : Nat) (h : RepP w p F A) (hg : Good A) :
    Calls Tryd.prog 36 #[ptr p, nun k] w fun e w' => e = .returned (.bool (decide (k ∈ A.fr))) ∧ Below w.heap.size w w' := by
  have hB1 : Below w.heap.size w ((w.alloc (.cells #[nun k] 3)).alloc (.cells #[.bool false] 4)) := ((Below.refl _ _).alloc (Nat.le_refl _) _).alloc (by simp) _
  have x0 : Boxed ((w.alloc (.cells #[nun k] 3)).alloc (.cells #[.bool false] 4)) w.heap.size 3 (nun k) := (Boxed.new w _ _).alloc _
  have x1 : Boxed ((w.alloc (.cells #[nun k] 3)).alloc (.cells #[.bool false] 4)) (w.heap.size + 1) 4 (.bool false) := by
    have := Boxed.new (w.alloc (.cells #[nun k] 3)) 4 (.bool false)
    simpa using this
  have hs1 : ((w.alloc (.cells #[nun k] 3)).alloc (.cells #[.bool false] 4)).heap.size = w.heap.size + 2 := by simp
  obtain ⟨W1, hW1⟩ : ∃ W1, (w.alloc (.cells #[nun k] 3)).alloc (.cells #[.bool false] 4) = W1 := ⟨_, rfl⟩
  rw [hW1] at hB1 x0 x1 hs1
  have HW1 := Hid.mk' hW1
  have cF := Hid.mk' (frees_any W1 p F A (keepP.below h hB1) hg)
  obtain ⟨r, hr⟩ : ∃ r, decide (k ∈ A.fr) = r := ⟨_, rfl⟩
  rw [hr]
  have HR := Hid.mk' hr
  have hB1H := Hid.mk' hB1
  clear h hg hW1 hr hB1
  refine (callsIn_wide (n := 8)).1 ?_
  refine callsIn_of_wp_marks Tryd.func36 rfl trivial ?_ rfl
  refine wpIn_wide.2 ?_
  simp only [Tryd.ntmps36, List.size_toArray, List.length_cons, List.length_nil, Nat.reduceAdd, Nat.reduceSub, Array.replicate_succ, Array.replicate_zero, List.push_toArray, List.append_toArray, List.nil_append, List.cons_append]
  go_wp2_with fail
  rw [HW1.out]
  refine cF.out.mono ?_
  rintro e w8 ⟨fv2, X, rfl, ⟨gf, lb, kk, rfl, hent, hXl, hsq⟩, hXn, hb8⟩
  have hs8 := hb8.size
  have hXn1 : ∀ b, X b → w.heap.size + 2 ≤ b := fun b hb => by
    have h1 := hXn b hb
    omega
  have HSQ := Hid.mk' (hsq w8 (Nat.le_refl _) (fun _ _ => rfl))
  have y0 : Boxed w8 w.heap.size 3 (nun k) := (hb8.block _ (by omega)).trans x0
  have y1 : Boxed w8 (w.heap.size + 1) 4 (.bool false) := (hb8.block _ (by omega)).trans x1
  have hBw8 : Below w.heap.size w w8 := hB1H.out.trans (hb8.mono hB1H.out.size)
  clear hsq cF x0 x1
  go_wp2_with fail
  refine Rf.wp_range (L := A.fr) (w0 := w8) rfl hent HSQ.out (Below.refl _ _) (fun _ => rfl) hXl
    (fun pre W' => k ∉ pre ∧ Boxed W' (w.heap.size + 1) 4 (.bool false) ∧ Rf.But (w.heap.size + 1) w8 W')
    (fun c pre W' => (c = .ret ∧ k ∈ pre) ∧ Boxed W' (w.heap.size + 1) 4 (.bool true) ∧ Rf.But (w.heap.size + 1) w8 W') ?rest3 ?restx3
    ⟨by simp, y1, Rf.But.refl _ _⟩ ?act3 ?assign3 ?body3 ?done3 ?stop3
  case assign3 =>
    intro l' x W2 K hK
    gi_wp2
    exact hK
  case rest3 =>
    rintro pre A B row ⟨v, h2, h5⟩ hg hr
    exact ⟨v, h2.kept hg (fun e => by have := (hr _ e.symm).1; omega), h5.rest (by omega) hg hr⟩
  case restx3 =>
    rintro c pre A B row ⟨v, h2, h5⟩ hg hr
    exact ⟨v, h2.kept hg (fun e => by have := (hr _ e.symm).1; omega), h5.rest (by omega) hg hr⟩
  case body3 =>
    rintro l' pre x W2 hpre hsz ⟨hnp, h2, h5⟩
    have z0 : W2.cell? ⟨w.heap.size, 0, none⟩ = some (nun k) := (h5.boxed y0 (by omega)).cell
    have hc2 := h2.cell
    have hf2' := h2.frozen
    by_cases he : x = k
    · subst he
      have hxx : ((x : Int) == (x : Int)) = true := by simp
      have HL : Hid (Rf.Leaves X w8.heap.size (w8.heap.size + 2 + kk) W2 (W2.setCell ⟨w.heap.size + 1, 0, none⟩ (.bool true))) := Rf.Leaves.grown (grownBy_setCell' W2 (w.heap.size + 1) (.bool true)) (fun r e => by
        cases e
        exact ⟨fun h => by have := hXn1 _ h; omega, .inl (by omega)⟩)
      have HBX : Hid (Boxed (W2.setCell ⟨w.heap.size + 1, 0, none⟩ (.bool true)) (w.heap.size + 1) 4 (.bool true)) := h2.set _
      have HBT : Hid (Rf.But (w.heap.size + 1) w8 (W2.setCell ⟨w.heap.size + 1, 0, none⟩ (.bool true))) := ⟨h5.1.setCell (p := ⟨w.heap.size + 1, 0, none⟩) (Nat.le_refl _) _, fun b hb hne => (Below.heap_setCell _ _ _ b hne).trans (h5.2 b hb hne)⟩
      clear h2 h5
      gi_wp2
      exact ⟨HL.out, ⟨rfl, by simp⟩, HBX.out, HBT.out⟩
    · have hxx : ((x : Int) == (k : Int)) = false := by simp; omega
      have HI : Hid (k ∉ pre ++ [x] ∧ Boxed W2 (w.heap.size + 1) 4 (.bool false) ∧ Rf.But (w.heap.size + 1) w8 W2) := ⟨by simp [hnp]; omega, h2, h5⟩
      clear h2 h5 he hnp
      gi_wp2
      exact ⟨Rf.Leaves.refl _ _ _ _, HI.out⟩
  case done3 =>
    rintro W7 ⟨h0, h2, h5⟩ hK7
    have hBw7 : Below w.heap.size w W7 := hBw8.trans (h5.1.mono (Nat.le_succ _))
    have hO7 : Rf.Open w8.heap.size [w8.heap.size] W7 := ⟨by simp, fun D hD => by simp at hD; subst hD; exact ⟨Nat.le_refl _, hK7⟩⟩
    have HO : Hid (Rf.Open w8.heap.size [w8.heap.size] (W7.setCell ⟨w.heap.size + 1, 0, none⟩ (.bool false))) := hO7.kept (fun D hD => Below.heap_setCell _ _ _ D (fun e => by have := (hO7.2 D hD).1; have e' : D = w.heap.size + 1 := e; omega))
    have HBX : Hid (Boxed (W7.setCell ⟨w.heap.size + 1, 0, none⟩ (.bool false)) (w.heap.size + 1) 4 (.bool false)) := h2.set _
    have HBW : Hid (Below w.heap.size w (W7.setCell ⟨w.heap.size + 1, 0, none⟩ (.bool false))) := hBw7.setCell (p := ⟨w.heap.size + 1, 0, none⟩) (by show w.heap.size ≤ w.heap.size + 1; omega) _
    have hsz7 : Hid (w8.heap.size ≤ (W7.setCell ⟨w.heap.size + 1, 0, none⟩ (.bool false)).heap.size) := by
      show _ ≤ _
      have := h5.1.size
      simp
      omega
    have hrf : Hid (r = false) := by
      show _ = _
      rw [← HR.out]
      exact decide_eq_false h0
    have hc2 := h2.cell
    have hf2' := h2.frozen
    clear h2 h5 hK7 hO7 hBw7 h0
    go_wp2
    exact Rf.leaves_marks (B := w8.heap.size) (Ds := [w8.heap.size]) HO.out hsz7.out (fun W' hW' => ⟨_, results_bool rfl _ _ (w.heap.size + 1) false rfl ((hW'.cell (p := ⟨w.heap.size + 1, 0, none⟩) (by show w.heap.size + 1 < w8.heap.size; omega)).trans HBX.out.cell), by rw [hrf.out], HBW.out.trans (hW'.mono (by omega))⟩)
  case stop3 =>
    rintro c pre W7 hpre ⟨⟨rfl, hin⟩, h2, h5⟩ hK7
    have hBw7 : Below w.heap.size w W7 := hBw8.trans (h5.1.mono (Nat.le_succ _))
    have hO7 : Rf.Open w8.heap.size [w8.heap.size] W7 := ⟨by simp, fun D hD => by simp at hD; subst hD; exact ⟨Nat.le_refl _, hK7⟩⟩
    have hsz7 : w8.heap.size ≤ W7.heap.size := h5.1.size
    have hrt : Hid (r = true) := by
      show _ = _
      rw [← HR.out]
      obtain ⟨s, hs⟩ := hpre
      exact decide_eq_true (by rw [← hs]; simp [hin])
    go_wp2
    exact Rf.leaves_marks (B := w8.heap.size) (Ds := [w8.heap.size]) hO7 hsz7 (fun W' hW' => ⟨_, results_bool rfl _ _ (w.heap.size + 1) true rfl ((hW'.cell (p := ⟨w.heap.size + 1, 0, none⟩) (by show w.heap.size + 1 < w8.heap.size; omega)).trans h2.cell), by rw [hrt.out], hBw7.trans (hW'.mono (by omega))⟩)
end An
end Go.Proofs.YtalpbciceogjlaaDoor
