/- ArnH, ArnI, ArnJ, in one text. -/
import Derived.Test.YthabnombfbehkaaArnG
import Derived.Test.YthabnombfbehkaaArnA
import Derived.Lib.SliceRun
/- The program's arena: Frees (an iterator over a copy, from its end on), whether a slot is free. -/
namespace Go.Proofs.Ythabnombfbehkaa
set_option linter.ambiguousOpen false
open Go.RowKit
namespace An
open Ft Lv
set_option linter.unusedSimpArgs false
set_option linter.unusedVariables false
attribute [local go_sem] Oper.semAt_some

/-- Numbers that lie there, the first one last. -/
def RdF (w : World) (v : Value) (L : List Nat) : Prop :=
  ∃ a cap, v = .slice a L.length cap ∧ L.length ≤ cap ∧ cap ≤ maxLen ∧ (0 < L.length → ∃ g, a = some ⟨g, 0, none⟩ ∧ ∀ k i, L.reverse[k]? = some i → w.cell? ⟨g, k, none⟩ = some (nun i))

theorem rdF_own {w : World} {base n : Nat} {v : Value} {L : List Nat} (h : w.ownsRow base 3 1 v n (L.reverse.map nun)) : RdF w v L := by
  have hl := h.1
  simp only [List.length_map, List.length_reverse, Nat.mul_one] at hl
  subst hl
  obtain ⟨a, cap, hv, h1, h2, h3⟩ := Nm.own_shape h
  refine ⟨a, cap, hv, h1, h2, fun h0 => ?_⟩
  obtain ⟨g, rfl⟩ := h3 h0
  subst hv
  refine ⟨g, rfl, fun k i hk => ?_⟩
  have hkl := (List.getElem?_eq_some_iff.1 hk).1
  rw [List.length_reverse] at hkl
  have := h.cellAt (g := g) (cap := cap) k (by omega)
  rw [this, List.getElem?_map, hk]
  rfl

set_option maxRecDepth 100000 in
set_option maxHeartbeats 1000000 in
theorem frees_seq (L : List Nat) (Bl : Nat) (cv : Value) (w : World) (hB : w.cell? ⟨Bl, 0, none⟩ = some cv) (hlt : Bl < w.heap.size) (hR : RdF w cv L) (hL : L.length ≤ 32) :
    Rf.Seq Try.prog 36 #[.pointer (some ⟨Bl, 0, none⟩)] (fun i : Nat => #[nun i]) (fun b => b = Bl ∨ cv.ownBlock = some b) 0 L w := by
  intro l J Jx W hW hJ hJx hY h0
  have hc : W.cell? ⟨Bl, 0, none⟩ = some cv := (hW.cell (p := ⟨Bl, 0, none⟩) hlt).trans hB
  obtain ⟨a, cap, rfl, hcap, hmx, hcells⟩ := hR
  have HC : Hid (∀ k i, L.reverse[k]? = some i → ∃ g, a = some ⟨g, 0, none⟩ ∧ W.cell? ⟨g, k, none⟩ = some (nun i)) := fun k i hk => by
    have hkl := (List.getElem?_eq_some_iff.1 hk).1
    rw [List.length_reverse] at hkl
    obtain ⟨g, rfl, h⟩ := hcells (by omega)
    have h1 := h k i hk
    obtain ⟨ob, ho, _⟩ := cells_of_cell h1
    exact ⟨g, rfl, (hW.cell (p := ⟨g, k, none⟩) (Array.getElem?_eq_some_iff.1 ho).1).trans h1⟩
  obtain ⟨n, hn⟩ : ∃ n, L.length = n := ⟨_, rfl⟩
  rw [hn] at hc hcap hL
  rw [hn] at hY
  have HN := Hid.mk' hn
  have HY := Hid.mk' hY
  have hnI : (n : Int) ≤ 32 := by omega
  unfold maxLen at hmx
  clear hB hcells hn hY
  refine callsIn_of_wp Try.func36 rfl trivial ?_ rfl
  simp only [Try.ntmps36, List.size_toArray, List.length_cons, List.length_nil, Nat.reduceAdd, Nat.reduceSub, Array.replicate_succ, Array.replicate_zero, List.push_toArray, List.append_toArray, List.nil_append, List.cons_append]
  gi_wp2
  gi_loopw [3] (fun v wr => ∃ z : Int, -1 ≤ z ∧ z < n ∧ v = nu z ∧ Hid (J (L.take ((n : Int) - 1 - z).toNat) wr) ∧ Hid (Rf.Leaves (fun b => b = Bl ∨ (Value.slice a n cap).ownBlock = some b) W.heap.size (W.heap.size + 0) W wr)) (fun v _ => (intOf v + 1).toNat)
  case atStart => exact ⟨(n : Int) - 1, by omega, by omega, by go_num, by rw [show (n : Int) - 1 - ((n : Int) - 1) = 0 by omega]; exact Hid.mk' h0, Rf.Leaves.refl _ _ _ _⟩
  case round =>
    obtain ⟨z, hz1, hz2, rfl, HJ, HL⟩ := hrel
    have hcr0 : wr.cell? ⟨Bl, 0, none⟩ = some (.slice a n cap) := HL.out.cell (a := ⟨Bl, 0, none⟩) (.inl (.inl rfl)) hc
    by_cases hp : 0 ≤ z
    · obtain ⟨q, rfl⟩ : ∃ q : Nat, z = q := ⟨z.toNat, by omega⟩
      have hqn : q < n := by omega
      obtain ⟨k, hk⟩ : ∃ k : Nat, k = n - 1 - q := ⟨_, rfl⟩
      have hkk : ((n : Int) - 1 - (q : Int)).toNat = k := by omega
      rw [hkk] at HJ
      obtain ⟨i, hi⟩ : ∃ i, L[k]? = some i := ⟨L[k]'(by rw [HN.out]; omega), List.getElem?_eq_getElem _⟩
      have hri : L.reverse[q]? = some i := by
        rw [List.getElem?_reverse (by rw [HN.out]; exact hqn), HN.out, ← hk]
        exact hi
      obtain ⟨g, rfl, hci⟩ := HC.out q i hri
      have hcr : wr.cell? ⟨g, q, none⟩ = some (nun i) := HL.out.cell (a := ⟨g, q, none⟩) (.inl (.inr rfl)) hci
      have ht : L.take k ++ [i] = L.take (k + 1) := by
        obtain ⟨h1, rfl⟩ := List.getElem?_eq_some_iff.1 hi
        exact (List.take_succ_eq_append_getElem h1).symm
      have hpre : L.take k ++ [i] <+: L := by rw [ht]; exact List.take_prefix _ _
      obtain ⟨fn, tmps, assign, body, hy, hR⟩ := HY.out (L.take k) i wr hpre (by have := HL.out.size; omega) HJ.out
      rw [ht] at hR
      have HT := Hid.mk' ht
      have hk1 : Hid (((n : Int) - 1 - ((q : Int) - 1)).toNat = k + 1) := by show _ = _; omega
      clear ht hci hc hi hri hk hkk
      gi_wp2_with fail
      refine hR.mono ?_
      rintro e W3 (⟨rfl, hJ3, hk3⟩ | ⟨rfl, hJx3, _⟩)
      · gi_wp2
        go_roundw
        case rel => exact ⟨(q : Int) - 1, by omega, by omega, by go_num, by rw [hk1.out]; exact hJ3, HL.out.trans hk3⟩
        case measure => simp [intOf]
      · gi_wp2
        refine bodyPost_ret (results_none rfl _ _ _) rfl ?_
        exact ⟨⟨_, rfl⟩, .inr ⟨L.take (k + 1), by rw [← HT.out]; exact hpre, hJx3⟩⟩
    · obtain rfl : z = -1 := by omega
      have HJ2 : Hid (J L wr) := by
        have := HJ.out
        rwa [List.take_of_length_le (by rw [HN.out]; omega)] at this
      clear HJ hcr0
      gi_wp2
      go_end0
      exact ⟨⟨_, rfl⟩, .inl HJ2.out⟩

theorem cell_block {A B : World} {b o : Nat} (h : B.heap[b]? = A.heap[b]?) : B.cell? ⟨b, o, none⟩ = A.cell? ⟨b, o, none⟩ := by
  unfold World.cell?
  rw [h]

theorem frees_iter (L : List Nat) (Bl : Nat) (cv : Value) (w : World) (hB : w.cell? ⟨Bl, 0, none⟩ = some cv) (hR : RdF w cv L) (hL : L.length ≤ 32) (ho : ∀ b, cv.ownBlock = some b → b < w.heap.size) :
    IterA w (.func (.func 36) #[] #[.pointer (some ⟨Bl, 0, none⟩)]) (fun b => b = Bl ∨ cv.ownBlock = some b) L := by
  have hlt : Bl < w.heap.size := by
    obtain ⟨ob, h, _⟩ := cells_of_cell hB
    exact (Array.getElem?_eq_some_iff.1 h).1
  refine ⟨_, _, 0, rfl, enters_of Try.func36 (by kernel_rfl) rfl, ?_, fun W hs hX => frees_seq L Bl cv W ?_ (Nat.lt_of_lt_of_le hlt hs) ?_ hL⟩
  · rintro b (rfl | h)
    · exact hlt
    · exact ho b h
  · exact (cell_block (hX Bl (.inl rfl))).trans hB
  · obtain ⟨a, cap, rfl, h1, h2, h3⟩ := hR
    refine ⟨a, cap, rfl, h1, h2, fun h => ?_⟩
    obtain ⟨g, rfl, h4⟩ := h3 h
    exact ⟨g, rfl, fun k i hk => (cell_block (hX g (.inr rfl))).trans (h4 k i hk)⟩

/-- A copy of a row of one's own. -/
theorem clone_ints (v : Value) (n : Nat) (l : List Nat) (w : World) (h : w.ownsRow 0 3 1 v n (l.map nun)) (hn : n ≤ 32) :
    Calls Try.prog 35 #[v] w fun e w' => ∃ v', e = .returned v' ∧ w'.ownsRow w.heap.size 3 1 v' n (l.map nun) ∧ Below w.heap.size w w' := by
  have hl := h.1
  rw [List.length_map, Nat.mul_one] at hl
  have h0 := h
  rcases h.2 with ⟨rfl, h1⟩ | ⟨b, cap, cur, rfl, hb, hc, h3, h4, h5, h6⟩
  · subst h1
    obtain rfl := List.eq_nil_of_length_eq_zero hl
    refine (Try.slices_Clone_int_nil 0 0 w).mono ?_
    rintro e w' ⟨rfl, rfl⟩
    exact ⟨_, rfl, World.ownsRow_nil _ _ _ _, Below.refl _ _⟩
  · refine (Try.slices_Clone_int b 0 n cap (l.map (fun i : Nat => (i : Int))) w (by simp; omega) (by omega) (fun j hj => ?_)).mono ?_
    · rw [List.length_map] at hj
      have := h0.cellAt (g := b) (cap := cap) j (by omega)
      rw [Nat.zero_add, this, List.getElem?_map, List.getElem?_eq_getElem hj, List.getD_eq_getElem?_getD, List.getElem?_map, List.getElem?_eq_getElem hj]
      rfl
    · rintro e w' ⟨v', rfl, h7, _, h8⟩
      refine ⟨v', rfl, ?_, h8⟩
      rw [List.take_of_length_le (by simp; omega), List.map_map] at h7
      exact h7

set_option maxRecDepth 100000 in
set_option maxHeartbeats 1000000 in
theorem frees_any : FreesC RepP := fun w p F A ⟨fv, h, e⟩ hg => by
  have hfew := hg.few
  have hmf : ∀ fn first cap w, (Instr.makeFunc fn first cap).run Try.prog w = .ok (.func fn first cap) w := fun _ _ _ _ => rfl
  obtain ⟨q0, _, _⟩ := h.cells
  obtain ⟨a0, c0, hfv, _⟩ := Nm.own_shape h.fr
  have c1 := Hid.mk' (clone_ints fv A.fr.length A.fr.reverse w h.fr hfew)
  obtain ⟨n, hn⟩ : ∃ n, A.fr.length = n := ⟨_, rfl⟩
  rw [hn] at c1 hfv
  have HN := Hid.mk' hn
  subst hfv
  clear h hg e hn
  go_enter Try.func13, Try.ntmps13
  go_wp2_with fail
  refine c1.out.mono ?_
  rintro e w1 ⟨v', rfl, ho, hb⟩
  obtain ⟨a1, c2, rfl, _⟩ := Nm.own_shape ho
  have HB1 : Hid (Boxed (w1.alloc (.cells #[.slice a1 n c2] 22)) w1.heap.size 22 (.slice a1 n c2)) := Boxed.new w1 _ _
  have HO1 := Hid.mk' (ho.alloc (.cells #[.slice a1 n c2] 22))
  have HBW : Hid (Below w.heap.size w (w1.alloc (.cells #[.slice a1 n c2] 22))) := hb.alloc hb.size _
  have hs1 := hb.size
  have HLT := Hid.mk' ho.lt
  clear ho hb c1 q0
  go_wp2
  go_ret
  refine ⟨_, _, rfl, frees_iter A.fr w1.heap.size (.slice a1 n c2) _ HB1.out.cell (rdF_own HO1.out) hfew (fun b hb => (HO1.out.lt b hb).2), fun b hb => ?_, HBW.out⟩
  rcases hb with rfl | hb
  · exact hs1
  · exact (HLT.out b hb).1

set_option maxRecDepth 100000 in
set_option maxHeartbeats 2000000 in
theorem isFree_any (w : World) (p : Nat) (F : Nat → Prop) (A : Arn) (k : Nat) (h : RepP w p F A) (hg : Good A) :
    Calls Try.prog 53 #[ptr p, nun k] w fun e w' => e = .returned (.bool (decide (k ∈ A.fr))) ∧ Below w.heap.size w w' := by
  have hB1 : Below w.heap.size w ((w.alloc (.cells #[nun k] 3)).alloc (.cells #[.bool false] 4)) := ((Below.refl _ _).alloc (Nat.le_refl _) _).alloc (by simp) _
  have x0 : Boxed ((w.alloc (.cells #[nun k] 3)).alloc (.cells #[.bool false] 4)) w.heap.size 3 (nun k) := (Boxed.new w _ _).alloc _
  have x1 : Boxed ((w.alloc (.cells #[nun k] 3)).alloc (.cells #[.bool false] 4)) (w.heap.size + 1) 4 (.bool false) := by
    have := Boxed.new (w.alloc (.cells #[nun k] 3)) 4 (.bool false)
    simpa using this
  have hs1 : ((w.alloc (.cells #[nun k] 3)).alloc (.cells #[.bool false] 4)).heap.size = w.heap.size + 2 := by simp
  obtain ⟨W1, hW1⟩ : ∃ W1, (w.alloc (.cells #[nun k] 3)).alloc (.cells #[.bool false] 4) = W1 := ⟨_, rfl⟩
  rw [hW1] at hB1 x0 x1 hs1
  have HW1 := Hid.mk' hW1
  have cF := Hid.mk' (frees_any W1 p F A (keepP.below h hB1) hg)
  obtain ⟨r, hr⟩ : ∃ r, decide (k ∈ A.fr) = r := ⟨_, rfl⟩
  rw [hr]
  have HR := Hid.mk' hr
  have hB1H := Hid.mk' hB1
  clear h hg hW1 hr hB1
  refine (callsIn_wide (n := 8)).1 ?_
  refine callsIn_of_wp_marks Try.func53 rfl trivial ?_ rfl
  refine wpIn_wide.2 ?_
  simp only [Try.ntmps53, List.size_toArray, List.length_cons, List.length_nil, Nat.reduceAdd, Nat.reduceSub, Array.replicate_succ, Array.replicate_zero, List.push_toArray, List.append_toArray, List.nil_append, List.cons_append]
  go_wp2_with fail
  rw [HW1.out]
  refine cF.out.mono ?_
  rintro e w8 ⟨fv2, X, rfl, ⟨gf, lb, kk, rfl, hent, hXl, hsq⟩, hXn, hb8⟩
  have hs8 := hb8.size
  have hXn1 : ∀ b, X b → w.heap.size + 2 ≤ b := fun b hb => by
    have h1 := hXn b hb
    omega
  have HSQ := Hid.mk' (hsq w8 (Nat.le_refl _) (fun _ _ => rfl))
  have y0 : Boxed w8 w.heap.size 3 (nun k) := (hb8.block _ (by omega)).trans x0
  have y1 : Boxed w8 (w.heap.size + 1) 4 (.bool false) := (hb8.block _ (by omega)).trans x1
  have hBw8 : Below w.heap.size w w8 := hB1H.out.trans (hb8.mono hB1H.out.size)
  clear hsq cF x0 x1
  go_wp2_with fail
  refine Rf.wp_range (L := A.fr) (w0 := w8) rfl hent HSQ.out (Below.refl _ _) (fun _ => rfl) hXl
    (fun pre W' => k ∉ pre ∧ Boxed W' (w.heap.size + 1) 4 (.bool false) ∧ Rf.But (w.heap.size + 1) w8 W')
    (fun c pre W' => (c = .ret ∧ k ∈ pre) ∧ Boxed W' (w.heap.size + 1) 4 (.bool true) ∧ Rf.But (w.heap.size + 1) w8 W') ?rest3 ?restx3
    ⟨by simp, y1, Rf.But.refl _ _⟩ ?act3 ?assign3 ?body3 ?done3 ?stop3
  case assign3 =>
    intro l' x W2 K hK
    gi_wp2
    exact hK
  case rest3 =>
    rintro pre A B row ⟨v, h2, h5⟩ hg hr
    exact ⟨v, h2.kept hg (fun e => by have := (hr _ e.symm).1; omega), h5.rest (by omega) hg hr⟩
  case restx3 =>
    rintro c pre A B row ⟨v, h2, h5⟩ hg hr
    exact ⟨v, h2.kept hg (fun e => by have := (hr _ e.symm).1; omega), h5.rest (by omega) hg hr⟩
  case body3 =>
    rintro l' pre x W2 hpre hsz ⟨hnp, h2, h5⟩
    have z0 : W2.cell? ⟨w.heap.size, 0, none⟩ = some (nun k) := (h5.boxed y0 (by omega)).cell
    have hc2 := h2.cell
    have hf2' := h2.frozen
    by_cases he : x = k
    · subst he
      have hxx : ((x : Int) == (x : Int)) = true := by simp
      have HL : Hid (Rf.Leaves X w8.heap.size (w8.heap.size + 2 + kk) W2 (W2.setCell ⟨w.heap.size + 1, 0, none⟩ (.bool true))) := Rf.Leaves.grown (grownBy_setCell' W2 (w.heap.size + 1) (.bool true)) (fun r e => by
        cases e
        exact ⟨fun h => by have := hXn1 _ h; omega, .inl (by omega)⟩)
      have HBX : Hid (Boxed (W2.setCell ⟨w.heap.size + 1, 0, none⟩ (.bool true)) (w.heap.size + 1) 4 (.bool true)) := h2.set _
      have HBT : Hid (Rf.But (w.heap.size + 1) w8 (W2.setCell ⟨w.heap.size + 1, 0, none⟩ (.bool true))) := ⟨h5.1.setCell (p := ⟨w.heap.size + 1, 0, none⟩) (Nat.le_refl _) _, fun b hb hne => (Below.heap_setCell _ _ _ b hne).trans (h5.2 b hb hne)⟩
      clear h2 h5
      gi_wp2
      exact ⟨HL.out, ⟨rfl, by simp⟩, HBX.out, HBT.out⟩
    · have hxx : ((x : Int) == (k : Int)) = false := by simp; omega
      have HI : Hid (k ∉ pre ++ [x] ∧ Boxed W2 (w.heap.size + 1) 4 (.bool false) ∧ Rf.But (w.heap.size + 1) w8 W2) := ⟨by simp [hnp]; omega, h2, h5⟩
      clear h2 h5 he hnp
      gi_wp2
      exact ⟨Rf.Leaves.refl _ _ _ _, HI.out⟩
  case done3 =>
    rintro W7 ⟨h0, h2, h5⟩ hK7
    have hBw7 : Below w.heap.size w W7 := hBw8.trans (h5.1.mono (Nat.le_succ _))
    have hO7 : Rf.Open w8.heap.size [w8.heap.size] W7 := ⟨by simp, fun D hD => by simp at hD; subst hD; exact ⟨Nat.le_refl _, hK7⟩⟩
    have HO : Hid (Rf.Open w8.heap.size [w8.heap.size] (W7.setCell ⟨w.heap.size + 1, 0, none⟩ (.bool false))) := hO7.kept (fun D hD => Below.heap_setCell _ _ _ D (fun e => by have := (hO7.2 D hD).1; have e' : D = w.heap.size + 1 := e; omega))
    have HBX : Hid (Boxed (W7.setCell ⟨w.heap.size + 1, 0, none⟩ (.bool false)) (w.heap.size + 1) 4 (.bool false)) := h2.set _
    have HBW : Hid (Below w.heap.size w (W7.setCell ⟨w.heap.size + 1, 0, none⟩ (.bool false))) := hBw7.setCell (p := ⟨w.heap.size + 1, 0, none⟩) (by show w.heap.size ≤ w.heap.size + 1; omega) _
    have hsz7 : Hid (w8.heap.size ≤ (W7.setCell ⟨w.heap.size + 1, 0, none⟩ (.bool false)).heap.size) := by
      show _ ≤ _
      have := h5.1.size
      simp
      omega
    have hrf : Hid (r = false) := by
      show _ = _
      rw [← HR.out]
      exact decide_eq_false h0
    have hc2 := h2.cell
    have hf2' := h2.frozen
    clear h2 h5 hK7 hO7 hBw7 h0
    go_wp2
    exact Rf.leaves_marks (B := w8.heap.size) (Ds := [w8.heap.size]) HO.out hsz7.out (fun W' hW' => ⟨_, results_bool rfl _ _ (w.heap.size + 1) false rfl ((hW'.cell (p := ⟨w.heap.size + 1, 0, none⟩) (by show w.heap.size + 1 < w8.heap.size; omega)).trans HBX.out.cell), by rw [hrf.out], HBW.out.trans (hW'.mono (by omega))⟩)
  case stop3 =>
    rintro c pre W7 hpre ⟨⟨rfl, hin⟩, h2, h5⟩ hK7
    have hBw7 : Below w.heap.size w W7 := hBw8.trans (h5.1.mono (Nat.le_succ _))
    have hO7 : Rf.Open w8.heap.size [w8.heap.size] W7 := ⟨by simp, fun D hD => by simp at hD; subst hD; exact ⟨Nat.le_refl _, hK7⟩⟩
    have hsz7 : w8.heap.size ≤ W7.heap.size := h5.1.size
    have hrt : Hid (r = true) := by
      show _ = _
      rw [← HR.out]
      obtain ⟨s, hs⟩ := hpre
      exact decide_eq_true (by rw [← hs]; simp [hin])
    go_wp2
    exact Rf.leaves_marks (B := w8.heap.size) (Ds := [w8.heap.size]) hO7 hsz7 (fun W' hW' => ⟨_, results_bool rfl _ _ (w.heap.size + 1) true rfl ((hW'.cell (p := ⟨w.heap.size + 1, 0, none⟩) (by show w.heap.size + 1 < w8.heap.size; omega)).trans h2.cell), by rw [hrt.out], hBw7.trans (hW'.mono (by omega))⟩)
end An
end Go.Proofs.Ythabnombfbehkaa
/- The program's arena: Place (slices.DeleteFunc with a closure), Free. -/
namespace Go.Proofs.Ythabnombfbehkaa
set_option linter.ambiguousOpen false
open Go.RowKit
namespace An
open Ft Lv
set_option linter.unusedSimpArgs false
set_option linter.unusedVariables false

/-- A number of a row of one's own. -/
theorem own_at {w : World} {base n b cap : Nat} {l : List Nat} (h : w.ownsRow base 3 1 (.slice (some ⟨b, 0, none⟩) n cap) n (l.map nun)) (j x : Nat) (hx : l[j]? = some x) : w.cell? ⟨b, j, none⟩ = some (nun x) ∧ w.frozen? ⟨b, j, none⟩ = false := by
  have hl := h.1
  rw [List.length_map, Nat.mul_one] at hl
  have hj := (List.getElem?_eq_some_iff.1 hx).1
  obtain ⟨⟨u, h1, h2⟩, h3⟩ := Nm.own_cell h j (by omega)
  rw [List.getElem?_map, hx] at h1
  cases h1
  exact ⟨h2, h3⟩

/-! ### One is taken out -/

/-- The row amid it: i of the new one are laid. -/
def amid (R : List Nat) (m i : Nat) : List Nat := (R.eraseIdx m).take i ++ R.drop i

theorem erase_len (R : List Nat) (m : Nat) (h : m < R.length) : (R.eraseIdx m).length = R.length - 1 := List.length_eraseIdx_of_lt h

theorem amid_start (R : List Nat) (m : Nat) (h : m < R.length) : amid R m m = R := by
  unfold amid
  rw [List.eraseIdx_eq_take_drop_succ, List.take_append_of_le_length (by rw [List.length_take]; omega), List.take_of_length_le (by rw [List.length_take]; omega), List.take_append_drop]

theorem amid_next (R : List Nat) (m i : Nat) (h : i < R.length) : (amid R m i)[i + 1]? = R[i + 1]? := by
  rcases Nat.lt_or_ge m R.length with hm | hm
  · have := erase_len R m hm
    unfold amid
    have hl : ((R.eraseIdx m).take i).length = i := by rw [List.length_take]; omega
    rw [List.getElem?_append_right (by omega), hl, List.getElem?_drop]
    congr 1
    omega
  · unfold amid
    rw [List.eraseIdx_of_length_le hm, List.take_append_drop]

theorem amid_set (R : List Nat) (m i x : Nat) (hm : m ≤ i) (h : R[i + 1]? = some x) : (amid R m i).set i x = amid R m (i + 1) := by
  have hi := (List.getElem?_eq_some_iff.1 h).1
  have he := erase_len R m (by omega)
  have hl : ((R.eraseIdx m).take i).length = i := by rw [List.length_take]; omega
  unfold amid
  rw [List.set_append_right _ _ (by omega), hl, Nat.sub_self]
  have h1 : (R.eraseIdx m)[i]? = some x := by
    rw [List.getElem?_eraseIdx, if_neg (by omega)]
    exact h
  obtain ⟨h2, h3⟩ := List.getElem?_eq_some_iff.1 h1
  rw [List.take_succ_eq_append_getElem h2, h3, List.append_assoc]
  congr 1
  rw [List.drop_eq_getElem_cons (by omega)]
  rfl

theorem amid_end (R : List Nat) (m q : Nat) (hm : m < R.length) (hq : R.length = q + 1) (z : Nat) : ((amid R m q).set q z).take q = R.eraseIdx m := by
  have he := erase_len R m hm
  unfold amid
  have hl : ((R.eraseIdx m).take q).length = q := by rw [List.length_take]; omega
  rw [List.set_append_right _ _ (by omega), List.take_append_of_le_length (by omega), List.take_take, Nat.min_self, List.take_of_length_le (by omega)]

theorem slice_fromI (b len cap k : Nat) (h : k < cap) (hl : k ≤ len) (hc : len ≤ cap) (w : World) : (Instr.slice 22 (.slice (some ⟨b, 0, none⟩) len cap) (some (.int .i64 (k : Int))) none none).run Try.prog w = .ok (.slice (some ⟨b, k, none⟩) (len - k) (cap - k)) w := by
  have h1 : (0 : Int) ≤ (k : Int) ∧ (k : Int) ≤ (cap : Int) := by omega
  have hu := Try.underlying22
  simp [Instr.slice, Instr.sliceBounds, Instr.sliceBound, asIntOf, run_underlying hu, Addr.add]
  rw [if_pos hl, if_neg (by omega)]
  by_cases h0 : k = 0
  · subst h0
    rfl
  · rw [if_neg h0]

/-! ### Place, Free -/

theorem PAn.setFree' {w : World} {p : Nat} {fv : Value} {A : Arn} (hblk : w.heap[p]? = some (.cells (pcs A fv).toArray 77)) (hlen : A.sl.length = 32) {lv : Value} {l : List Nat} (ho : w.ownsRow 0 3 1 lv l.length (l.reverse.map nun)) : PAn (w.setCell ⟨p, 544, none⟩ lv) p lv ⟨A.sl, l, A.wr⟩ := by
  have hG : w.grownBy (w.setCell ⟨p, 544, none⟩ lv) (some p) := ⟨rfl, rfl, rfl, by simp, fun k hk hn => Below.heap_setCell _ _ _ k (fun e => hn (by rw [e]))⟩
  have hl : (scs A.sl).length = 544 := by rw [scs_len, hlen]
  have hne : lv.ownBlock ≠ some p := fun e => by
    obtain ⟨c, hc, _⟩ := own_cellsT ho e
    rw [hblk] at hc
    simp at hc
  refine ⟨?_, hlen, ho.kept hG (.inr hne)⟩
  rw [heap_setCell_same _ p 544 _ _ _ hblk]
  refine congrArg (fun c => some (Obj.cells c 77 (0, 0))) ?_
  simp only [pcs, List.setIfInBounds_toArray]
  rw [List.set_append_right _ _ (by omega), hl]
  rfl

theorem nodup_rev {l : List Nat} (h : l.Nodup) : l.reverse.Nodup := List.pairwise_reverse.2 (h.imp (fun e => Ne.symm e))

theorem erase_rev (l : List Nat) (k : Nat) (h : l.Nodup) : (l.erase k).reverse = l.reverse.erase k := by
  rw [List.Nodup.erase_eq_filter h k, List.Nodup.erase_eq_filter (nodup_rev h) k, List.filter_reverse]

set_option maxRecDepth 100000 in
set_option maxHeartbeats 1000000 in
theorem free_any : FreeC RepP := fun w p F A i ⟨fv, h, e⟩ hg hwr hi => by
  subst e
  obtain ⟨i0, ji, hz0, hz1, hz2⟩ := info_parts info_int
  have c1 := Hid.mk' (isSlot_any i w)
  unfold Arn.free
  by_cases ht : there i
  · rw [if_pos ht]
    simp only [decide_eq_true ht] at c1
    obtain ⟨k, rfl⟩ : ∃ k : Nat, i = (k : Int) := ⟨i.toNat, by omega⟩
    have hk : k < 32 := by omega
    simp only [Int.toNat_natCast]
    have c2 := Hid.mk' (isFree_any w p (pfp p fv) A k ⟨fv, h, rfl⟩ hg)
    by_cases hm : k ∈ A.fr
    · rw [if_pos hm]
      rw [decide_eq_true hm] at c2
      have HP := Hid.mk' h
      clear h hg hi hm ht
      go_enter Try.func34, Try.ntmps34
      go_wp2_with fail
      refine c1.out.mono ?_
      rintro e w1 ⟨rfl, hw1⟩
      subst w1
      go_wp2_with fail
      refine c2.out.mono ?_
      rintro e w1 ⟨rfl, hb1⟩
      have HL : Hid (Left RepP w w1 p (pfp p fv) A) := leftP_self (HP.out.below hb1) (Keep.of_below hb1)
      clear hb1
      go_wp2
      go_ret
      exact ⟨rfl, HL.out⟩
    · rw [if_neg hm]
      rw [decide_eq_false hm] at c2
      have hfew := hg.few
      have HP := Hid.mk' h
      have cB : Hid (∀ wx, _) := fun wx => bare_any wx
      have cW : Hid (∀ wx lv, PAn wx p lv ⟨A.sl, k :: A.fr, A.wr⟩ → _) := fun wx lv hp => write_any wx p lv ⟨A.sl, k :: A.fr, A.wr⟩ k bare hp hk hwr
      obtain ⟨af, cf, hfv, _⟩ := Nm.own_shape h.fr
      obtain ⟨n, hn⟩ : ∃ n, A.fr.length = n := ⟨_, rfl⟩
      rw [hn] at hfv hfew
      have HN := Hid.mk' hn
      subst hfv
      clear h hg hi hm ht hwr hn
      go_enter Try.func34, Try.ntmps34
      go_wp2_with fail
      refine c1.out.mono ?_
      rintro e w1 ⟨rfl, hw1⟩
      subst w1
      go_wp2_with fail
      refine c2.out.mono ?_
      rintro e w1 ⟨rfl, hb1⟩
      have HP1 := Hid.mk' (HP.out.below hb1)
      have HB1 := Hid.mk' hb1
      have hq0 := HP1.out.cells.1
      have q0' : (w1.alloc (.cells #[nun k] 3)).cell? ⟨p, 544, none⟩ = some (.slice af n cf) := (World.cell?_alloc_lt _ _ _ HP1.out.plt).trans hq0
      have HBA : Hid (Below w1.heap.size w1 (w1.alloc (.cells #[nun k] 3))) := (Below.refl _ _).alloc (Nat.le_refl _) _
      have HPA := Hid.mk' (HP1.out.below HBA.out)
      have HF0 : Hid ((w1.alloc (.cells #[nun k] 3)).ownsRow 0 3 1 (.slice af n cf) n (A.fr.reverse.map nun)) := by have := HPA.out.fr; rwa [HN.out] at this
      clear hb1 c1 c2
      go_upto_region 6 with (at_builtin; refine Nm.wpList_append_keep _ rfl _ _ 22 rfl 0 3 i0 (.int .i64 0) 1 8 Try.underlying22 ji hz0 hz1 hz2 rfl (by decide) _ n _ rfl HF0.out ⟨w1.heap.size, 0, none⟩ 1 1 [nun k] rfl rfl (cell_one_new _ _ _) (by simp [Value.oneCell']) (by unfold maxLen; omega) (by omega) (Nat.zero_le _) (by decide) ?_; intro v4 w4 hg4; obtain ⟨ho4, hgr4, _, hpl4⟩ := hg4; obtain ⟨a4, c4, rfl, _⟩ := Nm.own_shape ho4; have HO4 := Hid.mk' ho4; have HG4 := Hid.mk' hgr4; have HPL := Hid.mk' hpl4; have hblk4 := (hgr4.block p HPA.out.plt (fun e => HPA.out.ne e.symm)).trans HPA.out.blk; have HBK4 := Hid.mk' hblk4; have z1 := (World.cell?_of_block (a := ⟨p, 544, none⟩) (hgr4.block p HPA.out.plt (fun e => HPA.out.ne e.symm))).trans q0'; have zf : w4.frozen? ⟨p, 544, none⟩ = false := (by simp [World.frozen?, hblk4]); clear ho4 hgr4 hpl4 hblk4)
      have hP5 : PAn (w4.setCell ⟨p, 544, none⟩ (.slice a4 (n + 1) c4)) p (.slice a4 (n + 1) c4) ⟨A.sl, k :: A.fr, A.wr⟩ := PAn.setFree' HBK4.out HPA.out.len (by
        rw [List.length_cons, HN.out, List.reverse_cons, List.map_append]
        exact HO4.out)
      have hK5 : Keep (pfp p (.slice af n cf)) w (w4.setCell ⟨p, 544, none⟩ (.slice a4 (n + 1) c4)) := by
        have h1 : Keep (pfp p (.slice af n cf)) w (w1.alloc (.cells #[nun k] 3)) := Keep.of_below (HB1.out.alloc HB1.out.size _)
        have h2 := h1.grown HG4.out (fun j e => .inl (.inr e))
        exact h2.setCell (p := ⟨p, 544, none⟩) (.inl (.inl rfl)) _
      have HGO : Hid (Goes w (pfp p (.slice af n cf)) (pfp p (.slice a4 (n + 1) c4))) := fun j hj => by
        rcases hj with e | e
        · exact .inl (.inl e)
        · rcases HPL.out with h1 | ⟨b, h1, h2⟩
          · exact .inl (.inr (h1.symm.trans e))
          · rw [h1] at e
            cases e
            have := HB1.out.size
            have h3 : (w1.alloc (.cells #[nun k] 3)).heap.size = w1.heap.size + 1 := by simp
            exact .inr (by have h4 : (w1.alloc (.cells #[nun k] 3)).heap.size ≤ j := h2; omega)
      clear HG4 HPL HO4 HBK4 z1 zf HF0 HPA HBA q0' hq0 HP1 HB1 HP
      generalize w4.setCell ⟨p, 544, none⟩ (.slice a4 (n + 1) c4) = w5 at *
      have HB6 : Hid (Below w5.heap.size w5 (w5.alloc (.cells bare.cells.toArray 49))) := (Below.refl _ _).alloc (Nat.le_refl _) _
      have HP6 := Hid.mk' (hP5.below HB6.out)
      have HK6 := Hid.mk' (hK5.trans (Keep.of_below (F := fun _ => False) HB6.out) (fun _ _ h => h.elim))
      clear hP5 hK5
      go_wp2_with fail
      refine (cB.out _).mono ?_
      rintro e w6 ⟨rfl, hw6⟩
      rw [← hw6] at HP6 HK6 HB6
      clear hw6
      go_wp2_with fail
      refine (cW.out _ _ HP6.out).mono ?_
      rintro e w7 ⟨⟨u, rfl⟩, hp7, hk7⟩
      have HL : Hid (Left RepP w w7 p (pfp p (.slice af n cf)) ⟨A.sl.set k bare, k :: A.fr, A.wr + 1⟩) := ⟨_, ⟨_, hp7, rfl⟩, HK6.out.trans hk7 (fun j _ e => .inl e), HGO.out⟩
      clear hp7 hk7 cB cW
      go_wp2
      go_ret
      exact ⟨rfl, HL.out⟩
  · rw [if_neg ht]
    simp only [decide_eq_false ht] at c1
    have HL : Hid (Left RepP w w p (pfp p fv) A) := leftP_self h (Keep.refl _ _)
    clear ht h hi hwr
    go_enter Try.func34, Try.ntmps34
    go_wp2_with fail
    refine c1.out.mono ?_
    rintro e w1 ⟨rfl, hw1⟩
    subst w1
    go_wp2
    go_ret
    exact ⟨rfl, HL.out⟩
end An
end Go.Proofs.Ythabnombfbehkaa
/- The program's arena: New; all its calls answer as they must. -/
namespace Go.Proofs.Ythabnombfbehkaa
set_option linter.ambiguousOpen false
open Go.RowKit
namespace An
open Ft Lv
set_option linter.unusedSimpArgs false
set_option linter.unusedVariables false

/-- The arena that New is at: i slots are bare and free. -/
def arnN (i : Nat) : Arn := ⟨List.replicate i bare ++ List.replicate (32 - i) slt0, (List.range 32).drop (32 - i), 0⟩

/-- The cells of the zero value. -/
def arnZ : List Value := pcs (arnN 0) (.slice none 0 0)

theorem arnN_len (i : Nat) (h : i ≤ 32) : (arnN i).sl.length = 32 := by
  unfold arnN
  simp
  omega

theorem arnN_frlen (i : Nat) (h : i ≤ 32) : (arnN i).fr.length = i := by
  unfold arnN
  simp
  omega

theorem arnN_set (i : Nat) (h : i < 32) : (arnN i).sl.set i bare = (arnN (i + 1)).sl := by
  unfold arnN
  simp only
  rw [List.set_append_right _ _ (by simp), List.length_replicate, Nat.sub_self, show 32 - i = (32 - (i + 1)) + 1 by omega, List.replicate_succ, List.set_cons_zero, List.replicate_succ', List.append_assoc]
  rfl

theorem arnN_fr (i : Nat) (h : i < 32) : (arnN (i + 1)).fr = (31 - i) :: (arnN i).fr := by
  unfold arnN
  simp only
  rw [List.drop_eq_getElem_cons (by simp; omega), show 32 - (i + 1) + 1 = 32 - i by omega, List.getElem_range, show 32 - (i + 1) = 31 - i by omega]

theorem arnN_end : arnN 32 = arn0 := by kernel_rfl

theorem arn_info : (Try.prog.info? 77).map (fun i => (i.zero, i.size)) = some (some (.agg arnZ.toArray), 546) := by kernel_rfl

theorem arnZ_len : arnZ.length = 546 := by kernel_rfl

theorem arn_build (w : World) : (Instr.build 77 #[]).run Try.prog w = .ok (.agg arnZ.toArray) w := by
  obtain ⟨i, hi, h2⟩ : ∃ i, Try.prog.info? 77 = some i ∧ i.zero = some (.agg arnZ.toArray) := by
    have := arn_info
    cases h : Try.prog.info? 77 with
    | none => rw [h] at this; simp at this
    | some i =>
      rw [h] at this
      simp only [Option.map_some, Option.some.injEq, Prod.mk.injEq] at this
      exact ⟨i, rfl, this.1⟩
  have hz : (zeroValue 77).run Try.prog w = .ok (.agg arnZ.toArray) w := by
    simp [zeroValue, typeInfo, hi, h2, go_sem]
  have hs1 := Try.sizeOf75 w
  have hs2 := Try.sizeOf22 w
  have hs3 := Try.sizeOf3 w
  simp [Instr.build, hz, run_underlying Try.underlying77, hs1, hs2, hs3, Instr.fill, Value.cells]

set_option maxRecDepth 100000 in
theorem wpList_build_arn {ops : Array Oper} {rest : List Oper} {op : Oper} {a : Act} {w : World} {Q : Exit → Act → World → Prop} (hgd : op.guard = none) (ho : op.op = .build 77 #[])
    (h : wpList Try.prog ops Q rest (a.put op.dst (.agg arnZ.toArray)) w) : wpList Try.prog ops Q (op :: rest) a w := by
  refine wpList_plain hgd fun K hK => ?_
  unfold Oper.wp execOp
  simp only [ho, List.map_toArray, List.map_nil, Sem.run_bind, Sem.run_pure, Result.andThen_ok, arn_build]
  exact hK _ _ h

set_option maxRecDepth 100000 in
theorem wpList_box_arn {ops : Array Oper} {rest : List Oper} {op : Oper} {a : Act} {w : World} {Q : Exit → Act → World → Prop} (hgd : op.guard = none) (x : Operand) (ho : op.op = .box 77 x) (hx : a.eval x = .agg arnZ.toArray)
    (h : wpList Try.prog ops Q rest (a.put op.dst (.pointer (some ⟨w.heap.size, 0, none⟩))) (w.alloc (.cells arnZ.toArray 77))) : wpList Try.prog ops Q (op :: rest) a w := by
  refine wpList_plain hgd fun K hK => ?_
  have hb : (Instr.box 77 (.agg arnZ.toArray)).run Try.prog w = .ok (.pointer (some ⟨w.heap.size, 0, none⟩)) (w.alloc (.cells arnZ.toArray 77)) := by
    simp [Instr.box, newVar, newRow, Value.cells]
  unfold Oper.wp execOp
  simp only [ho, hx, Sem.run_bind, Sem.run_pure, Result.andThen_ok, hb]
  exact hK _ _ h

/-- What New holds amid it. -/
def NwA (w wr : World) (i : Nat) : Prop := ∃ fv, PAn wr w.heap.size fv (arnN i) ∧ (∀ j, fv.ownBlock = some j → w.heap.size ≤ j) ∧ Below w.heap.size w wr

set_option maxRecDepth 100000 in
set_option maxHeartbeats 2000000 in
theorem new_any : NewC RepP := fun w => by
  obtain ⟨i0, ji, hz0, hz1, hz2⟩ := info_parts info_int
  have cB : Hid (∀ wx, _) := fun wx => bare_any wx
  have H0 : Hid (NwA w (w.alloc (.cells arnZ.toArray 77)) 0) := by
    refine ⟨.slice none 0 0, ⟨heap_alloc_new _ _, arnN_len 0 (by omega), ?_⟩, fun j hj => by simp [Value.ownBlock] at hj, (Below.refl _ _).alloc (Nat.le_refl _) _⟩
    exact World.ownsRow_nil _ _ _ _
  go_enter Try.func17, Try.ntmps17
  go_wp2_with (first | (refine wpList_build_arn rfl rfl ?_) | (refine wpList_box_arn rfl _ rfl rfl ?_) | fail)
  generalize w.alloc (.cells arnZ.toArray 77) = wA at *
  obtain ⟨p, hp⟩ : ∃ p, w.heap.size = p := ⟨_, rfl⟩
  rw [hp]
  have HP0 := Hid.mk' hp
  clear hp
  go_loopw [5] (fun iv wr => ∃ i : Nat, i ≤ 32 ∧ iv = nun i ∧ Hid (NwA w wr i)) (fun iv _ => 32 - (intOf iv).toNat)
  case atStart => exact ⟨0, by omega, rfl, H0⟩
  case round =>
    obtain ⟨i, hi, rfl, hN⟩ := hrel
    by_cases hlt : i < 32
    · obtain ⟨fv, hP, hF, hB⟩ := hN.out
      rw [HP0.out] at hP hF
      have hiI : (i : Int) < 32 := by omega
      have hi0 : (0 : Int) ≤ (i : Int) := by omega
      have hpw : p < wr.heap.size := hP.plt
      obtain ⟨w6, hw6⟩ : ∃ w6, wr.drew.alloc (.cells bare.cells.toArray 49) = w6 := ⟨_, rfl⟩
      have HW6 := Hid.mk' hw6
      have hb6 : Below wr.heap.size wr w6 := by rw [← hw6]; exact (Below.refl _ _).drew.alloc (Nat.le_refl _) _
      have hP6 := hP.below hb6
      have HTD := Hid.mk' (hP6.thereAt i hlt)
      have HP7 := Hid.mk' (hP6.stored i hlt bare)
      have HB7 : Hid (Below w.heap.size w (w6.setCells p (i * 17) bare.cells)) := by
        have hG := grown_setCells p bare.cells (i * 17) w6
        exact (hB.trans (hb6.mono hB.size)).grown hG (hB.trans (hb6.mono hB.size)).size (fun r e => by cases e; have := HP0.out; omega)
      have HF := Hid.mk' hF
      clear hw6 hP6 hP hF hB hN
      go_wp2_with fail
      refine wp_region_held_drew (S := fun w' => True) (by kernel_rfl) trivial (fun hHeld => ?_)
      refine wpAnyH_take (i := 0) (v := ?_) rfl (by kernel_rfl) (by kernel_rfl) (by kernel_rfl) (fun _ _ _ h => h) (Or.inl ⟨by rfl, ?_⟩) hHeld ?_
      rotate_left
      · (intro w' hS'; go_simp <;> with_reducible rfl)
      simp only [Act.put, List.getElem_toArray, List.getElem_cons_succ, List.getElem_cons_zero, List.setIfInBounds_toArray, List.set]
      refine wpAnyH_take (i := 1) (v := ?_) rfl (by kernel_rfl) (by kernel_rfl) (by kernel_rfl) (fun _ _ _ h => h) (Or.inl ⟨by rfl, ?_⟩) hHeld ?_
      rotate_left
      · (intro w' hS'; go_simp <;> with_reducible rfl)
      simp only [Act.put, List.getElem_toArray, List.getElem_cons_succ, List.getElem_cons_zero, List.setIfInBounds_toArray, List.set]
      refine wpAnyH_take (i := 3) (v := ?_) rfl (by kernel_rfl) (by kernel_rfl) (by kernel_rfl) (fun _ _ _ h => h) (Or.inl ⟨by rfl, ?_⟩) hHeld ?_
      rotate_left
      · (intro w' hS'; go_simp <;> with_reducible rfl)
      simp only [Act.put, List.getElem_toArray, List.getElem_cons_succ, List.getElem_cons_zero, List.setIfInBounds_toArray, List.set]
      refine wpAnyH_take (i := 4) (v := ?_) rfl (by kernel_rfl) (by kernel_rfl) (by kernel_rfl) (fun _ _ _ h => h) (Or.inl ⟨by rfl, ?_⟩) hHeld ?_
      rotate_left
      · (intro w' hS'; go_simp <;> with_reducible rfl)
      simp only [Act.put, List.getElem_toArray, List.getElem_cons_succ, List.getElem_cons_zero, List.setIfInBounds_toArray, List.set]
      refine wpAnyH_ready (rs := [2]) (by kernel_rfl) (by simp) ?_
      refine AllReadyH.cons rfl (fun K hK => ?_) AllReadyH.nil
      go_simp
      refine (cB.out _).mono ?_
      rintro e w7 ⟨rfl, hw7⟩
      rw [HW6.out] at hw7
      subst w7
      go_wp2_with fail
      refine hK.out _ _ trivial (fun hHeld => ?_)
      clear hK K
      refine wpAnyH_take (i := 5) (v := ?_) rfl (by kernel_rfl) (by kernel_rfl) (by kernel_rfl) (fun _ _ _ h => h) (Or.inl ⟨by rfl, ?_⟩) hHeld ?_
      rotate_left
      · (intro w' hS'; go_simp <;> with_reducible rfl)
      simp only [Act.put, List.getElem_toArray, List.getElem_cons_succ, List.getElem_cons_zero, List.setIfInBounds_toArray, List.set]
      refine wpAnyH_ready (rs := [6]) (by kernel_rfl) (by simp) ?_
      refine AllReadyH.cons rfl (fun K hK => ?_) AllReadyH.nil
      rw [if_pos (by rfl)]
      simp only [List.getElem_toArray, List.getElem_cons_succ, List.getElem_cons_zero]
      refine wp_store_mid 49 _ _ rfl p (i * 17) bare.cells.toArray rfl rfl HTD.out size_slt (all_one bare) ?_
      refine hK.out _ _ trivial (fun hHeld => ?_)
      clear hK K
      refine wpAnyH_done (by kernel_rfl) ?_ _
      simp only [Act.put, List.getElem_toArray, List.getElem_cons_succ, List.getElem_cons_zero, List.setIfInBounds_toArray, List.set]
      clear hHeld HTD HW6 hb6
      generalize w6.setCells p (i * 17) bare.cells = w7 at *
      obtain ⟨af, cf, hfv, _⟩ := Nm.own_shape HP7.out.fr
      have HLN : Hid ((arnN i).fr.length = i) := arnN_frlen i hi
      simp only [HLN.out] at hfv
      subst hfv
      have hP7 := HP7.out
      have hq0 := hP7.cells.1
      have hpl := hP7.plt
      have q0' : (w7.alloc (.cells #[nu (31 - (i : Int))] 3)).cell? ⟨p, 544, none⟩ = some (.slice af i cf) := (World.cell?_alloc_lt _ _ _ hpl).trans hq0
      have HBA : Hid (Below w7.heap.size w7 (w7.alloc (.cells #[nu (31 - (i : Int))] 3))) := (Below.refl _ _).alloc (Nat.le_refl _) _
      have HPA := Hid.mk' (hP7.below HBA.out)
      have HF0 : Hid ((w7.alloc (.cells #[nu (31 - (i : Int))] 3)).ownsRow 0 3 1 (.slice af i cf) i ((arnN i).fr.reverse.map nun)) := by have := HPA.out.fr; simp only [HLN.out] at this; exact this
      have HBB : Hid (Below w.heap.size w (w7.alloc (.cells #[nu (31 - (i : Int))] 3))) := HB7.out.alloc HB7.out.size _
      clear hP7 hpl
      go_upto_region 7 with (at_builtin; refine Nm.wpList_append_keep _ rfl _ _ 22 rfl 0 3 i0 (.int .i64 0) 1 8 Try.underlying22 ji hz0 hz1 hz2 rfl (by decide) _ i _ rfl HF0.out ⟨w7.heap.size, 0, none⟩ 1 1 [nu (31 - (i : Int))] rfl rfl (cell_one_new _ _ _) (by simp [Value.oneCell']) (by unfold maxLen; omega) (by omega) (Nat.zero_le _) (by decide) ?_; intro v4 w4 hg4; obtain ⟨ho4, hgr4, _, hpl4⟩ := hg4; obtain ⟨a4, c4, rfl, _⟩ := Nm.own_shape ho4; have HO4 := Hid.mk' ho4; have HG4 := Hid.mk' hgr4; have HPL := Hid.mk' hpl4; have hblk4 := (hgr4.block p HPA.out.plt (fun e => HPA.out.ne e.symm)).trans HPA.out.blk; have HBK4 := Hid.mk' hblk4; have z1 := (World.cell?_of_block (a := ⟨p, 544, none⟩) (hgr4.block p HPA.out.plt (fun e => HPA.out.ne e.symm))).trans q0'; have zf : w4.frozen? ⟨p, 544, none⟩ = false := (by simp [World.frozen?, hblk4]); clear ho4 hgr4 hpl4 hblk4)
      have hd : nu (31 - (i : Int)) = nun (31 - i) := by
        show Value.int .i64 _ = Value.int .i64 _
        congr 1
        omega
      have hP5 : PAn (w4.setCell ⟨p, 544, none⟩ (.slice a4 (i + 1) c4)) p (.slice a4 (i + 1) c4) ⟨(arnN i).sl.set i bare, (arnN (i + 1)).fr, (arnN i).wr⟩ := PAn.setFree' HBK4.out HPA.out.len (by
        rw [arnN_frlen (i + 1) (by omega), arnN_fr i hlt, List.reverse_cons, List.map_append]
        have := HO4.out
        rw [hd] at this
        exact this)
      rw [arnN_set i hlt] at hP5
      have HN5 : Hid (NwA w (w4.setCell ⟨p, 544, none⟩ (.slice a4 (i + 1) c4)) (i + 1)) := by
        refine ⟨.slice a4 (i + 1) c4, by rw [HP0.out]; exact hP5, fun j hj => ?_, ?_⟩
        · rcases HPL.out with h1 | ⟨b, h1, h2⟩
          · rw [HP0.out]
            exact HF.out j (h1.symm.trans hj)
          · rw [h1] at hj
            cases hj
            exact Nat.le_trans HBB.out.size h2
        · have h1 := HBB.out.grown HG4.out HBB.out.size (fun r e => by rw [HP0.out]; exact HF.out r e)
          exact h1.setCell (p := ⟨p, 544, none⟩) (by rw [HP0.out]; exact Nat.le_refl _) _
      clear hP5 HO4 HG4 HPL HBK4 z1 zf HF0 HPA HBA q0' HP7 hd hq0
      go_wp2
      go_roundw
      case rel => exact ⟨i + 1, by omega, by go_num, HN5⟩
      case measure => simp [intOf]; omega
    · obtain rfl : i = 32 := by omega
      go_wp2
      go_ret
      obtain ⟨fv, hP, hF, hB⟩ := hN.out
      rw [arnN_end] at hP
      refine ⟨w.heap.size, pfp w.heap.size fv, by rw [HP0.out]; rfl, ⟨fv, hP, rfl⟩, fun k hk => ?_, hB⟩
      rcases hk with rfl | hk
      · exact Nat.le_refl _
      · exact hF k hk
end An
end Go.Proofs.Ythabnombfbehkaa
