import Derived.Test.YteclbmmhidmklaaDoorSoZ
import Derived.Test.YteclbmmhidmklaaDoorHqY
import Derived.Test.YteclbmmhidmklaaDoorHqH
/- The program's heap: All, and what it hands out; its calls meet what is asked of them. -/
namespace Go.Proofs.YteclbmmhidmklaaDoor
set_option linter.ambiguousOpen false
open Go.RowKit
namespace Hq
open Hh Ft
set_option linter.unusedSimpArgs false
set_option linter.unusedVariables false
attribute [local go_sem] Oper.semAt_some

theorem own_base {w : World} {base b g c n size : Nat} {e : TypeId} {xs : List Value} (h : w.ownsRow base e size (slc g n c) n xs) (hb : b ≤ g) : w.ownsRow b e size (slc g n c) n xs := by
  refine ⟨h.1, ?_⟩
  rcases h.2 with ⟨h1, _⟩ | ⟨g', cap, cur, e1, hbg, rest⟩
  · simp at h1
  · have : g = g' := by
      simp only [Value.slice.injEq, Option.some.injEq, Addr.mk.injEq] at e1
      exact e1.1.1
    subst this
    exact .inr ⟨g, cap, cur, e1, hb, rest⟩

theorem own_at {w : World} {base g c n size : Nat} {e : TypeId} {xs : List Value} (h : w.ownsRow base e size (slc g n c) n xs) : base ≤ g ∧ g < w.heap.size := by
  rcases h.2 with ⟨h1, _⟩ | ⟨g', cap, cur, e1, hbg, hg, rest⟩
  · simp at h1
  · have : g = g' := by
      simp only [Value.slice.injEq, Option.some.injEq, Addr.mk.injEq] at e1
      exact e1.1.1
    subst this
    exact ⟨hbg, (Array.getElem?_eq_some_iff.1 hg).1⟩

/-- A copy of the row, sorted. -/
def SortedQ (w w' : World) (n : Nat) (D : List It) (v : Value) : Prop := ∃ E, w'.ownsRow w.heap.size 65 2 v n (E.flatMap It.cells) ∧ E.Perm D ∧ Srt 0 n E ∧ E.length = n ∧ Below w.heap.size w w'

set_option maxRecDepth 100000 in
set_option maxHeartbeats 4000000 in
theorem sorted_p {w : World} {p : Nat} {rv : Value} {ab ac n m : Nat} {D : List It} {A : List Int} (h : LayV w p rv ab ac n m D A) :
    Calls Tryd.prog 25 #[ptr p] w fun e w' => ∃ v, e = .returned v ∧ SortedQ w w' n D v := by
  obtain ⟨q0, q1, _, _⟩ := h.cells
  have hmf : ∀ fn first cap w, (Instr.makeFunc fn first cap).run Tryd.prog w = .ok (.func fn first cap) w := fun _ _ _ _ => rfl
  have hrow := h.row.2
  have hfew := Nat.le_trans h.few2 h.few
  have hpl := h.lt p (.inl rfl)
  rcases hrow with ⟨rfl, rfl⟩ | ⟨g, c, cur, rfl, _, hg, hc1, hc2, _⟩
  · obtain rfl : D = [] := List.eq_nil_of_length_eq_zero h.hn
    have c1 := Hid.mk' (AnyE.slices_Clone_nil Tryd.layClone 0 0 w)
    have c2 := Hid.mk' (sortFunc_0 p (.slice none 0 0) none 0 w rfl)
    have HE : Hid (SortedQ w w 0 [] (.slice none 0 0)) := ⟨[], World.ownsRow_nil _ _ _ _, List.Perm.refl _, fun i j _ _ h => absurd h (by omega), rfl, Below.refl _ _⟩
    clear h hfew hpl
    go_enter Tryd.func25, Tryd.ntmps25
    go_wp2_with fail
    refine c1.out.mono ?_
    rintro e w1 ⟨rfl, rfl⟩
    clear c1
    go_wp2_with fail
    refine c2.out.mono ?_
    rintro e w2 ⟨rfl, rfl⟩
    go_wp2
    go_ret
    exact ⟨_, rfl, HE.out⟩
  · obtain ⟨i0, hi, hz0, hz1, hz2⟩ := info_parts infoE
    have c1 : Hid (Calls Tryd.prog 48 #[slc g n c] w fun e w' => ∃ v', e = .returned v' ∧ Hid (w'.ownsRow w.heap.size 65 2 v' n (D.flatMap It.cells) ∧ v' ≠ .slice none 0 0 ∧ Below w.heap.size w w')) :=
      AnyE.slices_Clone Tryd.layClone i0 (.agg #[.int .i64 0, .int .i64 0]) 2 16 hi hz0 hz1 hz2 rfl (by decide) Tryd.sizeOf65 g 0 n c (D.flatMap It.cells) w (by rw [flat_lenI, h.hn]) (by unfold maxLen; omega) (by omega) (fun j u hj => by
        rw [Nat.zero_add]
        exact (own_cellS h.row j u hj).1) (one_flatI D)
    have HH := Hid.mk' h
    clear h hi hz0 hz1 hz2 hg
    go_enter Tryd.func25, Tryd.ntmps25
    go_wp2_with fail
    refine c1.out.mono ?_
    rintro e w1 ⟨v', rfl, HC⟩
    obtain ⟨ho, hne, hb⟩ := HC.out
    rcases ho.2 with ⟨h0, _⟩ | ⟨g', c', cur', e1, hg1, hg2, hg3, hg4, _⟩
    · exact absurd h0 hne
    · subst e1
      have HBW := Hid.mk' hb
      have hsw : Sw p g' c' n w1 D := ⟨HH.out.hn, own_base ho (Nat.zero_le _), (hb.cell (p := ⟨p, 0, none⟩) (cell_lt HH.out.cells.1)).trans HH.out.cells.1, by omega, HH.out.rel.unl, hfew⟩
      have c2 := Hid.mk' (sortFunc_p hsw)
      have HG : Hid (w.heap.size ≤ g') := hg1
      clear ho hne hb hsw hg1 hg2 hg3 hg4 HC c1 q0 q1
      go_wp2_with fail
      refine c2.out.mono ?_
      rintro e w2 ⟨rfl, HE⟩
      have HE := Hid.mk' HE
      go_wp2
      go_ret
      obtain ⟨E, s1, s2, s3, s4⟩ := HE.out
      exact ⟨_, rfl, E, own_base s1.row HG.out, s3.perm, s4, s1.len, HBW.out.trans (s2.below (fun k hk e => by have := HG.out; omega) HBW.out.size)⟩

/-- A row of them lies there. -/
def RdE (w : World) (v : Value) (L : List It) : Prop :=
  ∃ a cap, v = .slice a L.length cap ∧ L.length ≤ cap ∧ cap ≤ maxLen ∧ (0 < L.length → ∃ g, a = some ⟨g, 0, none⟩ ∧ ∀ k x, L[k]? = some x → w.cell? ⟨g, k * 2, none⟩ = some (nu x.i) ∧ w.cell? ⟨g, k * 2 + 1, none⟩ = some (nu x.k))

theorem rdE_own {w : World} {base n : Nat} {v : Value} {L : List It} (h : w.ownsRow base 65 2 v n (L.flatMap It.cells)) (hn : L.length = n) : RdE w v L := by
  subst hn
  rcases h.2 with ⟨h1, h2⟩ | ⟨g, c, cur, e1, _, _, h3, h4, _⟩
  · exact ⟨none, 0, by rw [h1, h2], by omega, by unfold maxLen; omega, fun h0 => by omega⟩
  · subst e1
    refine ⟨_, c, rfl, h3, h4, fun _ => ⟨g, rfl, fun k x hx => ?_⟩⟩
    obtain ⟨hk, hxe⟩ := List.getElem?_eq_some_iff.1 hx
    have hf := flat_get L k hk
    rw [← atD_get hk, hxe] at hf
    exact ⟨(own_cellS h _ _ hf.1).1, (own_cellS h _ _ hf.2).1⟩

set_option maxRecDepth 100000 in
set_option maxHeartbeats 2000000 in
theorem ents_seq (L : List It) (Bl : Nat) (cv : Value) (w : World) (hB : w.cell? ⟨Bl, 0, none⟩ = some cv) (hlt : Bl < w.heap.size) (hR : RdE w cv L) (hL : L.length ≤ 65536) :
    Rf.Seq Tryd.prog 26 #[.pointer (some ⟨Bl, 0, none⟩)] (fun x : It => #[nu x.i, nu x.k]) (fun b => b = Bl ∨ cv.ownBlock = some b) 0 L w := by
  intro l J Jx W hW hJ hJx hY h0
  have hc : W.cell? ⟨Bl, 0, none⟩ = some cv := (hW.cell (p := ⟨Bl, 0, none⟩) hlt).trans hB
  obtain ⟨a, cap, rfl, hcap, hmx, hcells⟩ := hR
  have HC : Hid (∀ k x, L[k]? = some x → ∃ g, a = some ⟨g, 0, none⟩ ∧ W.cell? ⟨g, k * 2, none⟩ = some (nu x.i) ∧ W.cell? ⟨g, k * 2 + 1, none⟩ = some (nu x.k)) := fun k x hk => by
    have hkl := (List.getElem?_eq_some_iff.1 hk).1
    obtain ⟨g, rfl, h⟩ := hcells (by omega)
    obtain ⟨h1, h2⟩ := h k x hk
    exact ⟨g, rfl, (hW.cell (p := ⟨g, k * 2, none⟩) (cell_lt h1)).trans h1, (hW.cell (p := ⟨g, k * 2 + 1, none⟩) (cell_lt h2)).trans h2⟩
  obtain ⟨n, hn⟩ : ∃ n, L.length = n := ⟨_, rfl⟩
  rw [hn] at hc hcap hL
  rw [hn] at hY
  have HN := Hid.mk' hn
  have HY := Hid.mk' hY
  have HJA := Hid.mk' hJ
  unfold maxLen at hmx
  have hcapI : (cap : Int) ≤ 9223372036854775807 := by omega
  clear hB hcells hn hY hJ hJx
  refine callsIn_of_wp Tryd.func26 rfl trivial ?_ rfl
  simp only [Tryd.ntmps26, List.size_toArray, List.length_cons, List.length_nil, Nat.reduceAdd, Nat.reduceSub, Array.replicate_succ, Array.replicate_zero, List.push_toArray, List.append_toArray, List.nil_append, List.cons_append]
  gi_wp2
  gi_loopw [7] (fun v wr => ∃ k : Nat, k ≤ n ∧ v = nun k ∧ Hid (J (L.take k) wr) ∧ Hid (Rf.Leaves (fun b => b = Bl ∨ (Value.slice a n cap).ownBlock = some b) W.heap.size (W.heap.size + 0) W wr)) (fun v _ => n - (intOf v).toNat)
  case atStart => exact ⟨0, Nat.zero_le _, rfl, Hid.mk' h0, Rf.Leaves.refl _ _ _ _⟩
  case round =>
    obtain ⟨k, hk, rfl, HJ, HL⟩ := hrel
    by_cases hp : k < n
    · obtain ⟨x, hx⟩ : ∃ x, L[k]? = some x := ⟨L[k]'(by rw [HN.out]; exact hp), List.getElem?_eq_getElem _⟩
      obtain ⟨g, rfl, hc1, hc2⟩ := HC.out k x hx
      have d0 : wr.cell? ⟨g, k * 2, none⟩ = some (nu x.i) := HL.out.cell (a := ⟨g, k * 2, none⟩) (.inl (.inr rfl)) hc1
      have d1 : wr.cell? ⟨g, k * 2 + 1, none⟩ = some (nu x.k) := HL.out.cell (a := ⟨g, k * 2 + 1, none⟩) (.inl (.inr rfl)) hc2
      have ht : L.take k ++ [x] = L.take (k + 1) := by
        obtain ⟨h1, rfl⟩ := List.getElem?_eq_some_iff.1 hx
        exact (List.take_succ_eq_append_getElem h1).symm
      have hpre : L.take k ++ [x] <+: L := by rw [ht]; exact List.take_prefix _ _
      have HSZ := HL.out.size
      have HR0 := HY.out (L.take k) x (wr.alloc (.cells #[nu x.i, nu x.k] 65)) hpre (by rw [World.size_alloc]; omega) (HJA.out.alloc _ HJ.out)
      rw [ht] at HR0 hpre
      have HA := HL.out.trans (Rf.Leaves.alloc (fun b => b = Bl ∨ (Value.slice (some ⟨g, 0, none⟩) n cap).ownBlock = some b) W.heap.size (W.heap.size + 0) wr (.cells #[nu x.i, nu x.k] 65))
      have HA := Hid.mk' HA
      have HT := Hid.mk' hpre
      obtain ⟨xi, xk⟩ := x
      dsimp only at d0 d1 HR0 HA
      obtain ⟨fn, tmps, assign, body, hy, hR⟩ := HR0
      have hkI : (k : Int) < (n : Int) := by omega
      have hk0 : (0 : Int) ≤ (k : Int) := by omega
      clear ht hx hc1 hc2 hc HSZ hpre
      gi_wp2_with fail
      refine hR.mono ?_
      rintro e W3 (⟨rfl, hJ3, hk3⟩ | ⟨rfl, hJx3, _⟩)
      · have HJ3 := Hid.mk' hJ3
        have HK3 := Hid.mk' hk3
        clear hJ3 hk3 hR
        gi_wp2
        go_roundw
        case rel => exact ⟨k + 1, by omega, by go_num, HJ3, HA.out.trans HK3.out⟩
        case measure => simp [intOf]; omega
      · have HJ3 := Hid.mk' hJx3
        clear hJx3 hR
        gi_wp2
        refine bodyPost_ret (results_none rfl _ _ _) rfl ?_
        exact ⟨⟨_, rfl⟩, .inr ⟨L.take (k + 1), HT.out, HJ3.out⟩⟩
    · have hnk : k = n := by omega
      have hkI : ¬ (k : Int) < (n : Int) := by omega
      have HJ2 : Hid (J L wr) := by
        have := HJ.out
        rwa [List.take_of_length_le (by rw [HN.out]; omega)] at this
      clear HJ hnk
      gi_wp2
      go_end0
      exact ⟨⟨_, rfl⟩, .inl HJ2.out⟩

theorem cell_blockE {A B : World} {b o : Nat} (h : B.heap[b]? = A.heap[b]?) : B.cell? ⟨b, o, none⟩ = A.cell? ⟨b, o, none⟩ := by
  unfold World.cell?
  rw [h]

theorem ents_iter (L : List It) (Bl : Nat) (cv : Value) (w : World) (hB : w.cell? ⟨Bl, 0, none⟩ = some cv) (hR : RdE w cv L) (hL : L.length ≤ 65536) (ho : ∀ b, cv.ownBlock = some b → b < w.heap.size) :
    IterH w (.func (.func 26) #[] #[.pointer (some ⟨Bl, 0, none⟩)]) (fun b => b = Bl ∨ cv.ownBlock = some b) L := by
  have hlt : Bl < w.heap.size := cell_lt hB
  refine ⟨_, _, 0, rfl, enters_of Tryd.func26 (by kernel_rfl) rfl, ?_, fun W hs hX => ents_seq L Bl cv W ?_ (Nat.lt_of_lt_of_le hlt hs) ?_ hL⟩
  · rintro b (rfl | h)
    · exact hlt
    · exact ho b h
  · exact (cell_blockE (hX Bl (.inl rfl))).trans hB
  · obtain ⟨a, cap, rfl, h1, h2, h3⟩ := hR
    refine ⟨a, cap, rfl, h1, h2, fun h => ?_⟩
    obtain ⟨g, rfl, h4⟩ := h3 h
    exact ⟨g, rfl, fun k x hk => ⟨(cell_blockE (hX g (.inr rfl))).trans (h4 k x hk).1, (cell_blockE (hX g (.inr rfl))).trans (h4 k x hk).2⟩⟩

/-- A row in its order of what a heap has is the heap's list. -/
theorem sorted_eq {N : Int} {E L : List It} {n : Nat} (hk : Hk N L) (hp : E.Perm L) (hs : Srt 0 n E) (hl : E.length = n) : E = L := by
  have hE : Hk N E := by
    refine ⟨?_, hk.nd.perm hp.symm (fun h => h.symm), fun x hx => hk.rng x (hp.mem_iff.1 hx)⟩
    rw [List.pairwise_iff_getElem]
    intro i j hi hj hij
    have := hs i j (Nat.zero_le _) hij (by omega)
    rwa [← atD_get hi, ← atD_get hj] at this
  exact ext_mem hE hk (fun x => hp.mem_iff)

set_option maxRecDepth 100000 in
set_option maxHeartbeats 2000000 in
theorem all_p (w : World) (p : Nat) (F : Nat → Prop) (N : Int) (L : List It) (h : RepQ w p F N L) (hk : Hk N L) :
    Calls Tryd.prog 8 #[ptr p] w fun e w' => ∃ fv X, e = .returned fv ∧ IterH w' fv X L ∧ (∀ b, X b → w.heap.size ≤ b) ∧ Below w.heap.size w w' := by
  obtain ⟨rv, ab, ac, n, m, D, A, h1, rfl, h3, h4, rfl⟩ := h
  have hmf : ∀ fn first cap w, (Instr.makeFunc fn first cap).run Tryd.prog w = .ok (.func fn first cap) w := fun _ _ _ _ => rfl
  have c1 : Hid (Calls Tryd.prog 25 #[ptr p] w fun e w' => ∃ a c, e = .returned (.slice a n c) ∧ Hid (w'.ownsRow w.heap.size 65 2 (.slice a n c) n (L.flatMap It.cells) ∧ L.length = n ∧ Below w.heap.size w w')) := by
    refine (sorted_p h1).mono ?_
    rintro e w' ⟨v, rfl, E, e1, e2, e3, e4, e5⟩
    obtain rfl := sorted_eq hk (e2.trans h3) e3 e4
    obtain ⟨a, c, rfl, _⟩ := rdE_own e1 e4
    rw [e4] at e1 ⊢
    exact ⟨a, c, rfl, e1, rfl, e5⟩
  have hfew := Nat.le_trans h1.few2 h1.few
  clear h1 h3 h4 hk
  go_enter Tryd.func8, Tryd.ntmps8
  go_wp2_with fail
  refine c1.out.mono ?_
  rintro e w1 ⟨a1, c2, rfl, HQ⟩
  obtain ⟨ho, hln, hb⟩ := HQ.out
  have HB1 : Hid (Boxed (w1.alloc (.cells #[.slice a1 n c2] 51)) w1.heap.size 51 (.slice a1 n c2)) := Boxed.new w1 _ _
  have HO1 := Hid.mk' (ho.alloc (.cells #[.slice a1 n c2] 51))
  have HBW : Hid (Below w.heap.size w (w1.alloc (.cells #[.slice a1 n c2] 51))) := hb.alloc hb.size _
  have hs1 := hb.size
  have HLT := Hid.mk' ho.lt
  have HLN := Hid.mk' hln
  clear ho hb hln HQ c1
  go_wp2
  go_ret
  refine ⟨_, _, rfl, ents_iter L w1.heap.size (.slice a1 n c2) _ HB1.out.cell (rdE_own HO1.out HLN.out) (by rw [HLN.out]; exact hfew) (fun b hb => (HO1.out.lt b hb).2), fun b hb => ?_, HBW.out⟩
  rcases hb with rfl | hb
  · exact hs1
  · exact (HLT.out b hb).1

theorem heapC_of : HeapC RepQ where
  toHeapB := heapB_of
  drop w p F N L i h hk _ := drop_p w p F N L i h hk
  all w p F N L h hk _ := all_p w p F N L h hk
end Hq
end Go.Proofs.YteclbmmhidmklaaDoor
