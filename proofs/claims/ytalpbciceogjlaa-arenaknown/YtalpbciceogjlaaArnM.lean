/- Each slot is free, once, or taken: out of what the program's calls must answer. -/
import Derived.Test.YtalpbciceogjlaaArnW
namespace Go.Proofs.Ytalpbciceogjlaa
set_option linter.ambiguousOpen false
open Go.RowKit
namespace An
open Ft Lv
set_option linter.unusedSimpArgs false
set_option linter.unusedVariables false
attribute [local go_sem] Oper.semAt_some

section
variable {Rep : World → Nat → (Nat → Prop) → Arn → Prop} {w0 w w' : World} {p X1 T : Nat} {F : Nat → Prop} {A A' : Arn}

/-- The arena, the law's table and its answer's cell, which lie apart. -/
structure Ap (Rep : World → Nat → (Nat → Prop) → Arn → Prop) (w0 w : World) (p X1 T : Nat) (F : Nat → Prop) (A : Arn) : Prop where
  rep : Rep w p F A
  good : Good A
  fl : ∀ k, F k → w0.heap.size ≤ k
  bel : Below w0.heap.size w0 w
  tab : Tab w T A.fr
  box : Boxed w X1 4 (.bool false)
  xt : X1 < T
  xw : w0.heap.size ≤ X1
  offT : ¬ F T
  offX : ¬ F X1

theorem Ap.below (H : KeepC Rep) (h : Ap Rep w0 w p X1 T F A) (hb : Below w.heap.size w w') : Ap Rep w0 w' p X1 T F A :=
  ⟨H.below h.rep hb, h.good, h.fl, h.bel.trans (hb.mono h.bel.size), (hb.block T (Array.getElem?_eq_some_iff.1 h.tab).1).trans h.tab, (hb.block X1 h.box.lt).trans h.box, h.xt, h.xw, h.offT, h.offX⟩

/-- A call on the arena; the table is not yet turned. -/
theorem Ap.turn (h : Ap Rep w0 w p X1 T F A) (hl : Left Rep w w' p F A') (hg : Good A') : ∃ F', Rep w' p F' A' ∧ (∀ k, F' k → w0.heap.size ≤ k) ∧ Below w0.heap.size w0 w' ∧ Tab w' T A.fr ∧ Boxed w' X1 4 (.bool false) ∧ ¬ F' T ∧ ¬ F' X1 := by
  obtain ⟨F', h1, h2, h3⟩ := hl
  have lT := (Array.getElem?_eq_some_iff.1 h.tab).1
  have lX := h.box.lt
  refine ⟨F', h1, fun k hk => (h3 k hk).elim (h.fl k) (fun e => Nat.le_trans h.bel.size e), h.bel.trans (h2.below (fun k hk hc => by have := h.fl k hc; omega) h.bel.size), (h2.block T lT h.offT).trans h.tab, (h2.block X1 lX h.offX).trans h.box, fun e => ?_, fun e => ?_⟩
  · rcases h3 T e with h4 | h4
    · exact h.offT h4
    · omega
  · rcases h3 X1 e with h4 | h4
    · exact h.offX h4
    · omega

/-- The table is turned too. -/
theorem Ap.set (H : KeepC Rep) (h : Ap Rep w0 w p X1 T F A) {F' : Nat → Prop} (h1 : Rep w' p F' A' ∧ (∀ k, F' k → w0.heap.size ≤ k) ∧ Below w0.heap.size w0 w' ∧ Tab w' T A.fr ∧ Boxed w' X1 4 (.bool false) ∧ ¬ F' T ∧ ¬ F' X1) (hg : Good A') (k : Nat) (c : Bool) (hc : c = decide (k ∉ A'.fr)) (hk : ∀ i, i < 32 → i ≠ k → (i ∈ A'.fr ↔ i ∈ A.fr)) : Ap Rep w0 (w'.setCell ⟨T, k, none⟩ (.bool c)) p X1 T F' A' := by
  obtain ⟨z1, z2, z3, z4, z5, z6, z7⟩ := h1
  have hK : Keep (fun j => j = T) w' (w'.setCell ⟨T, k, none⟩ (.bool c)) := (Keep.refl (fun j => j = T) w').setCell (p := ⟨T, k, none⟩) (.inl rfl) _
  have hxt := h.xt
  have hxw := h.xw
  exact ⟨H.keep z1 hK (fun j hj e => z6 (e ▸ hj)), hg, z2, z3.trans (hK.below (fun j hj e => by omega) z3.size), z4.set k c hc hk, (hK.block X1 z5.lt (fun e => by have : X1 = T := e; omega)).trans z5, hxt, hxw, z6, z7⟩

/-- The table stays as it is. -/
theorem Ap.same (h : Ap Rep w0 w p X1 T F A) {F' : Nat → Prop} (h1 : Rep w' p F' A' ∧ (∀ k, F' k → w0.heap.size ≤ k) ∧ Below w0.heap.size w0 w' ∧ Tab w' T A.fr ∧ Boxed w' X1 4 (.bool false) ∧ ¬ F' T ∧ ¬ F' X1) (hg : Good A') (hf : A'.fr = A.fr) : Ap Rep w0 w' p X1 T F' A' := by
  obtain ⟨z1, z2, z3, z4, z5, z6, z7⟩ := h1
  exact ⟨z1, hg, z2, z3, by rw [hf]; exact z4, z5, h.xt, h.xw, z6, z7⟩
end

theorem put_fr (A : Arn) (i : Int) (x : Slt) : (A.put i x).2.fr = A.fr := by
  unfold Arn.put
  split <;> rfl

theorem take_fr_nil {A : Arn} (h : A.fr = []) : A.take = (19, 0, A) := by
  unfold Arn.take
  rw [h]

theorem take_fr_cons {A : Arn} {i : Nat} {r : List Nat} (h : A.fr = i :: r) : A.take = (0, i, ⟨A.sl, r, A.wr⟩) := by
  unfold Arn.take
  rw [h]

theorem there_nat {q : Nat} (h : q < 32) : there (q : Int) := by unfold there; omega

theorem place_in {A : Arn} {q : Nat} (h : q < 32) (hm : q ∈ A.fr) : A.place (q : Int) = (0, ⟨A.sl, A.fr.erase q, A.wr⟩) := by
  unfold Arn.place
  rw [if_pos (there_nat h)]
  simp only [Int.toNat_natCast]
  rw [if_pos hm]

theorem place_out {A : Arn} {q : Nat} (h : q < 32) (hm : q ∉ A.fr) : A.place (q : Int) = (10, A) := by
  unfold Arn.place
  rw [if_pos (there_nat h)]
  simp only [Int.toNat_natCast]
  rw [if_neg hm]

theorem free_in {A : Arn} {q : Nat} (h : q < 32) (hm : q ∈ A.fr) : A.free (q : Int) = (9, A) := by
  unfold Arn.free
  rw [if_pos (there_nat h)]
  simp only [Int.toNat_natCast]
  rw [if_pos hm]

theorem free_out {A : Arn} {q : Nat} (h : q < 32) (hm : q ∉ A.fr) : A.free (q : Int) = (0, ⟨A.sl.set q bare, q :: A.fr, A.wr + 1⟩) := by
  unfold Arn.free
  rw [if_pos (there_nat h)]
  simp only [Int.toNat_natCast]
  rw [if_neg hm]

theorem put_in {A : Arn} {q : Nat} (h : q < 32) (s : Slt) : (A.put (q : Int) s).1 = 0 := by
  unfold Arn.put
  rw [if_pos (there_nat h)]

set_option maxRecDepth 1000000 in
set_option maxHeartbeats 8000000 in
theorem arenaApart_yes {Rep : World → Nat → (Nat → Prop) → Arn → Prop} (H : KeepC Rep) (CN : NewC Rep) (CP : PutC Rep) (CT : TakeC Rep) (CL : PlaceC Rep) (CX : FreeC Rep) (CF : FreesC Rep) (sv : Value) (L : List Actn) (w : World) (hR : RdT w sv L) (hF : ∀ x ∈ L, x.fits) :
    Calls Try.prog 3 #[sv] w fun e w' => e = .returned (.bool true) ∧ Below w.heap.size w w' := by
  obtain ⟨av, cv, rfl, hc1, hc2, hcell⟩ := hR
  obtain ⟨N, hN⟩ : ∃ N, L.length = N := ⟨_, rfl⟩
  have HN := Hid.mk' hN
  have HC := Hid.mk' hcell
  have HF := Hid.mk' hF
  rw [hN] at hc1 ⊢
  unfold maxLen at hc2
  have c0 : Hid (∀ wx, _) := fun wx => works_any CN CT CX CF wx
  have c1 : Hid (∀ wx, _) := fun wx => CN wx
  have HH := Hid.mk' H
  have x1 : Boxed (w.alloc (.cells #[.bool false] 4)) w.heap.size 4 (.bool false) := Boxed.new w _ _
  have hB0 : Below w.heap.size w (w.alloc (.cells #[.bool false] 4)) := (Below.refl _ _).alloc (Nat.le_refl _) _
  obtain ⟨W0, hW0⟩ : ∃ W0, w.alloc (.cells #[.bool false] 4) = W0 := ⟨_, rfl⟩
  rw [hW0] at x1 hB0
  have HW0 := Hid.mk' hW0
  have HX1 := Hid.mk' x1
  have HB0 := Hid.mk' hB0
  clear hcell hF H hN hW0 x1 hB0
  refine (callsIn_wide (n := 8)).1 ?_
  refine callsIn_of_wp_marks Try.func3 rfl trivial ?_ rfl
  refine wpIn_wide.2 ?_
  simp only [Try.ntmps3, List.size_toArray, List.length_cons, List.length_nil, Nat.reduceAdd, Nat.reduceSub, Array.replicate_succ, Array.replicate_zero, List.push_toArray, List.append_toArray, List.nil_append, List.cons_append]
  go_wp2_with fail
  rw [HW0.out]
  refine (c0.out _).mono ?_
  rintro e w1 ⟨rfl, hb1⟩
  have HB1 : Hid (Below w.heap.size w w1) := HB0.out.trans (hb1.mono HB0.out.size)
  have HX1' : Hid (Boxed w1 w.heap.size 4 (.bool false)) := (hb1.block _ HX1.out.lt).trans HX1.out
  have q1 := HX1'.out.cell
  have qf := HX1'.out.frozen
  clear hb1 c0 HX1 HB0
  by_cases hbig : 2000 < N
  · have hbI : (2000 : Int) < (N : Int) := by omega
    have HBX := Hid.mk' (HX1'.out.set (.bool true))
    have HBW : Hid (Below w.heap.size w (w1.setCell ⟨w.heap.size, 0, none⟩ (.bool true))) := HB1.out.setCell (p := ⟨w.heap.size, 0, none⟩) (Nat.le_refl _) _
    go_wp2
    exact Rf.leaves_marks (B := w1.heap.size) (Ds := []) ⟨List.nodup_nil, fun D hD => by simp at hD⟩ (by simp) (fun W' hW' => ⟨_, results_bool rfl _ _ w.heap.size true rfl ((hW'.cell (p := ⟨w.heap.size, 0, none⟩) HX1'.out.lt).trans HBX.out.cell), rfl, HBW.out.trans (hW'.mono HB1.out.size)⟩)
  have hbI : ¬ (2000 : Int) < (N : Int) := by omega
  go_wp2_with fail
  refine (c1.out _).mono ?_
  rintro e w2 ⟨p, F, rfl, hr2, hf2, hb2⟩
  have hB2 : Below w.heap.size w w2 := HB1.out.trans (hb2.mono HB1.out.size)
  have hAp : Ap Rep w (w2.alloc (.cells (List.replicate 32 (.bool false)).toArray 26)) p w.heap.size w2.heap.size F arn0 := by
    have hbA : Below w2.heap.size w2 (w2.alloc (.cells (List.replicate 32 (.bool false)).toArray 26)) := (Below.refl _ _).alloc (Nat.le_refl _) _
    refine ⟨HH.out.below hr2 hbA, good0, fun k hk => Nat.le_trans HB1.out.size (hf2 k hk), hB2.trans (hbA.mono hB2.size), ?_, (hbA.block _ (Nat.lt_of_lt_of_le HX1'.out.lt hb2.size)).trans ((hb2.block _ HX1'.out.lt).trans HX1'.out), Nat.lt_of_lt_of_le HX1'.out.lt hb2.size, Nat.le_refl _, fun e => ?_, fun e => ?_⟩
    · unfold Tab
      rw [show arn0.fr = List.range 32 from rfl, tk_new]
      exact heap_alloc_new _ _
    · have := HH.out.lt hr2 _ e
      omega
    · have h1 := hf2 _ e
      have h2 := HX1'.out.lt
      omega
  have HAP := Hid.mk' hAp
  obtain ⟨T, hT⟩ : ∃ T, w2.heap.size = T := ⟨_, rfl⟩
  clear hr2 hf2 hb2 hB2 hAp q1 qf c1
  go_wp2_with fail
  rw [hT] at HAP
  clear hT
  have cP : Hid (∀ wx p F A i s, Rep wx p F A → Good A → A.wr ≤ 1000000000 → _ → _) := fun wx p F A i s h1 h2 h3 h4 => CP wx p F A i s h1 h2 h3 h4
  have cT : Hid (∀ wx p F A, Rep wx p F A → Good A → _) := fun wx p F A h1 h2 => CT wx p F A h1 h2
  have cL : Hid (∀ wx p F A i, Rep wx p F A → Good A → _ → _) := fun wx p F A i h1 h2 h3 => CL wx p F A i h1 h2 h3
  have cX : Hid (∀ wx p F A i, Rep wx p F A → Good A → A.wr ≤ 1000000000 → _ → _) := fun wx p F A i h1 h2 h3 h4 => CX wx p F A i h1 h2 h3 h4
  have cF : Hid (∀ wx p F A, Rep wx p F A → Good A → _) := fun wx p F A h1 h2 => CF wx p F A h1 h2
  clear CN CP CT CL CX CF
  go_loopw [5, 6, 7, 8, 9, 10] (fun nv iv _ _ _ _ wr => ∃ (i m : Nat), i ≤ N ∧ m ≤ 32 ∧ iv = nun i ∧ nv = nun m ∧ Hid (∃ F A, A.wr ≤ i ∧ m + A.fr.length = 32 ∧ Ap Rep w wr p w.heap.size T F A)) (fun _ iv _ _ _ _ _ => N - (intOf iv).toNat)
  case atStart => exact ⟨0, 0, Nat.zero_le _, Nat.zero_le _, rfl, rfl, F, arn0, Nat.le_refl _, rfl, HAP.out⟩
  case round =>
    clear HAP
    obtain ⟨i, m, hi, hm32, rfl, rfl, hq⟩ := hrel
    obtain ⟨F5, A5, ha5, hm5, hap⟩ := hq.out
    by_cases hlt : i < N
    · have hiI : (i : Int) < (N : Int) := by omega
      obtain ⟨gv, ov, rfl, hgl, hcl⟩ := HC.out (by rw [HN.out]; omega)
      obtain ⟨x, hx⟩ : ∃ x, L[i]? = some x := ⟨_, List.getElem?_eq_getElem (by rw [HN.out]; exact hlt)⟩
      have HRG := Hid.mk' (range_below (hcl i x hx) hap.bel hgl)
      obtain ⟨f1, f2⟩ := HF.out x (List.mem_of_getElem? hx)
      obtain ⟨q, hq1, hq32⟩ : ∃ q : Nat, x.n % 32 = q ∧ q < 32 := ⟨(x.n % 32).toNat, by omega, by omega⟩
      obtain ⟨k7, hk1, hk7⟩ : ∃ k7 : Nat, x.k % 7 = k7 ∧ k7 < 7 := ⟨(x.k % 7).toNat, by omega, by omega⟩
      have cK1 : Hid (∀ wx, Calls Try.prog 8 #[nu x.n, nu 32] wx fun e w' => e = .returned (nun q) ∧ w' = wx) := fun wx => by
        have := pick_any x.n 32 wx (by decide) (by decide) f2
        rw [show ((32 : Nat) : Int) = 32 from rfl, hq1] at this
        exact this
      have cK2 : Hid (∀ wx, Calls Try.prog 8 #[nu x.k, nu 7] wx fun e w' => e = .returned (nun k7) ∧ w' = wx) := fun wx => by
        have := pick_any x.k 7 wx (by decide) (by decide) f1
        rw [show ((7 : Nat) : Int) = 7 from rfl, hk1] at this
        exact this
      have HAPr := Hid.mk' hap
      have HZ := Hid.mk' (loneA_zero wr)
      clear hq hap hcl f1 f2 hq1 hk1 hx cF
      go_wp2_with (first | (refine wpList_load_act rfl _ rfl gv (ov + i * 19) rfl x.k x.n x.s HRG.out ?_) | (refine wpList_store_act rfl _ _ rfl wr.heap.size rfl x.k x.n x.s rfl _ _ _ HZ.out ?_; intro w4 hl4 hg4 hs4; have hb4 : Below wr.heap.size wr w4 := (((Below.refl _ _).alloc (Nat.le_refl _) _).grown hg4 (by simp) (fun r e => by cases e; exact Nat.le_refl _)); have HAP4 := Hid.mk' (HAPr.out.below HH.out hb4); have HRG2 := Hid.mk' hl4.range; have k0 := hl4.cells.1; have k1 := hl4.cells.2.1; clear hl4 hg4 hs4 hb4) | fail)
      refine (cK1.out _).mono ?_
      rintro e w' ⟨rfl, hw'⟩
      subst w'
      go_wp2_with fail
      refine (cK2.out _).mono ?_
      rintro e w' ⟨rfl, hw'⟩
      subst w'
      clear cK1 cK2 k0 k1 HRG HZ HAPr
      rcases (show k7 = 0 ∨ k7 = 1 ∨ k7 = 2 ∨ k7 = 3 ∨ k7 = 4 ∨ k7 = 5 ∨ k7 = 6 by omega) with rfl | rfl | rfl | rfl | rfl | rfl | rfl
      · skip
        have HQ : Hid (∃ F A, A.wr ≤ i + 1 ∧ m + A.fr.length = 32 ∧ Ap Rep w w4 p w.heap.size T F A) := ⟨F5, A5, by omega, hm5, HAP4.out⟩
        clear HAP4 cT cX cL cP
        go_wp2
        go_roundw
        case rel => exact ⟨i + 1, m, by omega, hm32, by go_num, rfl, HQ⟩
        case measure => simp [intOf]; omega
      · skip
        have C : Hid (Calls Try.prog 9 #[ptr p, nun q, .agg x.s.cells.toArray] w4 fun e w' => e = .returned .nilIface ∧ Hid (∃ F A, A.wr ≤ i + 1 ∧ m + A.fr.length = 32 ∧ Ap Rep w w' p w.heap.size T F A)) := by
          have := cP.out w4 p F5 A5 (q : Int) x.s HAP4.out.rep HAP4.out.good (by omega) (by omega)
          rw [put_in hq32, show errE 0 = .nilIface from rfl] at this
          refine this.mono ?_
          rintro e w' ⟨rfl, hl⟩
          obtain ⟨F', h'⟩ := HAP4.out.turn hl (HAP4.out.good.put _ _)
          exact ⟨rfl, F', _, Nat.le_trans (put_wr A5 _ x.s) (by omega), by rw [put_fr]; exact hm5, HAP4.out.same h' (HAP4.out.good.put _ _) (put_fr A5 _ x.s)⟩
        clear HAP4 cT cX cL cP
        go_wp2_with (first | (refine wpList_load_slt rfl _ rfl wr.heap.size 2 rfl x.s HRG2.out ?_) | fail)
        refine C.out.mono ?_
        rintro e w5 ⟨rfl, hq5⟩
        clear C
        go_wp2
        go_roundw
        case rel => exact ⟨i + 1, m, by omega, hm32, by go_num, rfl, hq5⟩
        case measure => simp [intOf]; omega
      · skip
        cases hfr : A5.fr with
        | nil =>
          have hm' : m = 32 := by rw [hfr] at hm5; simpa using hm5
          subst hm'
          have C : Hid (Calls Try.prog 10 #[ptr p] w4 fun e w' => e = .returned (.tuple #[nun 0, noE 19]) ∧ Hid (∃ F A, A.wr ≤ i + 1 ∧ 32 + A.fr.length = 32 ∧ Ap Rep w w' p w.heap.size T F A)) := by
            have := cT.out w4 p F5 A5 HAP4.out.rep HAP4.out.good
            rw [take_fr_nil hfr, show errE 19 = noE 19 from rfl] at this
            refine this.mono ?_
            rintro e w' ⟨rfl, hl⟩
            obtain ⟨F', h'⟩ := HAP4.out.turn hl HAP4.out.good
            exact ⟨rfl, F', A5, by omega, hm5, HAP4.out.same h' HAP4.out.good rfl⟩
          clear HAP4 cT cX cL cP hfr
          go_wp2_with fail
          refine C.out.mono ?_
          rintro e w5 ⟨rfl, hq5⟩
          clear C
          go_wp2
          go_roundw
          case rel => exact ⟨i + 1, 32, by omega, by omega, by go_num, rfl, hq5⟩
          case measure => simp [intOf]; omega
        | cons y r =>
          have hy : y < 32 := HAP4.out.good.lt y (by rw [hfr]; simp)
          have hyr : y ∉ r := by
            have := HAP4.out.good.nd
            rw [hfr] at this
            exact (List.nodup_cons.1 this).1
          have hml : m < 32 := by rw [hfr] at hm5; simp at hm5; omega
          have hm6 : m + 1 + r.length = 32 := by rw [hfr] at hm5; simp at hm5; omega
          have C : Hid (Calls Try.prog 10 #[ptr p] w4 fun e w' => e = .returned (.tuple #[nun y, .nilIface]) ∧ (w'.cell? ⟨T, y, none⟩ = some (.bool false) ∧ w'.frozen? ⟨T, y, none⟩ = false) ∧ Hid (∃ F A, A.wr ≤ i + 1 ∧ m + 1 + A.fr.length = 32 ∧ Ap Rep w (w'.setCell ⟨T, y, none⟩ (.bool true)) p w.heap.size T F A)) := by
            have := cT.out w4 p F5 A5 HAP4.out.rep HAP4.out.good
            have hg := HAP4.out.good.take
            rw [take_fr_cons hfr] at this hg
            rw [show errE 0 = .nilIface from rfl] at this
            refine this.mono ?_
            rintro e w' ⟨rfl, hl⟩
            obtain ⟨F', h'⟩ := HAP4.out.turn hl hg
            have hc := h'.2.2.2.1.cell y hy
            rw [decide_eq_false (by rw [hfr]; simp)] at hc
            refine ⟨rfl, ⟨hc, h'.2.2.2.1.free y⟩, F', _, by simp only; omega, hm6, HAP4.out.set HH.out h' hg y true (by simp [hyr]) (fun j hj hne => by rw [hfr]; simp [hne])⟩
          have hyI : (y : Int) < 32 := by omega
          have hmI : (m : Int) < 32 := by omega
          clear HAP4 cT cX cL cP hfr
          go_wp2_with fail
          refine C.out.mono ?_
          rintro e w5 ⟨rfl, ⟨hc5, hf5⟩, hq5⟩
          clear C
          go_wp2
          go_roundw
          case rel => exact ⟨i + 1, m + 1, by omega, by omega, by go_num, by go_num, hq5⟩
          case measure => simp [intOf]; omega
      · skip
        cases hfr : A5.fr with
        | nil =>
          have hm' : m = 32 := by rw [hfr] at hm5; simpa using hm5
          subst hm'
          have C : Hid (Calls Try.prog 10 #[ptr p] w4 fun e w' => e = .returned (.tuple #[nun 0, noE 19]) ∧ Hid (∃ F A, A.wr ≤ i + 1 ∧ 32 + A.fr.length = 32 ∧ Ap Rep w w' p w.heap.size T F A)) := by
            have := cT.out w4 p F5 A5 HAP4.out.rep HAP4.out.good
            rw [take_fr_nil hfr, show errE 19 = noE 19 from rfl] at this
            refine this.mono ?_
            rintro e w' ⟨rfl, hl⟩
            obtain ⟨F', h'⟩ := HAP4.out.turn hl HAP4.out.good
            exact ⟨rfl, F', A5, by omega, hm5, HAP4.out.same h' HAP4.out.good rfl⟩
          clear HAP4 cT cX cL cP hfr
          go_wp2_with fail
          refine C.out.mono ?_
          rintro e w5 ⟨rfl, hq5⟩
          clear C
          go_wp2
          go_roundw
          case rel => exact ⟨i + 1, 32, by omega, by omega, by go_num, rfl, hq5⟩
          case measure => simp [intOf]; omega
        | cons y r =>
          have hy : y < 32 := HAP4.out.good.lt y (by rw [hfr]; simp)
          have hyr : y ∉ r := by
            have := HAP4.out.good.nd
            rw [hfr] at this
            exact (List.nodup_cons.1 this).1
          have hml : m < 32 := by rw [hfr] at hm5; simp at hm5; omega
          have hm6 : m + 1 + r.length = 32 := by rw [hfr] at hm5; simp at hm5; omega
          have C : Hid (Calls Try.prog 10 #[ptr p] w4 fun e w' => e = .returned (.tuple #[nun y, .nilIface]) ∧ (w'.cell? ⟨T, y, none⟩ = some (.bool false) ∧ w'.frozen? ⟨T, y, none⟩ = false) ∧ Hid (∃ F A, A.wr ≤ i + 1 ∧ m + 1 + A.fr.length = 32 ∧ Ap Rep w (w'.setCell ⟨T, y, none⟩ (.bool true)) p w.heap.size T F A)) := by
            have := cT.out w4 p F5 A5 HAP4.out.rep HAP4.out.good
            have hg := HAP4.out.good.take
            rw [take_fr_cons hfr] at this hg
            rw [show errE 0 = .nilIface from rfl] at this
            refine this.mono ?_
            rintro e w' ⟨rfl, hl⟩
            obtain ⟨F', h'⟩ := HAP4.out.turn hl hg
            have hc := h'.2.2.2.1.cell y hy
            rw [decide_eq_false (by rw [hfr]; simp)] at hc
            refine ⟨rfl, ⟨hc, h'.2.2.2.1.free y⟩, F', _, by simp only; omega, hm6, HAP4.out.set HH.out h' hg y true (by simp [hyr]) (fun j hj hne => by rw [hfr]; simp [hne])⟩
          have hyI : (y : Int) < 32 := by omega
          have hmI : (m : Int) < 32 := by omega
          clear HAP4 cT cX cL cP hfr
          go_wp2_with fail
          refine C.out.mono ?_
          rintro e w5 ⟨rfl, ⟨hc5, hf5⟩, hq5⟩
          clear C
          go_wp2
          go_roundw
          case rel => exact ⟨i + 1, m + 1, by omega, by omega, by go_num, by go_num, hq5⟩
          case measure => simp [intOf]; omega
      · skip
        by_cases hqm : q ∈ A5.fr
        · have hfp : 0 < A5.fr.length := List.length_pos_of_mem hqm
          have C : Hid (∀ wx, Below w4.heap.size w4 wx → Calls Try.prog 11 #[ptr p, nun q] wx fun e w' => e = .returned .nilIface ∧ w'.cell? ⟨T, q, none⟩ = some (.bool false) ∧ Hid (w'.frozen? ⟨T, q, none⟩ = false ∧ ∃ F A, A.wr ≤ i + 1 ∧ m + 1 + A.fr.length = 32 ∧ Ap Rep w (w'.setCell ⟨T, q, none⟩ (.bool true)) p w.heap.size T F A)) := fun wx hx => by
            have hA := HAP4.out.below HH.out hx
            have := cL.out wx p F5 A5 (q : Int) hA.rep hA.good (by omega)
            have hg := hA.good.place (q : Int)
            rw [place_in hq32 hqm] at this hg
            rw [show errE 0 = .nilIface from rfl] at this
            refine this.mono ?_
            rintro e w' ⟨rfl, hl⟩
            obtain ⟨F', h'⟩ := hA.turn hl hg
            have hc := h'.2.2.2.1.cell q hq32
            rw [decide_eq_false (by simpa using hqm)] at hc
            refine ⟨rfl, hc, h'.2.2.2.1.free q, F', _, by simp only; omega, ?_, hA.set HH.out h' hg q true (by simp [List.Nodup.not_mem_erase hA.good.nd]) (fun j hj hne => by
              simp only
              exact List.mem_erase_of_ne hne)⟩
            simp only
            rw [List.length_erase_of_mem hqm]
            omega
          have hS0 : w4.cell? ⟨T, q, none⟩ = some (.bool false) := by
            have hc := HAP4.out.tab.cell q hq32
            rwa [decide_eq_false (by simpa using hqm)] at hc
          have hqI : (q : Int) < 32 := by omega
          have hm31 : m + 1 ≤ 32 := by omega
          clear HAP4 cT cX cL cP hqm hfp hm5
          go_wp2_with fail
          go_region_held3 (fun w' => w'.cell? ⟨T, q, none⟩ = some (.bool false)) (first | assumption | exact hS0 | go_keep) (first | (go_at_call 11; with_reducible refine (C.out _ ?hb).mono ?_; (case hb => (first | exact Below.refl _ _ | exact (Below.refl _ _).drew | fail)); rintro e w5 ⟨rfl, hS5, hq5⟩) | fail)
          have hf5 := hq5.out.1
          have HQ : Hid (∃ F A, A.wr ≤ i + 1 ∧ m + 1 + A.fr.length = 32 ∧ Ap Rep w (w5.setCell ⟨T, q, none⟩ (.bool true)) p w.heap.size T F A) := hq5.out.2
          clear C hq5 hS0
          go_wp2
          go_roundw
          case rel => exact ⟨i + 1, m + 1, by omega, by omega, by go_num, by go_num, HQ⟩
          case measure => simp [intOf]; omega
        · have C : Hid (∀ wx, Below w4.heap.size w4 wx → Calls Try.prog 11 #[ptr p, nun q] wx fun e w' => e = .returned (noE 10) ∧ w'.cell? ⟨T, q, none⟩ = some (.bool true) ∧ Hid (∃ F A, A.wr ≤ i + 1 ∧ m + A.fr.length = 32 ∧ Ap Rep w w' p w.heap.size T F A)) := fun wx hx => by
            have hA := HAP4.out.below HH.out hx
            have := cL.out wx p F5 A5 (q : Int) hA.rep hA.good (by omega)
            rw [place_out hq32 hqm, show errE 10 = noE 10 from rfl] at this
            refine this.mono ?_
            rintro e w' ⟨rfl, hl⟩
            obtain ⟨F', h'⟩ := hA.turn hl hA.good
            have hc := h'.2.2.2.1.cell q hq32
            rw [decide_eq_true hqm] at hc
            exact ⟨rfl, hc, F', A5, by omega, hm5, hA.same h' hA.good rfl⟩
          have hS0 : w4.cell? ⟨T, q, none⟩ = some (.bool true) := by
            have hc := HAP4.out.tab.cell q hq32
            rwa [decide_eq_true hqm] at hc
          have hqI : (q : Int) < 32 := by omega
          clear HAP4 cT cX cL cP hqm hm5
          go_wp2_with fail
          go_region_held3 (fun w' => w'.cell? ⟨T, q, none⟩ = some (.bool true)) (first | assumption | exact hS0 | go_keep) (first | (go_at_call 11; with_reducible refine (C.out _ ?hb).mono ?_; (case hb => (first | exact Below.refl _ _ | exact (Below.refl _ _).drew | fail)); rintro e w5 ⟨rfl, hS5, hq5⟩) | fail)
          clear C hS0
          go_wp2
          go_roundw
          case rel => exact ⟨i + 1, m, by omega, hm32, by go_num, rfl, hq5⟩
          case measure => simp [intOf]; omega
      · skip
        by_cases hqm : q ∈ A5.fr
        · have C : Hid (∀ wx, Below w4.heap.size w4 wx → Calls Try.prog 12 #[ptr p, nun q] wx fun e w' => e = .returned (noE 9) ∧ w'.cell? ⟨T, q, none⟩ = some (.bool false) ∧ Hid (∃ F A, A.wr ≤ i + 1 ∧ m + A.fr.length = 32 ∧ Ap Rep w w' p w.heap.size T F A)) := fun wx hx => by
            have hA := HAP4.out.below HH.out hx
            have := cX.out wx p F5 A5 (q : Int) hA.rep hA.good (by omega) (by omega)
            rw [free_in hq32 hqm, show errE 9 = noE 9 from rfl] at this
            refine this.mono ?_
            rintro e w' ⟨rfl, hl⟩
            obtain ⟨F', h'⟩ := hA.turn hl hA.good
            have hc := h'.2.2.2.1.cell q hq32
            rw [decide_eq_false (by simpa using hqm)] at hc
            exact ⟨rfl, hc, F', A5, by omega, hm5, hA.same h' hA.good rfl⟩
          have hS0 : w4.cell? ⟨T, q, none⟩ = some (.bool false) := by
            have hc := HAP4.out.tab.cell q hq32
            rwa [decide_eq_false (by simpa using hqm)] at hc
          have hqI : (q : Int) < 32 := by omega
          clear HAP4 cT cX cL cP hqm hm5
          go_wp2_with fail
          go_region_held3 (fun w' => w'.cell? ⟨T, q, none⟩ = some (.bool false)) (first | assumption | exact hS0 | go_keep) (first | (go_at_call 12; with_reducible refine (C.out _ ?hb).mono ?_; (case hb => (first | exact Below.refl _ _ | exact (Below.refl _ _).drew | fail)); rintro e w5 ⟨rfl, hS5, hq5⟩) | fail)
          clear C hS0
          go_wp2
          go_roundw
          case rel => exact ⟨i + 1, m, by omega, hm32, by go_num, rfl, hq5⟩
          case measure => simp [intOf]; omega
        · have hmpos : 1 ≤ m := by
            have h1 : A5.fr.length < 32 := by
              have h2 : (q :: A5.fr).Nodup := List.nodup_cons.2 ⟨hqm, HAP4.out.good.nd⟩
              have h3 := nodup_few 32 (q :: A5.fr) h2 (fun j hj => by
                rcases List.mem_cons.1 hj with rfl | hj
                · exact hq32
                · exact HAP4.out.good.lt j hj)
              simp at h3
              omega
            omega
          have C : Hid (∀ wx, Below w4.heap.size w4 wx → Calls Try.prog 12 #[ptr p, nun q] wx fun e w' => e = .returned .nilIface ∧ w'.cell? ⟨T, q, none⟩ = some (.bool true) ∧ Hid (w'.frozen? ⟨T, q, none⟩ = false ∧ ∃ F A, A.wr ≤ i + 1 ∧ m - 1 + A.fr.length = 32 ∧ Ap Rep w (w'.setCell ⟨T, q, none⟩ (.bool false)) p w.heap.size T F A)) := fun wx hx => by
            have hA := HAP4.out.below HH.out hx
            have := cX.out wx p F5 A5 (q : Int) hA.rep hA.good (by omega) (by omega)
            have hg := hA.good.free (q : Int)
            rw [free_out hq32 hqm] at this hg
            rw [show errE 0 = .nilIface from rfl] at this
            refine this.mono ?_
            rintro e w' ⟨rfl, hl⟩
            obtain ⟨F', h'⟩ := hA.turn hl hg
            have hc := h'.2.2.2.1.cell q hq32
            rw [decide_eq_true hqm] at hc
            refine ⟨rfl, hc, h'.2.2.2.1.free q, F', _, by simp only; omega, by simp only [List.length_cons]; omega, hA.set HH.out h' hg q false (by simp) (fun j hj hne => by simp [hne])⟩
          have hS0 : w4.cell? ⟨T, q, none⟩ = some (.bool true) := by
            have hc := HAP4.out.tab.cell q hq32
            rwa [decide_eq_true hqm] at hc
          have hqI : (q : Int) < 32 := by omega
          clear HAP4 cT cX cL cP hqm hm5
          go_wp2_with fail
          go_region_held3 (fun w' => w'.cell? ⟨T, q, none⟩ = some (.bool true)) (first | assumption | exact hS0 | go_keep) (first | (go_at_call 12; with_reducible refine (C.out _ ?hb).mono ?_; (case hb => (first | exact Below.refl _ _ | exact (Below.refl _ _).drew | fail)); rintro e w5 ⟨rfl, hS5, hq5⟩) | fail)
          have hf5 := hq5.out.1
          have HQ : Hid (∃ F A, A.wr ≤ i + 1 ∧ m - 1 + A.fr.length = 32 ∧ Ap Rep w (w5.setCell ⟨T, q, none⟩ (.bool false)) p w.heap.size T F A) := hq5.out.2
          clear C hq5 hS0
          go_wp2
          go_roundw
          case rel => exact ⟨i + 1, m - 1, by omega, by omega, by go_num, by show Value.int .i64 _ = Value.int .i64 _; congr 1; omega, HQ⟩
          case measure => simp [intOf]; omega
      · skip
        have HQ : Hid (∃ F A, A.wr ≤ i + 1 ∧ m + A.fr.length = 32 ∧ Ap Rep w w4 p w.heap.size T F A) := ⟨F5, A5, by omega, hm5, HAP4.out⟩
        clear HAP4 cT cX cL cP
        go_wp2
        go_roundw
        case rel => exact ⟨i + 1, m, by omega, hm32, by go_num, rfl, HQ⟩
        case measure => simp [intOf]; omega
    · have hiI : ¬ (i : Int) < (N : Int) := by omega
      have hb6 : Below wr.heap.size wr (wr.alloc (.cells #[nu 0] 3)) := (Below.refl _ _).alloc (Nat.le_refl _) _
      have b6 : Boxed (wr.alloc (.cells #[nu 0] 3)) wr.heap.size 3 (nun 0) := Boxed.new wr _ _
      have hap6 := hap.below HH.out hb6
      have hs6 : (wr.alloc (.cells #[nu 0] 3)).heap.size = wr.heap.size + 1 := by simp
      have hTl := (Array.getElem?_eq_some_iff.1 hap.tab).1
      have C1 := Hid.mk' (cF.out (wr.alloc (.cells #[nu 0] 3)) p F5 A5 hap6.rep hap6.good)
      have HAP6 := Hid.mk' hap6
      have HBX6 := Hid.mk' b6
      generalize hW6 : wr.alloc (.cells #[nu 0] 3) = W6 at *
      have HW6 := Hid.mk' hW6
      have hfew := hap.good.few
      clear hq hap hb6 b6 hap6 cP cT cL cX cF hW6 HC HF
      go_wp2_with fail
      rw [HW6.out]
      refine C1.out.mono ?_
      rintro e w7 ⟨fv, X, rfl, ⟨gf, lb, kk, rfl, hent, hXl, hsq⟩, hXn, hb7⟩
      have HAP7 := Hid.mk' (HAP6.out.below HH.out hb7)
      have b7 : Boxed w7 wr.heap.size 3 (nun 0) := (hb7.block _ (by omega)).trans HBX6.out
      have hs7 := hb7.size
      have HSQ := Hid.mk' (hsq w7 (Nat.le_refl _) (fun _ _ => rfl))
      clear C1 HAP6 HBX6 hsq hb7 HW6
      go_wp2_with fail
      refine Rf.wp_range (L := A5.fr) (w0 := w7) rfl hent HSQ.out (Below.refl _ _) (fun _ => rfl) hXl
        (fun pre W' => Boxed W' wr.heap.size 3 (nun pre.length) ∧ Rf.But wr.heap.size w7 W')
        (fun _ _ _ => False) ?rest (fun _ _ _ _ _ hs _ _ => hs)
        ⟨b7, Rf.But.refl _ _⟩ ?act ?assign ?body ?done (fun _ _ _ _ h _ => h.elim)
      case assign =>
        intro l' x W2 K hK
        gi_wp2
        exact hK
      case rest =>
        rintro pre A B row ⟨h2, h5⟩ hg hr
        exact ⟨h2.kept hg (fun e => by have := (hr _ e.symm).1; omega), h5.rest (by omega) hg hr⟩
      case body =>
        rintro l' pre x W2 hpre hsz ⟨h2, h5⟩
        have hxm : x ∈ A5.fr := hpre.subset (by simp)
        have hx32 : x < 32 := HAP7.out.good.lt x hxm
        have hpl : pre.length < 33 := by
          have := hpre.length_le
          simp at this; omega
        have hTb : Tab W2 T A5.fr := (h5.2 T (by omega) (by omega)).trans HAP7.out.tab
        have hc := hTb.cell x hx32
        rw [decide_eq_false (by simpa using hxm)] at hc
        have hxI : (x : Int) < 32 := by omega
        have hc2 := h2.cell
        have hf2 := h2.frozen
        have HLn : Hid ((pre ++ [x]).length = pre.length + 1) := by show _ = _; simp
        have HL : Hid (Rf.Leaves X w7.heap.size (w7.heap.size + 2 + kk) W2 (W2.setCell ⟨wr.heap.size, 0, none⟩ (nu ((pre.length : Int) + 1)))) := Rf.Leaves.grown (grownBy_setCell' W2 wr.heap.size _) (fun r e => by
          cases e
          exact ⟨fun h => by have := hXn _ h; omega, .inl (by omega)⟩)
        have HBX : Hid (Boxed (W2.setCell ⟨wr.heap.size, 0, none⟩ (nu ((pre.length : Int) + 1))) wr.heap.size 3 (nu ((pre.length : Int) + 1))) := h2.set _
        have HBT : Hid (Rf.But wr.heap.size w7 (W2.setCell ⟨wr.heap.size, 0, none⟩ (nu ((pre.length : Int) + 1)))) := ⟨h5.1.setCell (p := ⟨wr.heap.size, 0, none⟩) (Nat.le_refl _) _, fun b hb hne => (Below.heap_setCell _ _ _ b hne).trans (h5.2 b hb hne)⟩
        generalize pre.length = m2 at *
        clear hxm hpre h2 h5 hTb
        gi_wp2
        exact ⟨HL.out, by rw [HLn.out]; exact HBX.out, HBT.out⟩
      case done =>
        rintro W8 ⟨h2, h5⟩ hK8
        have hx8 : Boxed W8 w.heap.size 4 (.bool false) := (h5.2 _ (by have := HAP7.out.box.lt; omega) (by have := HAP7.out.xt; omega)).trans HAP7.out.box
        have hB8 : Below w.heap.size w W8 := HAP7.out.bel.trans (h5.1.mono (by have := HAP7.out.xt; omega))
        have hc2 := h2.cell
        have hcx := hx8.cell
        have hfx := hx8.frozen
        have hee : ((A5.fr.length : Int) == 32 - (m : Int)) = true := by
          rw [beq_iff_eq]
          omega
        have HO : Hid (Rf.Open w7.heap.size [w7.heap.size] (W8.setCell ⟨w.heap.size, 0, none⟩ (.bool true))) := ⟨by simp, fun D hD => by
          obtain rfl : D = w7.heap.size := by simpa using hD
          exact ⟨Nat.le_refl _, (Below.heap_setCell _ _ _ _ (by have := HAP7.out.box.lt; show w7.heap.size ≠ w.heap.size; omega)).trans hK8⟩⟩
        have HBX := Hid.mk' (hx8.set (.bool true))
        have HBW : Hid (Below w.heap.size w (W8.setCell ⟨w.heap.size, 0, none⟩ (.bool true))) := hB8.setCell (p := ⟨w.heap.size, 0, none⟩) (Nat.le_refl _) _
        have hsz8 : Hid (w7.heap.size ≤ (W8.setCell ⟨w.heap.size, 0, none⟩ (.bool true)).heap.size) := by
          show _ ≤ _
          have := h5.1.size
          simp
          omega
        have hx7 := HAP7.out.box.lt
        generalize A5.fr.length = fl at *
        clear h2 h5 hK8 hx8 hB8 HAP7 HSQ
        go_wp2
        exact Rf.leaves_marks (B := w7.heap.size) (Ds := [w7.heap.size]) HO.out hsz8.out (fun W' hW' => ⟨_, results_bool rfl _ _ w.heap.size true rfl ((hW'.cell (p := ⟨w.heap.size, 0, none⟩) hx7).trans HBX.out.cell), rfl, HBW.out.trans (hW'.mono (by omega))⟩)
end An
end Go.Proofs.Ytalpbciceogjlaa
