import Derived.Test.YtcleeidfiaafcaaGreatDoorArnA
import Derived.Test.YtcleeidfiaafcaaGreatDoorLoopM
/- The laws' own 'gone': an iterator hands out a list, twice, and its first one, if it is left. -/
namespace Go.Proofs.YtcleeidfiaafcaaGreatDoor
set_option linter.ambiguousOpen false
open Go.RowKit
namespace Tr
open An Ft Lv
set_option linter.unusedSimpArgs false
set_option linter.unusedVariables false
attribute [local go_sem] Oper.semAt_some

set_option maxRecDepth 100000 in
theorem func_nil (gf : Nat) (lb : Array Value) (w : World) : (binOp .eql 48 (.func (.func gf) #[] lb) .nilFunc).run Tryz.prog w = .ok (.bool false) w := by kernel_rfl

set_option maxRecDepth 1000000 in
set_option maxHeartbeats 8000000 in
theorem gone_any (fv vw : Value) (X : Nat → Prop) (L : List Nat) (w : World) (hit : IterA w fv X L) (hR : RdN w vw L) (hfew : L.length ≤ 32) :
    Calls Tryz.prog 13 #[fv, vw] w fun e w' => e = .returned (.bool true) ∧ Below w.heap.size w w' := by
  obtain ⟨i0, ji, hz0, hz1, hz2⟩ := info_parts info_int
  obtain ⟨gf, lb, kk, rfl, hent, hXl, hsq⟩ := hit
  have HSQ := Hid.mk' hsq
  have HRD := Hid.mk' hR
  obtain ⟨aw, cw, rfl, hcw1, hcw2, _⟩ := hR
  obtain ⟨n, hn⟩ : ∃ n, L.length = n := ⟨_, rfl⟩
  rw [hn] at hcw1 hfew HRD ⊢
  have HN := Hid.mk' hn
  unfold maxLen at hcw2
  have hB1 : Below w.heap.size w ((w.alloc (.cells #[.slice aw n cw] 50)).alloc (.cells #[.bool false] 4)) := ((Below.refl _ _).alloc (Nat.le_refl _) _).alloc (by simp) _
  have x0 : Boxed ((w.alloc (.cells #[.slice aw n cw] 50)).alloc (.cells #[.bool false] 4)) w.heap.size 50 (.slice aw n cw) := (Boxed.new w _ _).alloc _
  have x1 : Boxed ((w.alloc (.cells #[.slice aw n cw] 50)).alloc (.cells #[.bool false] 4)) (w.heap.size + 1) 4 (.bool false) := by
    have := Boxed.new (w.alloc (.cells #[.slice aw n cw] 50)) 4 (.bool false)
    simpa using this
  have hs1 : ((w.alloc (.cells #[.slice aw n cw] 50)).alloc (.cells #[.bool false] 4)).heap.size = w.heap.size + 2 := by simp
  obtain ⟨W1, hW1⟩ : ∃ W1, (w.alloc (.cells #[.slice aw n cw] 50)).alloc (.cells #[.bool false] 4) = W1 := ⟨_, rfl⟩
  rw [hW1] at hB1 x0 x1 hs1
  have HW1 := Hid.mk' hW1
  have HB1 := Hid.mk' hB1
  have HX0 := Hid.mk' x0
  have HX1 := Hid.mk' x1
  have C6 : Hid (∀ wx a1 c1, Below W1.heap.size W1 wx → RdN wx (.slice a1 n c1) L → Calls Tryz.prog 32 #[.slice a1 n c1, .slice aw n cw] wx fun e w' => e = .returned (.bool true) ∧ Below wx.heap.size wx w') := fun wx a1 c1 hb h1 => sameN _ _ L wx h1 (HRD.out.below (HB1.out.trans (hb.mono HB1.out.size)))
  clear hW1 hB1 x0 x1 hsq hn
  refine (callsIn_wide (n := 8)).1 ?_
  refine callsIn_of_wp_marks Tryz.func13 rfl trivial ?_ rfl
  refine wpIn_wide.2 ?_
  simp only [Tryz.ntmps13, List.size_toArray, List.length_cons, List.length_nil, Nat.reduceAdd, Nat.reduceSub, Array.replicate_succ, Array.replicate_zero, List.push_toArray, List.append_toArray, List.nil_append, List.cons_append]
  go_upto_region 1 with fail
  rw [HW1.out]
  have hfn := func_nil gf lb
  go_wp2_with fail
  clear hfn
  refine Lm.wp_loopT (fun u => #[.func (.func gf) #[] lb, .slice aw n cw, undef, ptr w.heap.size, ptr (w.heap.size + 1), u 5, u 6, u 7, undef, .func (.func gf) #[] lb, .bool false, u 11, u 12, u 13, u 14, u 15, u 16, u 17, u 18, u 19, u 20, u 21, u 22, u 23, u 24, u 25, u 26, u 27, undef, undef, undef, undef, undef, undef, undef, undef, undef, undef, undef, undef, undef, undef, undef]) (fun u ds wr => ∃ (k : Nat) (Ds : List Nat), k ≤ 2 ∧ u 5 = nun k ∧ ds = Rf.marks Ds ∧ Hid (Rf.Open W1.heap.size Ds wr ∧ Below W1.heap.size W1 wr)) (fun u => 2 - (intOf (u 5)).toNat) (by kernel_rfl) ⟨0, [], by omega, rfl, rfl, ⟨List.nodup_nil, fun D hD => by simp at hD⟩, Below.refl _ _⟩ ?_
  rintro u ds wr ⟨k, Ds, hk, hu5, rfl, HG⟩
  simp only [hu5]
  clear hu5
  have hsr := HG.out.2.size
  have hX1 : ∀ b, X b → b < W1.heap.size := fun b hb => by have := hXl b hb; omega
  have HSX : Hid (∀ wx, Below W1.heap.size W1 wx → Rf.Seq Tryz.prog gf lb (fun i : Nat => #[nun i]) X kk L wx) := fun wx hb => HSQ.out wx (by have := hb.size; omega) (fun b hb' => ((hb.block b (hX1 b hb')).trans (HB1.out.block b (hXl b hb'))))
  by_cases hk2 : k < 2
  · have hkI : (k : Int) < 2 := by omega
    go_wp2_with fail
    have s6 : (wr.alloc (.cells #[.slice none 0 0] 50)).heap.size = wr.heap.size + 1 := by simp
    have b1 : Boxed (wr.alloc (.cells #[.slice none 0 0] 50)) wr.heap.size 50 (.slice none 0 0) := Boxed.new wr _ _
    have q6 : Below wr.heap.size wr (wr.alloc (.cells #[.slice none 0 0] 50)) := (Below.refl _ wr).alloc (Nat.le_refl _) _
    generalize wr.alloc (.cells #[.slice none 0 0] 50) = W6 at *
    have hX6 : ∀ b, X b → b < wr.heap.size := fun b hb => by have := hX1 b hb; omega
    refine Rf.wp_range (L := L) (w0 := W6) rfl hent (HSX.out W6 (HG.out.2.trans (q6.mono hsr))) (Below.refl _ _) (fun _ => rfl) (fun b hb => by have := hX6 b hb; omega)
      (fun pre W' => ∃ v, Boxed W' wr.heap.size 50 v ∧ W'.ownsRow (W6.heap.size + 2 + kk) 3 1 v pre.length (pre.map nun) ∧ Rf.But wr.heap.size W6 W')
      (fun _ _ _ => False) ?rest (fun _ _ _ _ _ hs _ _ => hs)
      ⟨_, b1, World.ownsRow_nil _ _ _ _, Rf.But.refl _ _⟩ ?act ?assign ?body ?done (fun _ _ _ _ h _ => h.elim)
    case assign =>
      intro l' x W2 K hK
      gi_wp2
      exact hK
    case rest =>
      rintro pre A B row ⟨v, h2, h4, h5⟩ hg hr
      exact ⟨v, h2.kept hg (fun e => by have := (hr _ e.symm).1; omega), hr.row h4 (Nat.le_refl _) hg, h5.rest (by omega) hg hr⟩
    case body =>
      rintro l' pre x W2 hpre hsz ⟨v, h2, h4, h5⟩
      have hc2 := h2.cell
      have hl64 : pre.length + 1 ≤ 32 := by
        have h1 := hpre.length_le
        have h2 := HN.out
        simp at h1; omega
      have HSp : Hid ((pre ++ [x]).map nun = pre.map nun ++ [nun x]) := by show _ = _; simp
      have HLn : Hid ((pre ++ [x]).length = pre.length + 1) := by show _ = _; simp
      obtain ⟨mm, hmm⟩ : ∃ mm, pre.length = mm := ⟨_, rfl⟩
      rw [hmm] at h4 hl64 HLn
      have hgt : ¬ (32 : Int) < (mm : Int) + 1 := by omega
      clear hmm
      gi_wp2_with (gi_at_builtin; refine wpListIn_append_own _ rfl _ _ 50 rfl (W6.heap.size + 2 + kk) 3 i0 (.int .i64 0) 1 8 Tryz.underlying50 ji hz0 hz1 hz2 rfl (by decide) _ _ _ rfl (h4.alloc _) ⟨W2.heap.size, 0, none⟩ 1 1 [nun x] rfl rfl (cell_one_new _ _ _) (by simp [Value.oneCell']) (by unfold maxLen; omega) (by omega) (by simp; omega) ?_; intro v' w1 hown' hgrow _; obtain ⟨g', cap', rfl⟩ := ownsRow_succ hown'; obtain ⟨hv1, hv2, hr2, hk2, hb2, ho2⟩ := Rf.collected (X := X) (lo := W6.heap.size) (n := wr.heap.size) h2 (by decide) h4 (by omega) (fun h => by have := hX6 _ h; omega) (fun b hb => by have := hX6 b hb; omega) (by omega) hsz (Nat.le_refl _) hown' hgrow; have hbt := Rf.But.step (v' := .slice (some ⟨g', 0, none⟩) (mm + 1) cap') h5 h4 (by omega) hsz (by omega) hgrow; have hc1 := hv1.cell; have hf1 := hv1.frozen; have hcs := hv2.cell)
      rw [s6] at hk2 hr2
      exact ⟨hk2, _, hv2, by rw [HSp.out, HLn.out]; exact hr2, hbt⟩
    case done =>
      rintro W7 ⟨v1, h2, h4, h5⟩ hK7
      have hb7 : Below wr.heap.size wr W7 := q6.trans h5.1
      have hc1 := h2.cell
      have hb17 : Below W1.heap.size W1 W7 := HG.out.2.trans (hb7.mono hsr)
      have HG7 : Hid (Rf.Open W1.heap.size ((wr.heap.size + 1) :: Ds) W7 ∧ Below W1.heap.size W1 W7) := ⟨(HG.out.1.below hb7 (Nat.le_refl _)).cons (by omega) (by rw [← s6]; exact hK7) (fun e => by have := HG.out.1.lt _ e; omega), hb17⟩
      have y0 : W7.cell? ⟨w.heap.size, 0, none⟩ = some (.slice aw n cw) := Boxed.cell ((hb17.block _ (by omega)).trans HX0.out)
      have r1 : RdN W7 v1 L := own_rdN h4
      obtain ⟨a1, c1, hv1, _⟩ := id r1
      rw [HN.out] at hv1
      subst hv1
      have C7 := Hid.mk' (C6.out W7 a1 c1 hb17 r1)
      clear h2 h4 h5 hK7 hb7 b1 q6 r1 hb17
      go_wp2_with fail
      refine C7.out.mono ?_
      rintro e w9 ⟨rfl, hb9⟩
      have HG9 : Hid (Rf.Open W1.heap.size ((wr.heap.size + 1) :: Ds) w9 ∧ Below W1.heap.size W1 w9) := ⟨HG7.out.1.below hb9 (Nat.le_refl _), HG7.out.2.trans (hb9.mono HG7.out.2.size)⟩
      clear hb9 C7 HG7 y0 hc1
      go_wp2
      refine ⟨⟨⟨k + 1, (wr.heap.size + 1) :: Ds, by omega, ?num1, rfl, HG9⟩, by kernel_rfl⟩, ?meas1⟩
      case num1 => (show Value.int IntKind.i64 ((k : Int) + 1) = nun (k + 1)); go_num
      case meas1 => (show 2 - (intOf (Value.int IntKind.i64 ((k : Int) + 1))).toNat < 2 - (intOf (nun k)).toNat); simp [intOf]; omega
  · obtain rfl : k = 2 := by omega
    go_wp2_with fail
    have b1 : Boxed wr (w.heap.size + 1) 4 (.bool false) := (HG.out.2.block _ (by omega)).trans HX1.out
    have b0 : Boxed wr w.heap.size 50 (.slice aw n cw) := (HG.out.2.block _ (by omega)).trans HX0.out
    have hXr : ∀ b, X b → b < w.heap.size := hXl
    refine Rf.wp_range (L := L) (w0 := wr) rfl hent (HSX.out wr HG.out.2) (Below.refl _ _) (fun _ => rfl) (fun b hb => by have := hXr b hb; omega)
      (fun pre W' => pre = [] ∧ Boxed W' (w.heap.size + 1) 4 (.bool false) ∧ Rf.But (w.heap.size + 1) wr W')
      (fun c pre W' => c = .ret ∧ Boxed W' (w.heap.size + 1) 4 (.bool true) ∧ Rf.But (w.heap.size + 1) wr W') ?rest2 ?restx2
      ⟨rfl, b1, Rf.But.refl _ _⟩ ?act2 ?assign2 ?body2 ?done2 ?stop2
    case assign2 =>
      intro l' x W2 K hK
      gi_wp2
      exact hK
    case rest2 =>
      rintro pre A B row ⟨v, h2, h5⟩ hg hr
      exact ⟨v, h2.kept hg (fun e => by have := (hr _ e.symm).1; omega), h5.rest (by omega) hg hr⟩
    case restx2 =>
      rintro c pre A B row ⟨v, h2, h5⟩ hg hr
      exact ⟨v, h2.kept hg (fun e => by have := (hr _ e.symm).1; omega), h5.rest (by omega) hg hr⟩
    case body2 =>
      rintro l' pre x W2 hpre hsz ⟨rfl, h2, h5⟩
      have hxL : L[0]? = some x := by
        obtain ⟨r, hr⟩ := hpre
        rw [← hr]
        rfl
      have hn0 : 0 < n := by
        rw [← HN.out]
        exact (List.getElem?_eq_some_iff.1 hxL).1
      have hnI : (0 : Int) < (n : Int) := by omega
      obtain ⟨a', c', e, _, _, h9⟩ := HRD.out
      simp only [Value.slice.injEq] at e
      obtain ⟨rfl, _, rfl⟩ := e
      obtain ⟨gw, rfl, hgl, hcw⟩ := h9 (by rw [HN.out]; exact hn0)
      have z1 : W2.cell? ⟨gw, 0, none⟩ = some (nun x) := by
        have e1 := hcw 0 x hxL
        have e2 : W2.heap[gw]? = w.heap[gw]? := (h5.2 gw (by omega) (by omega)).trans ((HG.out.2.block gw (by omega)).trans (HB1.out.block gw hgl))
        have e3 : W2.cell? ⟨gw, 0, none⟩ = w.cell? ⟨gw, 0, none⟩ := by
          unfold World.cell?
          rw [e2]
        exact e3.trans e1
      have z0 : W2.cell? ⟨w.heap.size, 0, none⟩ = some (.slice (some ⟨gw, 0, none⟩) n cw) := (h5.boxed b0 (by omega)).cell
      have hxx : ((x : Int) == (x : Int)) = true := by simp
      have hc2 := h2.cell
      have hf2' := h2.frozen
      have HL : Hid (Rf.Leaves X wr.heap.size (wr.heap.size + 2 + kk) W2 (W2.setCell ⟨w.heap.size + 1, 0, none⟩ (.bool true))) := Rf.Leaves.grown (grownBy_setCell' W2 (w.heap.size + 1) (.bool true)) (fun r e => by
        cases e
        exact ⟨fun h => by have := hXr _ h; omega, .inl (by omega)⟩)
      have HBX : Hid (Boxed (W2.setCell ⟨w.heap.size + 1, 0, none⟩ (.bool true)) (w.heap.size + 1) 4 (.bool true)) := h2.set _
      have HBT : Hid (Rf.But (w.heap.size + 1) wr (W2.setCell ⟨w.heap.size + 1, 0, none⟩ (.bool true))) := ⟨h5.1.setCell (p := ⟨w.heap.size + 1, 0, none⟩) (Nat.le_refl _) _, fun b hb hne => (Below.heap_setCell _ _ _ b hne).trans (h5.2 b hb hne)⟩
      clear h2 h5 hxL h9 hcw
      gi_wp2
      exact ⟨HL.out, rfl, HBX.out, HBT.out⟩
    case done2 =>
      rintro W7 ⟨hL0, h2, h5⟩ hK7
      have hn0 : n = 0 := by rw [← HN.out, hL0]; rfl
      have hnB : ((n : Int) == 0) = true := by simp [hn0]
      have hBw7 : Below w.heap.size w W7 := (HB1.out.trans (HG.out.2.mono HB1.out.size)).trans (h5.1.mono (by omega))
      have hO7 : Rf.Open W1.heap.size (wr.heap.size :: Ds) W7 := (h5.open HG.out.1 (fun e => by have := (HG.out.1.2 _ e).1; omega)).cons hsr hK7 (fun e => by have := HG.out.1.lt _ e; omega)
      have HO : Hid (Rf.Open W1.heap.size (wr.heap.size :: Ds) (W7.setCell ⟨w.heap.size + 1, 0, none⟩ (.bool true))) := hO7.kept (fun D hD => Below.heap_setCell _ _ _ D (fun e => by have := (hO7.2 D hD).1; have e' : D = w.heap.size + 1 := e; omega))
      have HBX : Hid (Boxed (W7.setCell ⟨w.heap.size + 1, 0, none⟩ (.bool true)) (w.heap.size + 1) 4 (.bool true)) := h2.set _
      have HBW : Hid (Below w.heap.size w (W7.setCell ⟨w.heap.size + 1, 0, none⟩ (.bool true))) := hBw7.setCell (p := ⟨w.heap.size + 1, 0, none⟩) (by show w.heap.size ≤ w.heap.size + 1; omega) _
      have hsz7 : Hid (W1.heap.size ≤ (W7.setCell ⟨w.heap.size + 1, 0, none⟩ (.bool true)).heap.size) := by
        show _ ≤ _
        have := h5.1.size
        simp
        omega
      have z0 : W7.cell? ⟨w.heap.size, 0, none⟩ = some (.slice aw n cw) := (h5.boxed b0 (by omega)).cell
      have hc2 := h2.cell
      have hf2' := h2.frozen
      have HS1 := Hid.mk' hs1
      clear h2 h5 hK7 hO7 hBw7 hn0 hL0 hs1 b0 b1 hsr
      go_wp2
      exact Rf.leaves_marks (B := W1.heap.size) (Ds := wr.heap.size :: Ds) HO.out hsz7.out (fun W' hW' => ⟨_, results_bool rfl _ _ (w.heap.size + 1) true rfl ((hW'.cell (p := ⟨w.heap.size + 1, 0, none⟩) (by show w.heap.size + 1 < W1.heap.size; rw [HS1.out]; omega)).trans HBX.out.cell), rfl, HBW.out.trans (hW'.mono (by rw [HS1.out]; omega))⟩)
    case stop2 =>
      rintro c pre W7 hpre ⟨rfl, h2, h5⟩ hK7
      have HBW : Hid (Below w.heap.size w W7) := (HB1.out.trans (HG.out.2.mono HB1.out.size)).trans (h5.1.mono (by omega))
      have HO : Hid (Rf.Open W1.heap.size (wr.heap.size :: Ds) W7) := (h5.open HG.out.1 (fun e => by have := (HG.out.1.2 _ e).1; omega)).cons hsr hK7 (fun e => by have := HG.out.1.lt _ e; omega)
      have hsz7 : Hid (W1.heap.size ≤ W7.heap.size) := Nat.le_trans hsr h5.1.size
      have HBX := Hid.mk' h2
      have HS1 := Hid.mk' hs1
      clear h2 h5 hK7 hs1 b0 b1 hsr
      go_wp2
      exact Rf.leaves_marks (B := W1.heap.size) (Ds := wr.heap.size :: Ds) HO.out hsz7.out (fun W' hW' => ⟨_, results_bool rfl _ _ (w.heap.size + 1) true rfl ((hW'.cell (p := ⟨w.heap.size + 1, 0, none⟩) (by show w.heap.size + 1 < W1.heap.size; rw [HS1.out]; omega)).trans HBX.out.cell), rfl, HBW.out.trans (hW'.mono (by rw [HS1.out]; omega))⟩)
end Tr
end Go.Proofs.YtcleeidfiaafcaaGreatDoor
