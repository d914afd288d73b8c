/- The document's arena: Give, New. -/
import Derived.Test.YtalpbciceogjlaaDoorArnT
namespace Go.Proofs.YtalpbciceogjlaaDoor
set_option linter.ambiguousOpen false
open Go.RowKit
namespace An
open Ft Lv
set_option linter.unusedSimpArgs false
set_option linter.unusedVariables false

/-- Ints are appended to a row of one's own. -/
theorem append_rowI {w : World} {base n : Nat} {v : Value} {xs : List Value} (hown : w.ownsRow base 3 1 v n xs) {u : Value} {b2 m : Nat} {l : List Nat} (hR : w.ownsRow b2 3 1 u m (l.map nun)) (hb : (n + m) * 8 ≤ 140737488355328) (hbase : base ≤ w.heap.size) (ty : TypeId) :
    ∃ v' w', (Builtin.append_ #[44, 44] ty #[v, u]).run Tryd.prog w = .ok v' w' ∧ w'.ownsRow base 3 1 v' (n + m) (xs ++ l.map nun) ∧ w.grownBy w' v.ownBlock := by
  obtain ⟨i0, hi, hz0, hz1, hz2⟩ := info_parts info_int
  have hlm := hR.1
  rw [List.length_map, Nat.mul_one] at hlm
  rcases hR.2 with ⟨rfl, rfl⟩ | ⟨g, cap, cur, rfl, h1, h2, h3, h4, h5, h6⟩
  · obtain rfl := List.eq_nil_of_length_eq_zero hlm
    exact ⟨v, w, run_append_owned_none w base 44 ty 3 i0 1 Tryd.underlying44 hi v n xs hown, by simpa using hown, ⟨rfl, rfl, rfl, Nat.le_refl _, fun _ _ _ => rfl⟩⟩
  · have hn : ∀ j u, (l.map nun)[j]? = some u → w.cell? ((⟨g, 0, none⟩ : Addr).add j) = some u := fun j u hj => hR.cells (g := g) rfl j u hj
    obtain ⟨v', w', hr, g1, g2, _, g4⟩ := run_append_own_at (P := Tryd.prog) w base 44 ty 3 i0 (.int .i64 0) 1 8 Tryd.underlying44 hi hz0 hz1 hz2 rfl (by decide) v n xs hown ⟨g, 0, none⟩ m cap (l.map nun) (by simp [hlm]) hn (fun u hu => by
      obtain ⟨b, _, rfl⟩ := List.mem_map.1 hu
      rfl) (by unfold maxLen; omega) hb hbase
    exact ⟨v', w', hr, g1, g2⟩

theorem wpList_append_rowI {w : World} {ops : Array Oper} {rest : List Oper} {o : Oper} {a : Act} {Q : Exit → Act → World → Prop} (hgd : o.guard = none) (s x : Operand)
    (ho : o.op = .call { callee := .builtin .append, args := #[s, x], argTypes := #[44, 44] })
    (base n : Nat) (v u : Value) (xs : List Value) (b2 m : Nat) (l : List Nat) (hs : a.eval s = v) (hx : a.eval x = u) (hown : w.ownsRow base 3 1 v n xs) (hR : w.ownsRow b2 3 1 u m (l.map nun)) (hb : (n + m) * 8 ≤ 140737488355328) (hbase : base ≤ w.heap.size)
    (h : ∀ v' w', w'.ownsRow base 3 1 v' (n + m) (xs ++ l.map nun) → w.grownBy w' v.ownBlock → wpList Tryd.prog ops Q rest (a.put o.dst v') w') : wpList Tryd.prog ops Q (o :: rest) a w := by
  refine wpList_plain hgd fun K hK => ?_
  obtain ⟨v', w', hr, h1, h2⟩ := append_rowI hown hR hb hbase o.type
  unfold Oper.wp execOp
  simp only [ho, resolve, invoke, builtin, Sem.run_bind, Sem.run_pure, Result.andThen_ok, List.map_toArray, List.map_cons, List.map_nil, hs, hx, hr]
  exact hK _ _ (h v' w' h1 h2)

set_option maxRecDepth 100000 in
set_option maxHeartbeats 1000000 in
theorem give_r (base : Nat) (w : World) (g : Nat) (F : Nat → Prop) (A : Arn) (i : Int) (h : RepA base w g F A) (hg : Good A) (hwr : A.wr ≤ 1000000000) :
    Calls Tryd.prog 25 #[ptr g, nu i] w fun e w' => e = .returned (nun (A.free i).1) ∧ LeftA base w w' g F (A.free i).2 := by
  have c1 := Hid.mk' (there_ref i w)
  have HA := Hid.mk' h
  obtain ⟨sv, fv, h1, rfl, h3⟩ := h
  unfold Arn.free
  by_cases ht : there i
  · rw [if_pos ht]
    rw [decide_eq_true ht] at c1
    obtain ⟨k, rfl⟩ : ∃ k : Nat, i = (k : Int) := ⟨i.toNat, by omega⟩
    have hk : k < 32 := by omega
    simp only [Int.toNat_natCast]
    have c2 := Hid.mk' (at_ref base w g sv fv A k h1 hg hk)
    by_cases hm : k ∈ A.fr
    · rw [if_pos hm]
      obtain ⟨p1, p2⟩ := pos_in hm
      rw [p1] at c2
      generalize A.fr.idxOf k = j at *
      have hj : (0 : Int) ≤ (j : Int) := by omega
      clear h1 ht hm p1 p2
      go_enter Tryd.func25, Tryd.ntmps25
      go_wp2_with fail
      refine c1.out.mono ?_
      rintro e w1 ⟨rfl, hw1⟩
      subst w1
      go_wp2_with fail
      refine c2.out.mono ?_
      rintro e w1 ⟨rfl, hw1⟩
      subst w1
      go_wp2
      go_ret
      exact ⟨rfl, leftA_same HA.out⟩
    · rw [if_neg hm]
      rw [pos_out hm] at c2
      have hfew := hg.few
      obtain ⟨q0, q1, q2, qf⟩ := h1.cells
      have hgl := h1.glt
      have HF0 : Hid ((w.alloc (.cells #[nun k] 3)).ownsRow base 3 1 fv A.fr.length (A.fr.map nun)) := h1.fr.alloc _
      have HL0 : Hid ((w.alloc (.cells #[nun k] 3)).ownsRow w.heap.size 3 1 (.slice (some ⟨w.heap.size, 0, none⟩) 1 1) 1 [nun k]) := World.ownsRow_lit (size := 1) w #[nun k] 1 (Nat.le_refl _) (by decide) rfl
      have HB0 : Hid (Below w.heap.size w (w.alloc (.cells #[nun k] 3))) := (Below.refl _ _).alloc (Nat.le_refl _) _
      have hbb : Hid ((1 + A.fr.length) * 8 ≤ 140737488355328) := by show _ ≤ _; omega
      have HH1 := Hid.mk' h1
      have hlen : Hid ([nun k] ++ A.fr.map nun = (k :: A.fr).map nun) := rfl
      obtain ⟨m4, hm4⟩ : ∃ m4, (k :: A.fr).length = m4 := ⟨_, rfl⟩
      have HM4 := Hid.mk' hm4
      have hll : Hid (1 + A.fr.length = m4) := by show _ = _; rw [← hm4, List.length_cons]; omega
      clear hm4
      obtain ⟨b, cap, hsv, hc1, hc2, _, _⟩ := h1.slot hg.len k hk
      unfold maxLen at hc2
      subst hsv
      obtain ⟨af, cf, hfv, _⟩ := Nm.own_shape h1.fr
      obtain ⟨nf, hnf⟩ : ∃ nf, A.fr.length = nf := ⟨_, rfl⟩
      rw [hnf] at hfv
      subst hfv
      have q0' : (w.alloc (.cells #[nun k] 3)).cell? ⟨g, 0, none⟩ = some (.slice (some ⟨b, 0, none⟩) 32 cap) := (World.cell?_alloc_lt _ _ _ hgl).trans q0
      have q1' : (w.alloc (.cells #[nun k] 3)).cell? ⟨g, 1, none⟩ = some (.slice af nf cf) := (World.cell?_alloc_lt _ _ _ hgl).trans q1
      have cB : Hid (∀ wx, _) := fun wx => bare_ref wx
      have hkI : (k : Int) < 32 := by omega
      have HG := Hid.mk' hg
      clear h1 ht hm q2 hg hnf
      go_enter Tryd.func25, Tryd.ntmps25
      go_wp2_with fail
      refine c1.out.mono ?_
      rintro e w1 ⟨rfl, hw1⟩
      subst w1
      go_wp2_with fail
      refine c2.out.mono ?_
      rintro e w1 ⟨rfl, hw1⟩
      subst w1
      go_upto_region 7 with (at_builtin; refine wpList_append_rowI rfl _ _ rfl w.heap.size 1 _ _ [nun k] base A.fr.length A.fr rfl rfl HL0.out HF0.out hbb.out (by simp) ?_; intro v4 w4 ho4 hg4; rw [hlen.out] at ho4; rw [hll.out] at ho4; obtain ⟨a4, c4, rfl, _⟩ := Nm.own_shape ho4; have HO4 := Hid.mk' ho4; have hB4 : Below w.heap.size w w4 := (HB0.out.grown hg4 HB0.out.size (fun r e => by cases e; exact Nat.le_refl _)); have HB4 := Hid.mk' hB4; have z1 := ((HH1.out.below hB4).cells).2.1; have zf := ((HH1.out.below hB4).cells).2.2.2; clear ho4 hg4 hB4)
      have hR5 : RAn base (w4.setCell ⟨g, 1, none⟩ (.slice a4 m4 c4)) g (.slice (some ⟨b, 0, none⟩) 32 cap) (.slice a4 m4 c4) ⟨A.sl, k :: A.fr, A.wr⟩ := (HH1.out.below HB4.out).setFree hgl (by rw [HM4.out]; exact HO4.out)
      have hK5 : Keep (fun j => j = g) w (w4.setCell ⟨g, 1, none⟩ (.slice a4 m4 c4)) := (Keep.of_below (F := fun j => j = g) HB4.out).setCell (p := ⟨g, 1, none⟩) (.inl rfl) _
      have HN4 : Hid (∀ j, (Value.slice a4 m4 c4).ownBlock = some j → w.heap.size ≤ j) := fun j hj => (HO4.out.lt j hj).1
      generalize w4.setCell ⟨g, 1, none⟩ (.slice a4 m4 c4) = w5 at *
      have HR5 := Hid.mk' hR5
      have HK5 := Hid.mk' hK5
      have hS0 := hR5.cells.1
      obtain ⟨w6, hw6⟩ : ∃ w6, w5.drew.alloc (.cells bare.cells.toArray 36) = w6 := ⟨_, rfl⟩
      have HW6 := Hid.mk' hw6
      have hb6 : Below w5.heap.size w5 w6 := by rw [← hw6]; exact (Below.refl _ _).drew.alloc (Nat.le_refl _) _
      have hR6 := hR5.below hb6
      have hS6 := hR6.cells.1
      have HTD := Hid.mk' (hR6.thereAt HG.out.len k hk)
      have HR7 := Hid.mk' (hR6.stored HG.out.len k hk bare)
      have hS7 := HR7.out.cells.1
      have HK7 : Hid (Keep (fun j => j = g ∨ j = b) w (w6.setCells b (k * 17) bare.cells)) := by
        have hG := grown_setCells b bare.cells (k * 17) w6
        exact ⟨hG.os.trans (hb6.os.trans hK5.os), hG.tape.trans (hb6.tape.trans hK5.tape), hG.output.trans (hb6.output.trans hK5.output), Nat.le_trans hK5.size (Nat.le_trans hb6.size hG.size), fun j hj hn => (hG.block j (Nat.lt_of_lt_of_le hj (Nat.le_trans hK5.size hb6.size)) (fun e => hn (.inr (Option.some.inj e)))).trans ((hb6.block j (Nat.lt_of_lt_of_le hj hK5.size)).trans (hK5.block j hj (fun e => hn (.inl e))))⟩
      clear hR5 hK5 hw6 hR6 z1 zf q0 q1 q0' q1' qf c1 c2 HF0 HL0 HB0 HO4
      refine wp_region_held_drew (S := fun w' => w'.cell? ⟨g, 0, none⟩ = some (.slice (some ⟨b, 0, none⟩) 32 cap)) (by kernel_rfl) hS0 (fun hHeld => ?_)
      refine wpAnyH_take (i := 0) (v := ?_) rfl (by kernel_rfl) (by kernel_rfl) (by kernel_rfl) (fun _ _ _ h => h) (Or.inl ⟨by rfl, ?_⟩) hHeld ?_
      rotate_left
      · (intro w' hS'; go_simp <;> with_reducible rfl)
      simp only [Act.put, List.getElem_toArray, List.getElem_cons_succ, List.getElem_cons_zero, List.setIfInBounds_toArray, List.set]
      refine wpAnyH_take (i := 1) (v := ?_) rfl (by kernel_rfl) (by kernel_rfl) (by kernel_rfl) (fun _ _ _ h => h) (Or.inl ⟨by rfl, ?_⟩) hHeld ?_
      rotate_left
      · (intro w' hS'; go_simp <;> with_reducible rfl)
      simp only [Act.put, List.getElem_toArray, List.getElem_cons_succ, List.getElem_cons_zero, List.setIfInBounds_toArray, List.set]
      refine wpAnyH_take (i := 2) (v := ?_) rfl (by kernel_rfl) (by kernel_rfl) (by kernel_rfl) (fun _ _ _ h => h) (Or.inl ⟨by rfl, ?_⟩) hHeld ?_
      rotate_left
      · (intro w' hS'; go_simp <;> with_reducible rfl)
      simp only [Act.put, List.getElem_toArray, List.getElem_cons_succ, List.getElem_cons_zero, List.setIfInBounds_toArray, List.set]
      refine wpAnyH_take (i := 3) (v := ?_) rfl (by kernel_rfl) (by kernel_rfl) (by kernel_rfl) (fun _ _ _ h => h) (Or.inl ⟨by rfl, ?_⟩) hHeld ?_
      rotate_left
      · (intro w' hS'; go_simp <;> with_reducible rfl)
      simp only [Act.put, List.getElem_toArray, List.getElem_cons_succ, List.getElem_cons_zero, List.setIfInBounds_toArray, List.set]
      refine wpAnyH_take (i := 4) (v := ?_) rfl (by kernel_rfl) (by kernel_rfl) (by kernel_rfl) (fun _ _ _ h => h) (Or.inl ⟨by rfl, ?_⟩) hHeld ?_
      rotate_left
      · (intro w' hS'; go_simp <;> with_reducible rfl)
      simp only [Act.put, List.getElem_toArray, List.getElem_cons_succ, List.getElem_cons_zero, List.setIfInBounds_toArray, List.set]
      refine wpAnyH_ready (rs := [5]) (by kernel_rfl) (by simp) ?_
      refine AllReadyH.cons rfl (fun K hK => ?_) AllReadyH.nil
      go_simp
      refine (cB.out _).mono ?_
      rintro e w7 ⟨rfl, hw7⟩
      rw [HW6.out] at hw7
      subst w7
      go_wp2_with fail
      refine hK.out _ _ hS6 (fun hHeld => ?_)
      clear hK K
      refine wpAnyH_take (i := 6) (v := ?_) rfl (by kernel_rfl) (by kernel_rfl) (by kernel_rfl) (fun _ _ _ h => h) (Or.inl ⟨by rfl, ?_⟩) hHeld ?_
      rotate_left
      · (intro w' hS'; go_simp <;> with_reducible rfl)
      simp only [Act.put, List.getElem_toArray, List.getElem_cons_succ, List.getElem_cons_zero, List.setIfInBounds_toArray, List.set]
      refine wpAnyH_ready (rs := [7]) (by kernel_rfl) (by simp) ?_
      refine AllReadyH.cons rfl (fun K hK => ?_) AllReadyH.nil
      rw [if_pos (by rfl)]
      simp only [List.getElem_toArray, List.getElem_cons_succ, List.getElem_cons_zero]
      refine wp_store_mid 36 _ _ rfl b (k * 17) bare.cells.toArray rfl rfl HTD.out size_slt (all_one bare) ?_
      refine hK.out _ _ hS7 (fun hHeld => ?_)
      clear hK K
      refine wpAnyH_done (by kernel_rfl) ?_ _
      simp only [Act.put, List.getElem_toArray, List.getElem_cons_succ, List.getElem_cons_zero, List.setIfInBounds_toArray, List.set]
      clear hHeld hS0 hS6 hS7 HTD
      obtain ⟨z0, z1, z2, zf⟩ := HR7.out.cells
      have HRC : Hid (RAn base ((w6.setCells b (k * 17) bare.cells).setCell ⟨g, 2, none⟩ (nu ((A.wr : Int) + 1))) g (.slice (some ⟨b, 0, none⟩) 32 cap) (.slice a4 m4 c4) ⟨A.sl.set k bare, k :: A.fr, A.wr + 1⟩) := HR7.out.counted (A.wr + 1)
      have HKC : Hid (Keep (fun j => j = g ∨ j = b) w ((w6.setCells b (k * 17) bare.cells).setCell ⟨g, 2, none⟩ (nu ((A.wr : Int) + 1)))) := HK7.out.setCell (p := ⟨g, 2, none⟩) (.inl (.inl rfl)) _
      generalize w6.setCells b (k * 17) bare.cells = w7 at *
      clear HR7 HK7
      go_wp2
      go_ret
      refine ⟨rfl, rfp g (.slice (some ⟨b, 0, none⟩) 32 cap) (.slice a4 m4 c4), ⟨_, _, HRC.out, rfl, Nat.le_trans h3 HKC.out.size⟩, HKC.out.weaken (fun j _ e => ?_), fun j hj => ?_⟩
      · rcases e with e | e
        · exact .inl e
        · exact .inr (.inl (by rw [e]; rfl))
      · rcases hj with e | e | e
        · exact .inl (.inl e)
        · exact .inl (.inr (.inl e))
        · exact .inr (HN4.out j e)
  · rw [if_neg ht]
    rw [decide_eq_false ht] at c1
    clear h1 ht
    go_enter Tryd.func25, Tryd.ntmps25
    go_wp2_with fail
    refine c1.out.mono ?_
    rintro e w1 ⟨rfl, hw1⟩
    subst w1
    go_wp2
    go_ret
    exact ⟨rfl, leftA_same HA.out⟩

/-- The slots are put in. -/
theorem RAn.setSlots {base : Nat} {wr : World} {g : Nat} {sv fv lv : Value} {A : Arn} {l : List Slt} (h : RAn base wr g sv fv A) (ho : wr.ownsRow base 36 17 lv l.length (scs l)) : RAn base (wr.setCell ⟨g, 0, none⟩ lv) g lv fv ⟨l, A.fr, A.wr⟩ := by
  have hb := h.blk
  have hG : wr.grownBy (wr.setCell ⟨g, 0, none⟩ lv) (some g) := ⟨rfl, rfl, rfl, by simp, fun k hk hn => Below.heap_setCell _ _ _ k (fun e => hn (by rw [e]))⟩
  refine ⟨heap_setCell_same _ g 0 _ _ _ hb, ho.kept hG (.inr fun e => ?_), h.fr.kept hG (.inr h.ne.2.1), h.lo⟩
  obtain ⟨c, hc, _⟩ := own_cellsT ho e
  rw [hb] at hc
  simp at hc

theorem RAn.setFree' {base : Nat} {wr : World} {g : Nat} {sv fv lv : Value} {A : Arn} {l : List Nat} (h : RAn base wr g sv fv A) (ho : wr.ownsRow base 3 1 lv l.length (l.map nun)) : RAn base (wr.setCell ⟨g, 1, none⟩ lv) g sv lv ⟨A.sl, l, A.wr⟩ := by
  have hb := h.blk
  have hG : wr.grownBy (wr.setCell ⟨g, 1, none⟩ lv) (some g) := ⟨rfl, rfl, rfl, by simp, fun k hk hn => Below.heap_setCell _ _ _ k (fun e => hn (by rw [e]))⟩
  refine ⟨heap_setCell_same _ g 1 _ _ _ hb, h.sl.kept hG (.inr h.ne.1), ho.kept hG (.inr fun e => ?_), h.lo⟩
  obtain ⟨c, hc, _⟩ := own_cellsT ho e
  rw [hb] at hc
  simp at hc

theorem RAn.grown {base : Nat} {w w' : World} {g : Nat} {sv fv : Value} {A : Arn} (h : RAn base w g sv fv A) {row : Option Nat} (hg : w.grownBy w' row) (hr : ∀ k, row = some k → ¬ rfp g sv fv k) : RAn base w' g sv fv A :=
  h.keep (G := fun k => row = some k) ⟨hg.os, hg.tape, hg.output, hg.size, fun k hk hn => hg.block k hk (fun e => hn e.symm)⟩ (fun k hk e => hr k e hk)

/-- The arena's first k slots are there. -/
def arnK (k : Nat) : Arn := ⟨List.replicate k bare, List.range k, 0⟩

theorem slt_fold (x : Slt) : List.foldl (fun (cs : Array Value) (y : Value × Nat) => cs.setIfInBounds y.snd y.fst) sltZ x.cells.zipIdx = x.cells.toArray := by kernel_rfl

set_option maxRecDepth 100000 in
set_option maxHeartbeats 1000000 in
theorem new_r (w : World) : Calls Tryd.prog 6 #[] w fun e w' => ∃ F, e = .returned (ptr w.heap.size) ∧ RepA w.heap.size w' w.heap.size F arn0 ∧ Below w.heap.size w w' := by
  have cB : Hid (∀ wx, _) := fun wx => bare_ref wx
  obtain ⟨i0, ji, hz0, hz1, hz2⟩ := info_parts info_int
  obtain ⟨i1, jj, hy0, hy1, hy2⟩ := info_parts info_slt
  have HR0 : Hid (RAn w.heap.size (w.alloc (.cells #[.slice none 0 0, .slice none 0 0, .int .i64 0] 48)) w.heap.size (.slice none 0 0) (.slice none 0 0) (arnK 0)) := ⟨heap_alloc_new _ _, World.ownsRow_nil _ _ _ _, World.ownsRow_nil _ _ _ _, Nat.le_refl _⟩
  have HB0 : Hid (Below w.heap.size w (w.alloc (.cells #[.slice none 0 0, .slice none 0 0, .int .i64 0] 48))) := (Below.refl _ _).alloc (Nat.le_refl _) _
  go_enter Tryd.func6, Tryd.ntmps6
  go_wp2
  go_loopw [2] (fun kv wr => ∃ (k : Nat), k ≤ 32 ∧ kv = nun k ∧ Hid (∃ sv fv, RAn w.heap.size wr w.heap.size sv fv (arnK k)) ∧ Hid (Below w.heap.size w wr)) (fun kv _ => 32 - (intOf kv).toNat)
  case atStart => exact ⟨0, by omega, rfl, ⟨_, _, HR0.out⟩, HB0⟩
  case round =>
    obtain ⟨k, hk, rfl, hrr, hB⟩ := hrel
    clear HR0 HB0
    by_cases hlt : k < 32
    · obtain ⟨sv, fv, hR⟩ := hrr.out
      have hsl := hR.sl
      have hfl := hR.fr
      have e1 : (arnK k).sl.length = k := by simp [arnK]
      have e2 : (arnK k).fr.length = k := by simp [arnK]
      rw [e1] at hsl
      rw [e2] at hfl
      obtain ⟨a1, c1, rfl, _, hc1, _⟩ := Nm.own_shape hsl
      obtain ⟨a2, c2, rfl, _, hc2, _⟩ := Nm.own_shape hfl
      have hkI : (k : Int) < 32 := by omega
      obtain ⟨w6, hw6⟩ : ∃ w6, wr.drew.alloc (.cells bare.cells.toArray 36) = w6 := ⟨_, rfl⟩
      have HW6 := Hid.mk' hw6
      have hb6 : Below wr.heap.size wr w6 := by rw [← hw6]; exact (Below.refl _ _).drew.alloc (Nat.le_refl _) _
      have hS0 := hR.cells.1
      have hS6 := (hR.below hb6).cells.1
      have hb8 : Below wr.heap.size wr (w6.alloc (.cells bare.cells.toArray 36)) := hb6.alloc hb6.size _
      have hS8 := (hR.below hb8).cells.1
      have hR8 := hR.below hb8
      have HSL : Hid ((w6.alloc (.cells bare.cells.toArray 36)).ownsRow w.heap.size 36 17 (.slice a1 k c1) k (scs (arnK k).sl)) := by
        have := hR8.sl
        rw [e1] at this
        exact this
      have HNB : Hid (∀ j u, bare.cells[j]? = some u → (w6.alloc (.cells bare.cells.toArray 36)).cell? ((⟨w6.heap.size, 0, none⟩ : Addr).add j) = some u) := World.news_of_block (cs := bare.cells.toArray) (heap_alloc_new _ _)
      have HMX : Hid (k + 1 ≤ maxLen) := by show _ ≤ _; unfold maxLen; omega
      have HBY : Hid ((k + 1) * 144 ≤ 140737488355328) := by show _ ≤ _; omega
      have HBZ : Hid (w.heap.size ≤ (w6.alloc (.cells bare.cells.toArray 36)).heap.size) := Nat.le_trans hB.out.size hb8.size
      have HGR : Hid (∀ w9, (w6.alloc (.cells bare.cells.toArray 36)).grownBy w9 (Value.slice a1 k c1).ownBlock → w9.cell? ⟨w.heap.size, 0, none⟩ = some (.slice a1 k c1) ∧ w9.frozen? ⟨w.heap.size, 0, none⟩ = false ∧ ∀ g9 c9, w9.ownsRow w.heap.size 36 17 (.slice (some ⟨g9, 0, none⟩) (k + 1) c9) (k + 1) (scs (arnK k).sl ++ bare.cells) → RAn w.heap.size (w9.setCell ⟨w.heap.size, 0, none⟩ (.slice (some ⟨g9, 0, none⟩) (k + 1) c9)) w.heap.size (.slice (some ⟨g9, 0, none⟩) (k + 1) c9) (.slice a2 k c2) ⟨List.replicate (k + 1) bare, List.range k, 0⟩ ∧ Below w.heap.size w (w9.setCell ⟨w.heap.size, 0, none⟩ (.slice (some ⟨g9, 0, none⟩) (k + 1) c9))) := fun w9 hg9 => by
        have hn8 := hR8.ne
        have hblk : w9.heap[w.heap.size]? = some (.cells #[.slice a1 k c1, .slice a2 k c2, .int .i64 0] 48) := (hg9.block _ hR8.glt (fun e => hn8.1 e.symm)).trans hR8.blk
        refine ⟨by simp [World.cell?, hblk], by simp [World.frozen?, hblk], fun g9 c9 ho9 => ?_⟩
        have hbw : Below w.heap.size w w9 := (hB.out.trans (hb8.mono hB.out.size)).grown hg9 HBZ.out (fun r e => (HSL.out.lt r e).1)
        have hfr9 : w9.ownsRow w.heap.size 3 1 (.slice a2 k c2) (arnK k).fr.length ((arnK k).fr.map nun) := hR8.fr.kept hg9 (by
          cases h : (Value.slice a2 k c2).ownBlock with
          | none => exact .inl rfl
          | some x => exact .inr (fun e => hn8.2.2 x e.symm h))
        have hG : w9.grownBy (w9.setCell ⟨w.heap.size, 0, none⟩ (.slice (some ⟨g9, 0, none⟩) (k + 1) c9)) (some w.heap.size) := ⟨rfl, rfl, rfl, by simp, fun k hk hn => Below.heap_setCell _ _ _ k (fun e => hn (by rw [e]))⟩
        refine ⟨⟨heap_setCell_same _ _ 0 _ _ _ hblk, ?_, hfr9.kept hG (.inr fun e => ?_), Nat.le_refl _⟩, hbw.setCell (p := ⟨w.heap.size, 0, none⟩) (Nat.le_refl _) _⟩
        · refine World.ownsRow.kept ?_ hG (.inr fun e => ?_)
          · simp only
            rw [List.length_replicate, List.replicate_succ', scs_snoc]
            exact ho9
          · obtain ⟨c, hc, _⟩ := own_cellsT ho9 e
            rw [hblk] at hc
            simp at hc
        · obtain ⟨c, hc, _⟩ := own_cellsT hfr9 e
          rw [hblk] at hc
          simp at hc
      have hfl9 : Hid (∀ w10 sv, RAn w.heap.size w10 w.heap.size sv (.slice a2 k c2) ⟨List.replicate (k + 1) bare, List.range k, 0⟩ → w10.ownsRow w.heap.size 3 1 (.slice a2 k c2) k ((List.range k).map nun)) := fun w10 sv h => by
        have := h.fr
        simp only [List.length_range] at this
        exact this
      have hone : Hid (∀ u ∈ [nun k], u.oneCell' = true) := by
        intro u hu
        simp at hu
        subst hu
        rfl
      have HBI : Hid ((k + 1) * 8 ≤ 140737488355328) := by show _ ≤ _; omega
      have HFI : Hid (∀ w10 sv, RAn w.heap.size w10 w.heap.size sv (.slice a2 k c2) ⟨List.replicate (k + 1) bare, List.range k, 0⟩ ∧ Below w.heap.size w w10 → ∀ w11, (w10.alloc (.cells #[nun k] 3)).grownBy w11 (Value.slice a2 k c2).ownBlock → ∀ g11 c11, w11.ownsRow w.heap.size 3 1 (.slice (some ⟨g11, 0, none⟩) (k + 1) c11) (k + 1) ((List.range k).map nun ++ [nun k]) → w11.cell? ⟨w.heap.size, 1, none⟩ = some (.slice a2 k c2) ∧ w11.frozen? ⟨w.heap.size, 1, none⟩ = false ∧ Hid (RAn w.heap.size (w11.setCell ⟨w.heap.size, 1, none⟩ (.slice (some ⟨g11, 0, none⟩) (k + 1) c11)) w.heap.size sv (.slice (some ⟨g11, 0, none⟩) (k + 1) c11) (arnK (k + 1)) ∧ Below w.heap.size w (w11.setCell ⟨w.heap.size, 1, none⟩ (.slice (some ⟨g11, 0, none⟩) (k + 1) c11)))) := fun w10 sv ⟨h10, hb10⟩ w11 hg11 g11 c11 ho11 => by
        have hA := h10.below ((Below.refl _ _).alloc (Nat.le_refl _) (.cells #[nun k] 3))
        have hbA : Below w.heap.size w (w10.alloc (.cells #[nun k] 3)) := hb10.alloc hb10.size _
        have hn := hA.ne
        have hblk : w11.heap[w.heap.size]? = some (.cells #[sv, .slice a2 k c2, .int .i64 0] 48) := (hg11.block _ hA.glt (fun e => hn.2.1 e.symm)).trans hA.blk
        have hsl11 : w11.ownsRow w.heap.size 36 17 sv (List.replicate (k + 1) bare).length (scs (List.replicate (k + 1) bare)) := hA.sl.kept hg11 (by
          cases h : sv.ownBlock with
          | none => exact .inl rfl
          | some x => exact .inr (fun e => hn.2.2 x h e.symm))
        have hbw : Below w.heap.size w w11 := hbA.grown hg11 hbA.size (fun r e => (hA.fr.lt r e).1)
        have hG : w11.grownBy (w11.setCell ⟨w.heap.size, 1, none⟩ (.slice (some ⟨g11, 0, none⟩) (k + 1) c11)) (some w.heap.size) := ⟨rfl, rfl, rfl, by simp, fun k hk hn => Below.heap_setCell _ _ _ k (fun e => hn (by rw [e]))⟩
        refine ⟨by simp [World.cell?, hblk], by simp [World.frozen?, hblk], ⟨heap_setCell_same _ _ 1 _ _ _ hblk, hsl11.kept hG (.inr fun e => ?_), World.ownsRow.kept ?_ hG (.inr fun e => ?_), Nat.le_refl _⟩, hbw.setCell (p := ⟨w.heap.size, 1, none⟩) (Nat.le_refl _) _⟩
        · obtain ⟨c, hc, _⟩ := own_cellsT hsl11 e
          rw [hblk] at hc
          simp at hc
        · simp only [arnK]
          rw [List.length_range, List.range_succ, List.map_append]
          exact ho11
        · obtain ⟨c, hc, _⟩ := own_cellsT ho11 e
          rw [hblk] at hc
          simp at hc
      clear e1 e2 hrr hw6
      go_wp2_with fail
      refine wp_region_held_drew (S := fun _ => True) (by kernel_rfl) trivial (fun hHeld => ?_)
      refine wpAnyH_take (i := 0) (v := ?_) rfl (by kernel_rfl) (by kernel_rfl) (by kernel_rfl) (fun _ _ _ h => h) (Or.inl ⟨by rfl, ?_⟩) hHeld ?_
      rotate_left
      · (intro w' hS'; go_simp <;> with_reducible rfl)
      simp only [Act.put, List.getElem_toArray, List.getElem_cons_succ, List.getElem_cons_zero, List.setIfInBounds_toArray, List.set]
      refine wpAnyH_take (i := 1) (v := ?_) rfl (by kernel_rfl) (by kernel_rfl) (by kernel_rfl) (fun _ _ _ h => h) (Or.inl ⟨by rfl, ?_⟩) hHeld ?_
      rotate_left
      · (intro w' hS'; go_simp <;> with_reducible rfl)
      simp only [Act.put, List.getElem_toArray, List.getElem_cons_succ, List.getElem_cons_zero, List.setIfInBounds_toArray, List.set]
      refine wpAnyH_take (i := 2) (v := ?_) rfl (by kernel_rfl) (by kernel_rfl) (by kernel_rfl) (fun _ _ _ h => h) (Or.inl ⟨by rfl, ?_⟩) hHeld ?_
      rotate_left
      · (intro w' hS'; go_simp <;> with_reducible rfl)
      simp only [Act.put, List.getElem_toArray, List.getElem_cons_succ, List.getElem_cons_zero, List.setIfInBounds_toArray, List.set]
      refine wpAnyH_take (i := 3) (v := ?_) rfl (by kernel_rfl) (by kernel_rfl) (by kernel_rfl) (fun _ _ _ h => h) (Or.inl ⟨by rfl, ?_⟩) hHeld ?_
      rotate_left
      · (intro w' hS'; go_simp <;> with_reducible rfl)
      simp only [Act.put, List.getElem_toArray, List.getElem_cons_succ, List.getElem_cons_zero, List.setIfInBounds_toArray, List.set]
      refine wpAnyH_ready (rs := [4, 5]) (by kernel_rfl) (by simp) ?_
      refine AllReadyH.cons rfl (fun K hK => ?_) (AllReadyH.cons rfl (fun K hK => ?_) AllReadyH.nil)
      · skip
        go_simp
        refine hK.out _ _ trivial (fun hHeld => ?_)
        clear hK K
        try simp only [Act.put, List.getElem_toArray, List.getElem_cons_succ, List.getElem_cons_zero, List.setIfInBounds_toArray, List.set]
        refine wpAnyH_ready (rs := [5]) (by kernel_rfl) (by simp) ?_
        refine AllReadyH.cons rfl (fun K hK => ?_) AllReadyH.nil
        go_simp
        refine (cB.out _).mono ?_
        rintro e w7 ⟨rfl, hw7⟩
        rw [HW6.out] at hw7
        subst w7
        go_wp2_with fail
        refine hK.out _ _ trivial (fun hHeld => ?_)
        clear hK K
        refine wpAnyH_ready (rs := [6]) (by kernel_rfl) (by simp) ?_
        refine AllReadyH.cons rfl (fun K hK => ?_) AllReadyH.nil
        go_simp
        simp only [Slt.len, slt_fold]
        go_simp
        refine hK.out _ _ trivial (fun hHeld => ?_)
        clear hK K
        refine wpAnyH_ready (rs := [7]) (by kernel_rfl) (by simp) ?_
        refine AllReadyH.cons rfl (fun K hK => ?_) AllReadyH.nil
        rw [if_pos (by rfl)]
        simp only [List.getElem_toArray, List.getElem_cons_succ, List.getElem_cons_zero]
        refine wp_append_lies _ _ _ 46 rfl w.heap.size 36 i1 slt0.v 17 144 Tryd.underlying46 jj hy0 hy1 hy2 rfl (by decide) (.slice a1 k c1) k (scs (arnK k).sl) rfl HSL.out ⟨w6.heap.size, 0, none⟩ 1 1 bare.cells rfl rfl HNB.out bare.one (by decide) HMX.out HBY.out HBZ.out _ rfl ?_
        intro g9 c9 w9 ho9 hg9 _ _
        obtain ⟨hS9, hF9, hr9⟩ := HGR.out w9 hg9
        have HR9 := Hid.mk' (hr9 g9 c9 ho9)
        clear hr9 ho9 hg9
        refine hK.out _ _ trivial (fun hHeld => ?_)
        clear hK K
        try simp only [Act.put, List.getElem_toArray, List.getElem_cons_succ, List.getElem_cons_zero, List.setIfInBounds_toArray, List.set]
        refine wpAnyH_take (i := 8) (v := ?_) rfl (by kernel_rfl) (by kernel_rfl) (by kernel_rfl) (fun _ _ _ h => h) (Or.inl ⟨by rfl, ?_⟩) hHeld ?_
        rotate_left
        · (intro w' hS'; go_simp <;> with_reducible rfl)
        simp only [Act.put, List.getElem_toArray, List.getElem_cons_succ, List.getElem_cons_zero, List.setIfInBounds_toArray, List.set]
        refine wpAnyH_take (i := 9) (v := ?_) rfl (by kernel_rfl) (by kernel_rfl) (by kernel_rfl) (fun _ _ _ h => h) (Or.inl ⟨by rfl, ?_⟩) hHeld ?_
        rotate_left
        · (intro w' hS'; go_simp <;> with_reducible rfl)
        simp only [Act.put, List.getElem_toArray, List.getElem_cons_succ, List.getElem_cons_zero, List.setIfInBounds_toArray, List.set]
        refine wpAnyH_ready (rs := [10]) (by kernel_rfl) (by simp) ?_
        refine AllReadyH.cons rfl (fun K hK => ?_) AllReadyH.nil
        go_simp
        refine hK.out _ _ trivial (fun hHeld => ?_)
        clear hK K
        refine wpAnyH_done (by kernel_rfl) ?_ _
        try simp only [Act.put, List.getElem_toArray, List.getElem_cons_succ, List.getElem_cons_zero, List.setIfInBounds_toArray, List.set]
        generalize w9.setCell ⟨w.heap.size, 0, none⟩ (.slice (some ⟨g9, 0, none⟩) (k + 1) c9) = w10 at *
        obtain ⟨z0, z1, z2, zf⟩ := HR9.out.1.cells
        have HO9 := Hid.mk' (hfl9.out _ _ HR9.out.1)
        have hbz9 : Hid (w.heap.size ≤ w10.heap.size) := HR9.out.2.size
        clear hS9 hF9 hHeld
        go_wp2_with (at_builtin; refine wpList_append_lies _ rfl _ _ 44 rfl w.heap.size 3 i0 (.int .i64 0) 1 8 Tryd.underlying44 ji hz0 hz1 hz2 rfl (by decide) (.slice a2 k c2) k ((List.range k).map nun) rfl (HO9.out.alloc _) ⟨w10.heap.size, 0, none⟩ 1 1 [nun k] rfl rfl (World.news_of_block (heap_alloc_new _ _)) hone.out (by decide) HMX.out HBI.out (by have := hbz9.out; simp; omega) _ rfl ?_; intro g11 c11 w11 ho11 hg11 _ _; obtain ⟨y1, yf, HR11⟩ := HFI.out w10 _ HR9.out w11 hg11 g11 c11 ho11; clear ho11 hg11)
        go_roundw
        case rel => exact ⟨k + 1, by omega, by go_num, ⟨_, _, HR11.out.1⟩, HR11.out.2⟩
        case measure => simp [intOf]; omega
      · skip
        go_simp
        refine (cB.out _).mono ?_
        rintro e w7 ⟨rfl, hw7⟩
        rw [HW6.out] at hw7
        subst w7
        go_wp2_with fail
        refine hK.out _ _ trivial (fun hHeld => ?_)
        clear hK K
        refine wpAnyH_ready (rs := [4, 6]) (by kernel_rfl) (by simp) ?_
        refine AllReadyH.cons rfl (fun K hK => ?_) (AllReadyH.cons rfl (fun K hK => ?_) AllReadyH.nil)
        · skip
          go_simp
          refine hK.out _ _ trivial (fun hHeld => ?_)
          clear hK K
          try simp only [Act.put, List.getElem_toArray, List.getElem_cons_succ, List.getElem_cons_zero, List.setIfInBounds_toArray, List.set]
          refine wpAnyH_ready (rs := [6]) (by kernel_rfl) (by simp) ?_
          refine AllReadyH.cons rfl (fun K hK => ?_) AllReadyH.nil
          go_simp
          simp only [Slt.len, slt_fold]
          go_simp
          refine hK.out _ _ trivial (fun hHeld => ?_)
          clear hK K
          refine wpAnyH_ready (rs := [7]) (by kernel_rfl) (by simp) ?_
          refine AllReadyH.cons rfl (fun K hK => ?_) AllReadyH.nil
          rw [if_pos (by rfl)]
          simp only [List.getElem_toArray, List.getElem_cons_succ, List.getElem_cons_zero]
          refine wp_append_lies _ _ _ 46 rfl w.heap.size 36 i1 slt0.v 17 144 Tryd.underlying46 jj hy0 hy1 hy2 rfl (by decide) (.slice a1 k c1) k (scs (arnK k).sl) rfl HSL.out ⟨w6.heap.size, 0, none⟩ 1 1 bare.cells rfl rfl HNB.out bare.one (by decide) HMX.out HBY.out HBZ.out _ rfl ?_
          intro g9 c9 w9 ho9 hg9 _ _
          obtain ⟨hS9, hF9, hr9⟩ := HGR.out w9 hg9
          have HR9 := Hid.mk' (hr9 g9 c9 ho9)
          clear hr9 ho9 hg9
          refine hK.out _ _ trivial (fun hHeld => ?_)
          clear hK K
          try simp only [Act.put, List.getElem_toArray, List.getElem_cons_succ, List.getElem_cons_zero, List.setIfInBounds_toArray, List.set]
          refine wpAnyH_take (i := 8) (v := ?_) rfl (by kernel_rfl) (by kernel_rfl) (by kernel_rfl) (fun _ _ _ h => h) (Or.inl ⟨by rfl, ?_⟩) hHeld ?_
          rotate_left
          · (intro w' hS'; go_simp <;> with_reducible rfl)
          simp only [Act.put, List.getElem_toArray, List.getElem_cons_succ, List.getElem_cons_zero, List.setIfInBounds_toArray, List.set]
          refine wpAnyH_take (i := 9) (v := ?_) rfl (by kernel_rfl) (by kernel_rfl) (by kernel_rfl) (fun _ _ _ h => h) (Or.inl ⟨by rfl, ?_⟩) hHeld ?_
          rotate_left
          · (intro w' hS'; go_simp <;> with_reducible rfl)
          simp only [Act.put, List.getElem_toArray, List.getElem_cons_succ, List.getElem_cons_zero, List.setIfInBounds_toArray, List.set]
          refine wpAnyH_ready (rs := [10]) (by kernel_rfl) (by simp) ?_
          refine AllReadyH.cons rfl (fun K hK => ?_) AllReadyH.nil
          go_simp
          refine hK.out _ _ trivial (fun hHeld => ?_)
          clear hK K
          refine wpAnyH_done (by kernel_rfl) ?_ _
          try simp only [Act.put, List.getElem_toArray, List.getElem_cons_succ, List.getElem_cons_zero, List.setIfInBounds_toArray, List.set]
          generalize w9.setCell ⟨w.heap.size, 0, none⟩ (.slice (some ⟨g9, 0, none⟩) (k + 1) c9) = w10 at *
          obtain ⟨z0, z1, z2, zf⟩ := HR9.out.1.cells
          have HO9 := Hid.mk' (hfl9.out _ _ HR9.out.1)
          have hbz9 : Hid (w.heap.size ≤ w10.heap.size) := HR9.out.2.size
          clear hS9 hF9 hHeld
          go_wp2_with (at_builtin; refine wpList_append_lies _ rfl _ _ 44 rfl w.heap.size 3 i0 (.int .i64 0) 1 8 Tryd.underlying44 ji hz0 hz1 hz2 rfl (by decide) (.slice a2 k c2) k ((List.range k).map nun) rfl (HO9.out.alloc _) ⟨w10.heap.size, 0, none⟩ 1 1 [nun k] rfl rfl (World.news_of_block (heap_alloc_new _ _)) hone.out (by decide) HMX.out HBI.out (by have := hbz9.out; simp; omega) _ rfl ?_; intro g11 c11 w11 ho11 hg11 _ _; obtain ⟨y1, yf, HR11⟩ := HFI.out w10 _ HR9.out w11 hg11 g11 c11 ho11; clear ho11 hg11)
          go_roundw
          case rel => exact ⟨k + 1, by omega, by go_num, ⟨_, _, HR11.out.1⟩, HR11.out.2⟩
          case measure => simp [intOf]; omega
        · skip
          go_simp
          simp only [Slt.len, slt_fold]
          go_simp
          refine hK.out _ _ trivial (fun hHeld => ?_)
          clear hK K
          refine wpAnyH_ready (rs := [4]) (by kernel_rfl) (by simp) ?_
          refine AllReadyH.cons rfl (fun K hK => ?_) AllReadyH.nil
          go_simp
          refine hK.out _ _ trivial (fun hHeld => ?_)
          clear hK K
          try simp only [Act.put, List.getElem_toArray, List.getElem_cons_succ, List.getElem_cons_zero, List.setIfInBounds_toArray, List.set]
          refine wpAnyH_ready (rs := [7]) (by kernel_rfl) (by simp) ?_
          refine AllReadyH.cons rfl (fun K hK => ?_) AllReadyH.nil
          rw [if_pos (by rfl)]
          simp only [List.getElem_toArray, List.getElem_cons_succ, List.getElem_cons_zero]
          refine wp_append_lies _ _ _ 46 rfl w.heap.size 36 i1 slt0.v 17 144 Tryd.underlying46 jj hy0 hy1 hy2 rfl (by decide) (.slice a1 k c1) k (scs (arnK k).sl) rfl HSL.out ⟨w6.heap.size, 0, none⟩ 1 1 bare.cells rfl rfl HNB.out bare.one (by decide) HMX.out HBY.out HBZ.out _ rfl ?_
          intro g9 c9 w9 ho9 hg9 _ _
          obtain ⟨hS9, hF9, hr9⟩ := HGR.out w9 hg9
          have HR9 := Hid.mk' (hr9 g9 c9 ho9)
          clear hr9 ho9 hg9
          refine hK.out _ _ trivial (fun hHeld => ?_)
          clear hK K
          try simp only [Act.put, List.getElem_toArray, List.getElem_cons_succ, List.getElem_cons_zero, List.setIfInBounds_toArray, List.set]
          refine wpAnyH_take (i := 8) (v := ?_) rfl (by kernel_rfl) (by kernel_rfl) (by kernel_rfl) (fun _ _ _ h => h) (Or.inl ⟨by rfl, ?_⟩) hHeld ?_
          rotate_left
          · (intro w' hS'; go_simp <;> with_reducible rfl)
          simp only [Act.put, List.getElem_toArray, List.getElem_cons_succ, List.getElem_cons_zero, List.setIfInBounds_toArray, List.set]
          refine wpAnyH_take (i := 9) (v := ?_) rfl (by kernel_rfl) (by kernel_rfl) (by kernel_rfl) (fun _ _ _ h => h) (Or.inl ⟨by rfl, ?_⟩) hHeld ?_
          rotate_left
          · (intro w' hS'; go_simp <;> with_reducible rfl)
          simp only [Act.put, List.getElem_toArray, List.getElem_cons_succ, List.getElem_cons_zero, List.setIfInBounds_toArray, List.set]
          refine wpAnyH_ready (rs := [10]) (by kernel_rfl) (by simp) ?_
          refine AllReadyH.cons rfl (fun K hK => ?_) AllReadyH.nil
          go_simp
          refine hK.out _ _ trivial (fun hHeld => ?_)
          clear hK K
          refine wpAnyH_done (by kernel_rfl) ?_ _
          try simp only [Act.put, List.getElem_toArray, List.getElem_cons_succ, List.getElem_cons_zero, List.setIfInBounds_toArray, List.set]
          generalize w9.setCell ⟨w.heap.size, 0, none⟩ (.slice (some ⟨g9, 0, none⟩) (k + 1) c9) = w10 at *
          obtain ⟨z0, z1, z2, zf⟩ := HR9.out.1.cells
          have HO9 := Hid.mk' (hfl9.out _ _ HR9.out.1)
          have hbz9 : Hid (w.heap.size ≤ w10.heap.size) := HR9.out.2.size
          clear hS9 hF9 hHeld
          go_wp2_with (at_builtin; refine wpList_append_lies _ rfl _ _ 44 rfl w.heap.size 3 i0 (.int .i64 0) 1 8 Tryd.underlying44 ji hz0 hz1 hz2 rfl (by decide) (.slice a2 k c2) k ((List.range k).map nun) rfl (HO9.out.alloc _) ⟨w10.heap.size, 0, none⟩ 1 1 [nun k] rfl rfl (World.news_of_block (heap_alloc_new _ _)) hone.out (by decide) HMX.out HBI.out (by have := hbz9.out; simp; omega) _ rfl ?_; intro g11 c11 w11 ho11 hg11 _ _; obtain ⟨y1, yf, HR11⟩ := HFI.out w10 _ HR9.out w11 hg11 g11 c11 ho11; clear ho11 hg11)
          go_roundw
          case rel => exact ⟨k + 1, by omega, by go_num, ⟨_, _, HR11.out.1⟩, HR11.out.2⟩
          case measure => simp [intOf]; omega
    · obtain rfl : k = 32 := by omega
      obtain ⟨sv, fv, hR⟩ := hrr.out
      have HF : Hid (RepA w.heap.size wr w.heap.size (rfp w.heap.size sv fv) arn0) := ⟨sv, fv, hR, rfl, hB.out.size⟩
      clear hrr hR
      go_wp2
      go_ret
      exact ⟨_, rfl, HF.out, hB.out⟩
end An
end Go.Proofs.YtalpbciceogjlaaDoor
