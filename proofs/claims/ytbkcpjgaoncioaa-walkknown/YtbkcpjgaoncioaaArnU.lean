/- The document's arena: Give, New. -/
import Derived.Test.YtbkcpjgaoncioaaArnT
namespace Go.Proofs.Ytbkcpjgaoncioaa
set_option linter.ambiguousOpen false
open Go.RowKit
namespace An
open Ft Lv
set_option linter.unusedSimpArgs false
set_option linter.unusedVariables false

/-- Ints are appended to a row of one's own. -/
theorem append_rowI {w : World} {base n : Nat} {v : Value} {xs : List Value} (hown : w.ownsRow base 3 1 v n xs) {u : Value} {b2 m : Nat} {l : List Nat} (hR : w.ownsRow b2 3 1 u m (l.map nun)) (hb : (n + m) * 8 ≤ 140737488355328) (hbase : base ≤ w.heap.size) (ty : TypeId) :
    ∃ v' w', (Builtin.append_ #[35, 35] ty #[v, u]).run Try.prog w = .ok v' w' ∧ w'.ownsRow base 3 1 v' (n + m) (xs ++ l.map nun) ∧ w.grownBy w' v.ownBlock := by
  obtain ⟨i0, hi, hz0, hz1, hz2⟩ := info_parts info_int
  have hlm := hR.1
  rw [List.length_map, Nat.mul_one] at hlm
  rcases hR.2 with ⟨rfl, rfl⟩ | ⟨g, cap, cur, rfl, h1, h2, h3, h4, h5, h6⟩
  · obtain rfl := List.eq_nil_of_length_eq_zero hlm
    exact ⟨v, w, run_append_owned_none w base 35 ty 3 i0 1 Try.underlying35 hi v n xs hown, by simpa using hown, ⟨rfl, rfl, rfl, Nat.le_refl _, fun _ _ _ => rfl⟩⟩
  · have hn : ∀ j u, (l.map nun)[j]? = some u → w.cell? ((⟨g, 0, none⟩ : Addr).add j) = some u := fun j u hj => hR.cells (g := g) rfl j u hj
    obtain ⟨v', w', hr, g1, g2, _, g4⟩ := run_append_own_at (P := Try.prog) w base 35 ty 3 i0 (.int .i64 0) 1 8 Try.underlying35 hi hz0 hz1 hz2 rfl (by decide) v n xs hown ⟨g, 0, none⟩ m cap (l.map nun) (by simp [hlm]) hn (fun u hu => by
      obtain ⟨b, _, rfl⟩ := List.mem_map.1 hu
      rfl) (by unfold maxLen; omega) hb hbase
    exact ⟨v', w', hr, g1, g2⟩

theorem wpList_append_rowI {w : World} {ops : Array Oper} {rest : List Oper} {o : Oper} {a : Act} {Q : Exit → Act → World → Prop} (hgd : o.guard = none) (s x : Operand)
    (ho : o.op = .call { callee := .builtin .append, args := #[s, x], argTypes := #[35, 35] })
    (base n : Nat) (v u : Value) (xs : List Value) (b2 m : Nat) (l : List Nat) (hs : a.eval s = v) (hx : a.eval x = u) (hown : w.ownsRow base 3 1 v n xs) (hR : w.ownsRow b2 3 1 u m (l.map nun)) (hb : (n + m) * 8 ≤ 140737488355328) (hbase : base ≤ w.heap.size)
    (h : ∀ v' w', w'.ownsRow base 3 1 v' (n + m) (xs ++ l.map nun) → w.grownBy w' v.ownBlock → wpList Try.prog ops Q rest (a.put o.dst v') w') : wpList Try.prog ops Q (o :: rest) a w := by
  refine wpList_plain hgd fun K hK => ?_
  obtain ⟨v', w', hr, h1, h2⟩ := append_rowI hown hR hb hbase o.type
  unfold Oper.wp execOp
  simp only [ho, resolve, invoke, builtin, Sem.run_bind, Sem.run_pure, Result.andThen_ok, List.map_toArray, List.map_cons, List.map_nil, hs, hx, hr]
  exact hK _ _ (h v' w' h1 h2)

/-- The slots are put in. -/
theorem RAn.setSlots {base : Nat} {wr : World} {g : Nat} {sv fv lv : Value} {A : Arn} {l : List Slt} (h : RAn base wr g sv fv A) (ho : wr.ownsRow base 52 17 lv l.length (scs l)) : RAn base (wr.setCell ⟨g, 0, none⟩ lv) g lv fv ⟨l, A.fr, A.wr⟩ := by
  have hb := h.blk
  have hG : wr.grownBy (wr.setCell ⟨g, 0, none⟩ lv) (some g) := ⟨rfl, rfl, rfl, by simp, fun k hk hn => Below.heap_setCell _ _ _ k (fun e => hn (by rw [e]))⟩
  refine ⟨heap_setCell_same _ g 0 _ _ _ hb, ho.kept hG (.inr fun e => ?_), h.fr.kept hG (.inr h.ne.2.1), h.lo⟩
  obtain ⟨c, hc, _⟩ := own_cellsT ho e
  rw [hb] at hc
  simp at hc

theorem RAn.setFree' {base : Nat} {wr : World} {g : Nat} {sv fv lv : Value} {A : Arn} {l : List Nat} (h : RAn base wr g sv fv A) (ho : wr.ownsRow base 3 1 lv l.length (l.map nun)) : RAn base (wr.setCell ⟨g, 1, none⟩ lv) g sv lv ⟨A.sl, l, A.wr⟩ := by
  have hb := h.blk
  have hG : wr.grownBy (wr.setCell ⟨g, 1, none⟩ lv) (some g) := ⟨rfl, rfl, rfl, by simp, fun k hk hn => Below.heap_setCell _ _ _ k (fun e => hn (by rw [e]))⟩
  refine ⟨heap_setCell_same _ g 1 _ _ _ hb, h.sl.kept hG (.inr h.ne.1), ho.kept hG (.inr fun e => ?_), h.lo⟩
  obtain ⟨c, hc, _⟩ := own_cellsT ho e
  rw [hb] at hc
  simp at hc

theorem RAn.grown {base : Nat} {w w' : World} {g : Nat} {sv fv : Value} {A : Arn} (h : RAn base w g sv fv A) {row : Option Nat} (hg : w.grownBy w' row) (hr : ∀ k, row = some k → ¬ rfp g sv fv k) : RAn base w' g sv fv A :=
  h.keep (G := fun k => row = some k) ⟨hg.os, hg.tape, hg.output, hg.size, fun k hk hn => hg.block k hk (fun e => hn e.symm)⟩ (fun k hk e => hr k e hk)

/-- The arena's first k slots are there. -/
def arnK (k : Nat) : Arn := ⟨List.replicate k bare, List.range k, 0⟩

theorem slt_fold (x : Slt) : List.foldl (fun (cs : Array Value) (y : Value × Nat) => cs.setIfInBounds y.snd y.fst) sltZ x.cells.zipIdx = x.cells.toArray := by kernel_rfl

set_option maxRecDepth 100000 in
set_option maxHeartbeats 1000000 in
theorem new_r (w : World) : Calls Try.prog 26 #[] w fun e w' => ∃ F, e = .returned (ptr w.heap.size) ∧ RepA w.heap.size w' w.heap.size F arn0 ∧ Below w.heap.size w w' := by
  have cB : Hid (∀ wx, _) := fun wx => bare_ref wx
  obtain ⟨i0, ji, hz0, hz1, hz2⟩ := info_parts info_int
  obtain ⟨i1, jj, hy0, hy1, hy2⟩ := info_parts info_slt
  have HR0 : Hid (RAn w.heap.size (w.alloc (.cells #[.slice none 0 0, .slice none 0 0, .int .i64 0] 80)) w.heap.size (.slice none 0 0) (.slice none 0 0) (arnK 0)) := ⟨heap_alloc_new _ _, World.ownsRow_nil _ _ _ _, World.ownsRow_nil _ _ _ _, Nat.le_refl _⟩
  have HB0 : Hid (Below w.heap.size w (w.alloc (.cells #[.slice none 0 0, .slice none 0 0, .int .i64 0] 80))) := (Below.refl _ _).alloc (Nat.le_refl _) _
  go_enter Try.func26, Try.ntmps26
  go_wp2
  go_loopw [2] (fun kv wr => ∃ (k : Nat), k ≤ 32 ∧ kv = nun k ∧ Hid (∃ sv fv, RAn w.heap.size wr w.heap.size sv fv (arnK k)) ∧ Hid (Below w.heap.size w wr)) (fun kv _ => 32 - (intOf kv).toNat)
  case atStart => exact ⟨0, by omega, rfl, ⟨_, _, HR0.out⟩, HB0⟩
  case round =>
    obtain ⟨k, hk, rfl, hrr, hB⟩ := hrel
    clear HR0 HB0
    by_cases hlt : k < 32
    · obtain ⟨sv, fv, hR⟩ := hrr.out
      have hsl := hR.sl
      have hfl := hR.fr
      have e1 : (arnK k).sl.length = k := by simp [arnK]
      have e2 : (arnK k).fr.length = k := by simp [arnK]
      rw [e1] at hsl
      rw [e2] at hfl
      obtain ⟨a1, c1, rfl, _, hc1, _⟩ := Nm.own_shape hsl
      obtain ⟨a2, c2, rfl, _, hc2, _⟩ := Nm.own_shape hfl
      have hkI : (k : Int) < 32 := by omega
      obtain ⟨w6, hw6⟩ : ∃ w6, wr.drew.alloc (.cells bare.cells.toArray 52) = w6 := ⟨_, rfl⟩
      have HW6 := Hid.mk' hw6
      have hb6 : Below wr.heap.size wr w6 := by rw [← hw6]; exact (Below.refl _ _).drew.alloc (Nat.le_refl _) _
      have hS0 := hR.cells.1
      have hS6 := (hR.below hb6).cells.1
      have hb8 : Below wr.heap.size wr (w6.alloc (.cells bare.cells.toArray 52)) := hb6.alloc hb6.size _
      have hS8 := (hR.below hb8).cells.1
      have hR8 := hR.below hb8
      have HSL : Hid ((w6.alloc (.cells bare.cells.toArray 52)).ownsRow w.heap.size 52 17 (.slice a1 k c1) k (scs (arnK k).sl)) := by
        have := hR8.sl
        rw [e1] at this
        exact this
      have HNB : Hid (∀ j u, bare.cells[j]? = some u → (w6.alloc (.cells bare.cells.toArray 52)).cell? ((⟨w6.heap.size, 0, none⟩ : Addr).add j) = some u) := World.news_of_block (cs := bare.cells.toArray) (heap_alloc_new _ _)
      have HMX : Hid (k + 1 ≤ maxLen) := by show _ ≤ _; unfold maxLen; omega
      have HBY : Hid ((k + 1) * 144 ≤ 140737488355328) := by show _ ≤ _; omega
      have HBZ : Hid (w.heap.size ≤ (w6.alloc (.cells bare.cells.toArray 52)).heap.size) := Nat.le_trans hB.out.size hb8.size
      have HGR : Hid (∀ w9, (w6.alloc (.cells bare.cells.toArray 52)).grownBy w9 (Value.slice a1 k c1).ownBlock → w9.cell? ⟨w.heap.size, 0, none⟩ = some (.slice a1 k c1) ∧ w9.frozen? ⟨w.heap.size, 0, none⟩ = false ∧ ∀ g9 c9, w9.ownsRow w.heap.size 52 17 (.slice (some ⟨g9, 0, none⟩) (k + 1) c9) (k + 1) (scs (arnK k).sl ++ bare.cells) → RAn w.heap.size (w9.setCell ⟨w.heap.size, 0, none⟩ (.slice (some ⟨g9, 0, none⟩) (k + 1) c9)) w.heap.size (.slice (some ⟨g9, 0, none⟩) (k + 1) c9) (.slice a2 k c2) ⟨List.replicate (k + 1) bare, List.range k, 0⟩ ∧ Below w.heap.size w (w9.setCell ⟨w.heap.size, 0, none⟩ (.slice (some ⟨g9, 0, none⟩) (k + 1) c9))) := fun w9 hg9 => by
        have hn8 := hR8.ne
        have hblk : w9.heap[w.heap.size]? = some (.cells #[.slice a1 k c1, .slice a2 k c2, .int .i64 0] 80) := (hg9.block _ hR8.glt (fun e => hn8.1 e.symm)).trans hR8.blk
        refine ⟨by simp [World.cell?, hblk], by simp [World.frozen?, hblk], fun g9 c9 ho9 => ?_⟩
        have hbw : Below w.heap.size w w9 := (hB.out.trans (hb8.mono hB.out.size)).grown hg9 HBZ.out (fun r e => (HSL.out.lt r e).1)
        have hfr9 : w9.ownsRow w.heap.size 3 1 (.slice a2 k c2) (arnK k).fr.length ((arnK k).fr.map nun) := hR8.fr.kept hg9 (by
          cases h : (Value.slice a2 k c2).ownBlock with
          | none => exact .inl rfl
          | some x => exact .inr (fun e => hn8.2.2 x e.symm h))
        have hG : w9.grownBy (w9.setCell ⟨w.heap.size, 0, none⟩ (.slice (some ⟨g9, 0, none⟩) (k + 1) c9)) (some w.heap.size) := ⟨rfl, rfl, rfl, by simp, fun k hk hn => Below.heap_setCell _ _ _ k (fun e => hn (by rw [e]))⟩
        refine ⟨⟨heap_setCell_same _ _ 0 _ _ _ hblk, ?_, hfr9.kept hG (.inr fun e => ?_), Nat.le_refl _⟩, hbw.setCell (p := ⟨w.heap.size, 0, none⟩) (Nat.le_refl _) _⟩
        · refine World.ownsRow.kept ?_ hG (.inr fun e => ?_)
          · simp only
            rw [List.length_replicate, List.replicate_succ', scs_snoc]
            exact ho9
          · obtain ⟨c, hc, _⟩ := own_cellsT ho9 e
            rw [hblk] at hc
            simp at hc
        · obtain ⟨c, hc, _⟩ := own_cellsT hfr9 e
          rw [hblk] at hc
          simp at hc
      have hfl9 : Hid (∀ w10 sv, RAn w.heap.size w10 w.heap.size sv (.slice a2 k c2) ⟨List.replicate (k + 1) bare, List.range k, 0⟩ → w10.ownsRow w.heap.size 3 1 (.slice a2 k c2) k ((List.range k).map nun)) := fun w10 sv h => by
        have := h.fr
        simp only [List.length_range] at this
        exact this
      have hone : Hid (∀ u ∈ [nun k], u.oneCell' = true) := by
        intro u hu
        simp at hu
        subst hu
        rfl
      have HBI : Hid ((k + 1) * 8 ≤ 140737488355328) := by show _ ≤ _; omega
      have HFI : Hid (∀ w10 sv, RAn w.heap.size w10 w.heap.size sv (.slice a2 k c2) ⟨List.replicate (k + 1) bare, List.range k, 0⟩ ∧ Below w.heap.size w w10 → ∀ w11, (w10.alloc (.cells #[nun k] 3)).grownBy w11 (Value.slice a2 k c2).ownBlock → ∀ g11 c11, w11.ownsRow w.heap.size 3 1 (.slice (some ⟨g11, 0, none⟩) (k + 1) c11) (k + 1) ((List.range k).map nun ++ [nun k]) → w11.cell? ⟨w.heap.size, 1, none⟩ = some (.slice a2 k c2) ∧ w11.frozen? ⟨w.heap.size, 1, none⟩ = false ∧ Hid (RAn w.heap.size (w11.setCell ⟨w.heap.size, 1, none⟩ (.slice (some ⟨g11, 0, none⟩) (k + 1) c11)) w.heap.size sv (.slice (some ⟨g11, 0, none⟩) (k + 1) c11) (arnK (k + 1)) ∧ Below w.heap.size w (w11.setCell ⟨w.heap.size, 1, none⟩ (.slice (some ⟨g11, 0, none⟩) (k + 1) c11)))) := fun w10 sv ⟨h10, hb10⟩ w11 hg11 g11 c11 ho11 => by
        have hA := h10.below ((Below.refl _ _).alloc (Nat.le_refl _) (.cells #[nun k] 3))
        have hbA : Below w.heap.size w (w10.alloc (.cells #[nun k] 3)) := hb10.alloc hb10.size _
        have hn := hA.ne
        have hblk : w11.heap[w.heap.size]? = some (.cells #[sv, .slice a2 k c2, .int .i64 0] 80) := (hg11.block _ hA.glt (fun e => hn.2.1 e.symm)).trans hA.blk
        have hsl11 : w11.ownsRow w.heap.size 52 17 sv (List.replicate (k + 1) bare).length (scs (List.replicate (k + 1) bare)) := hA.sl.kept hg11 (by
          cases h : sv.ownBlock with
          | none => exact .inl rfl
          | some x => exact .inr (fun e => hn.2.2 x h e.symm))
        have hbw : Below w.heap.size w w11 := hbA.grown hg11 hbA.size (fun r e => (hA.fr.lt r e).1)
        have hG : w11.grownBy (w11.setCell ⟨w.heap.size, 1, none⟩ (.slice (some ⟨g11, 0, none⟩) (k + 1) c11)) (some w.heap.size) := ⟨rfl, rfl, rfl, by simp, fun k hk hn => Below.heap_setCell _ _ _ k (fun e => hn (by rw [e]))⟩
        refine ⟨by simp [World.cell?, hblk], by simp [World.frozen?, hblk], ⟨heap_setCell_same _ _ 1 _ _ _ hblk, hsl11.kept hG (.inr fun e => ?_), World.ownsRow.kept ?_ hG (.inr fun e => ?_), Nat.le_refl _⟩, hbw.setCell (p := ⟨w.heap.size, 1, none⟩) (Nat.le_refl _) _⟩
        · obtain ⟨c, hc, _⟩ := own_cellsT hsl11 e
          rw [hblk] at hc
          simp at hc
        · simp only [arnK]
          rw [List.length_range, List.range_succ, List.map_append]
          exact ho11
        · obtain ⟨c, hc, _⟩ := own_cellsT ho11 e
          rw [hblk] at hc
          simp at hc
      clear e1 e2 hrr hw6
      go_wp2_with fail
      refine wp_region_held_drew (S := fun _ => True) (by kernel_rfl) trivial (fun hHeld => ?_)
      refine wpAnyH_take (i := 0) (v := ?_) rfl (by kernel_rfl) (by kernel_rfl) (by kernel_rfl) (fun _ _ _ h => h) (Or.inl ⟨by rfl, ?_⟩) hHeld ?_
      rotate_left
      · (intro w' hS'; go_simp <;> with_reducible rfl)
      simp only [Act.put, List.getElem_toArray, List.getElem_cons_succ, List.getElem_cons_zero, List.setIfInBounds_toArray, List.set]
      refine wpAnyH_take (i := 1) (v := ?_) rfl (by kernel_rfl) (by kernel_rfl) (by kernel_rfl) (fun _ _ _ h => h) (Or.inl ⟨by rfl, ?_⟩) hHeld ?_
      rotate_left
      · (intro w' hS'; go_simp <;> with_reducible rfl)
      simp only [Act.put, List.getElem_toArray, List.getElem_cons_succ, List.getElem_cons_zero, List.setIfInBounds_toArray, List.set]
      refine wpAnyH_take (i := 2) (v := ?_) rfl (by kernel_rfl) (by kernel_rfl) (by kernel_rfl) (fun _ _ _ h => h) (Or.inl ⟨by rfl, ?_⟩) hHeld ?_
      rotate_left
      · (intro w' hS'; go_simp <;> with_reducible rfl)
      simp only [Act.put, List.getElem_toArray, List.getElem_cons_succ, List.getElem_cons_zero, List.setIfInBounds_toArray, List.set]
      refine wpAnyH_take (i := 3) (v := ?_) rfl (by kernel_rfl) (by kernel_rfl) (by kernel_rfl) (fun _ _ _ h => h) (Or.inl ⟨by rfl, ?_⟩) hHeld ?_
      rotate_left
      · (intro w' hS'; go_simp <;> with_reducible rfl)
      simp only [Act.put, List.getElem_toArray, List.getElem_cons_succ, List.getElem_cons_zero, List.setIfInBounds_toArray, List.set]
      refine wpAnyH_ready (rs := [4, 5]) (by kernel_rfl) (by simp) ?_
      refine AllReadyH.cons rfl (fun K hK => ?_) (AllReadyH.cons rfl (fun K hK => ?_) AllReadyH.nil)
      · skip
        go_simp
        refine hK.out _ _ trivial (fun hHeld => ?_)
        clear hK K
        try simp only [Act.put, List.getElem_toArray, List.getElem_cons_succ, List.getElem_cons_zero, List.setIfInBounds_toArray, List.set]
        refine wpAnyH_ready (rs := [5]) (by kernel_rfl) (by simp) ?_
        refine AllReadyH.cons rfl (fun K hK => ?_) AllReadyH.nil
        go_simp
        refine (cB.out _).mono ?_
        rintro e w7 ⟨rfl, hw7⟩
        rw [HW6.out] at hw7
        subst w7
        go_wp2_with fail
        refine hK.out _ _ trivial (fun hHeld => ?_)
        clear hK K
        refine wpAnyH_ready (rs := [6]) (by kernel_rfl) (by simp) ?_
        refine AllReadyH.cons rfl (fun K hK => ?_) AllReadyH.nil
        go_simp
        simp only [Slt.len, slt_fold]
        go_simp
        refine hK.out _ _ trivial (fun hHeld => ?_)
        clear hK K
        refine wpAnyH_ready (rs := [7]) (by kernel_rfl) (by simp) ?_
        refine AllReadyH.cons rfl (fun K hK => ?_) AllReadyH.nil
        rw [if_pos (by rfl)]
        simp only [List.getElem_toArray, List.getElem_cons_succ, List.getElem_cons_zero]
        refine wp_append_lies _ _ _ 22 rfl w.heap.size 52 i1 slt0.v 17 144 Try.underlying22 jj hy0 hy1 hy2 rfl (by decide) (.slice a1 k c1) k (scs (arnK k).sl) rfl HSL.out ⟨w6.heap.size, 0, none⟩ 1 1 bare.cells rfl rfl HNB.out bare.one (by decide) HMX.out HBY.out HBZ.out _ rfl ?_
        intro g9 c9 w9 ho9 hg9 _ _
        obtain ⟨hS9, hF9, hr9⟩ := HGR.out w9 hg9
        have HR9 := Hid.mk' (hr9 g9 c9 ho9)
        clear hr9 ho9 hg9
        refine hK.out _ _ trivial (fun hHeld => ?_)
        clear hK K
        try simp only [Act.put, List.getElem_toArray, List.getElem_cons_succ, List.getElem_cons_zero, List.setIfInBounds_toArray, List.set]
        refine wpAnyH_take (i := 8) (v := ?_) rfl (by kernel_rfl) (by kernel_rfl) (by kernel_rfl) (fun _ _ _ h => h) (Or.inl ⟨by rfl, ?_⟩) hHeld ?_
        rotate_left
        · (intro w' hS'; go_simp <;> with_reducible rfl)
        simp only [Act.put, List.getElem_toArray, List.getElem_cons_succ, List.getElem_cons_zero, List.setIfInBounds_toArray, List.set]
        refine wpAnyH_take (i := 9) (v := ?_) rfl (by kernel_rfl) (by kernel_rfl) (by kernel_rfl) (fun _ _ _ h => h) (Or.inl ⟨by rfl, ?_⟩) hHeld ?_
        rotate_left
        · (intro w' hS'; go_simp <;> with_reducible rfl)
        simp only [Act.put, List.getElem_toArray, List.getElem_cons_succ, List.getElem_cons_zero, List.setIfInBounds_toArray, List.set]
        refine wpAnyH_ready (rs := [10]) (by kernel_rfl) (by simp) ?_
        refine AllReadyH.cons rfl (fun K hK => ?_) AllReadyH.nil
        go_simp
        refine hK.out _ _ trivial (fun hHeld => ?_)
        clear hK K
        refine wpAnyH_done (by kernel_rfl) ?_ _
        try simp only [Act.put, List.getElem_toArray, List.getElem_cons_succ, List.getElem_cons_zero, List.setIfInBounds_toArray, List.set]
        generalize w9.setCell ⟨w.heap.size, 0, none⟩ (.slice (some ⟨g9, 0, none⟩) (k + 1) c9) = w10 at *
        obtain ⟨z0, z1, z2, zf⟩ := HR9.out.1.cells
        have HO9 := Hid.mk' (hfl9.out _ _ HR9.out.1)
        have hbz9 : Hid (w.heap.size ≤ w10.heap.size) := HR9.out.2.size
        clear hS9 hF9 hHeld
        go_wp2_with (at_builtin; refine wpList_append_lies _ rfl _ _ 35 rfl w.heap.size 3 i0 (.int .i64 0) 1 8 Try.underlying35 ji hz0 hz1 hz2 rfl (by decide) (.slice a2 k c2) k ((List.range k).map nun) rfl (HO9.out.alloc _) ⟨w10.heap.size, 0, none⟩ 1 1 [nun k] rfl rfl (World.news_of_block (heap_alloc_new _ _)) hone.out (by decide) HMX.out HBI.out (by have := hbz9.out; simp; omega) _ rfl ?_; intro g11 c11 w11 ho11 hg11 _ _; obtain ⟨y1, yf, HR11⟩ := HFI.out w10 _ HR9.out w11 hg11 g11 c11 ho11; clear ho11 hg11)
        go_roundw
        case rel => exact ⟨k + 1, by omega, by go_num, ⟨_, _, HR11.out.1⟩, HR11.out.2⟩
        case measure => simp [intOf]; omega
      · skip
        go_simp
        refine (cB.out _).mono ?_
        rintro e w7 ⟨rfl, hw7⟩
        rw [HW6.out] at hw7
        subst w7
        go_wp2_with fail
        refine hK.out _ _ trivial (fun hHeld => ?_)
        clear hK K
        refine wpAnyH_ready (rs := [4, 6]) (by kernel_rfl) (by simp) ?_
        refine AllReadyH.cons rfl (fun K hK => ?_) (AllReadyH.cons rfl (fun K hK => ?_) AllReadyH.nil)
        · skip
          go_simp
          refine hK.out _ _ trivial (fun hHeld => ?_)
          clear hK K
          try simp only [Act.put, List.getElem_toArray, List.getElem_cons_succ, List.getElem_cons_zero, List.setIfInBounds_toArray, List.set]
          refine wpAnyH_ready (rs := [6]) (by kernel_rfl) (by simp) ?_
          refine AllReadyH.cons rfl (fun K hK => ?_) AllReadyH.nil
          go_simp
          simp only [Slt.len, slt_fold]
          go_simp
          refine hK.out _ _ trivial (fun hHeld => ?_)
          clear hK K
          refine wpAnyH_ready (rs := [7]) (by kernel_rfl) (by simp) ?_
          refine AllReadyH.cons rfl (fun K hK => ?_) AllReadyH.nil
          rw [if_pos (by rfl)]
          simp only [List.getElem_toArray, List.getElem_cons_succ, List.getElem_cons_zero]
          refine wp_append_lies _ _ _ 22 rfl w.heap.size 52 i1 slt0.v 17 144 Try.underlying22 jj hy0 hy1 hy2 rfl (by decide) (.slice a1 k c1) k (scs (arnK k).sl) rfl HSL.out ⟨w6.heap.size, 0, none⟩ 1 1 bare.cells rfl rfl HNB.out bare.one (by decide) HMX.out HBY.out HBZ.out _ rfl ?_
          intro g9 c9 w9 ho9 hg9 _ _
          obtain ⟨hS9, hF9, hr9⟩ := HGR.out w9 hg9
          have HR9 := Hid.mk' (hr9 g9 c9 ho9)
          clear hr9 ho9 hg9
          refine hK.out _ _ trivial (fun hHeld => ?_)
          clear hK K
          try simp only [Act.put, List.getElem_toArray, List.getElem_cons_succ, List.getElem_cons_zero, List.setIfInBounds_toArray, List.set]
          refine wpAnyH_take (i := 8) (v := ?_) rfl (by kernel_rfl) (by kernel_rfl) (by kernel_rfl) (fun _ _ _ h => h) (Or.inl ⟨by rfl, ?_⟩) hHeld ?_
          rotate_left
          · (intro w' hS'; go_simp <;> with_reducible rfl)
          simp only [Act.put, List.getElem_toArray, List.getElem_cons_succ, List.getElem_cons_zero, List.setIfInBounds_toArray, List.set]
          refine wpAnyH_take (i := 9) (v := ?_) rfl (by kernel_rfl) (by kernel_rfl) (by kernel_rfl) (fun _ _ _ h => h) (Or.inl ⟨by rfl, ?_⟩) hHeld ?_
          rotate_left
          · (intro w' hS'; go_simp <;> with_reducible rfl)
          simp only [Act.put, List.getElem_toArray, List.getElem_cons_succ, List.getElem_cons_zero, List.setIfInBounds_toArray, List.set]
          refine wpAnyH_ready (rs := [10]) (by kernel_rfl) (by simp) ?_
          refine AllReadyH.cons rfl (fun K hK => ?_) AllReadyH.nil
          go_simp
          refine hK.out _ _ trivial (fun hHeld => ?_)
          clear hK K
          refine wpAnyH_done (by kernel_rfl) ?_ _
          try simp only [Act.put, List.getElem_toArray, List.getElem_cons_succ, List.getElem_cons_zero, List.setIfInBounds_toArray, List.set]
          generalize w9.setCell ⟨w.heap.size, 0, none⟩ (.slice (some ⟨g9, 0, none⟩) (k + 1) c9) = w10 at *
          obtain ⟨z0, z1, z2, zf⟩ := HR9.out.1.cells
          have HO9 := Hid.mk' (hfl9.out _ _ HR9.out.1)
          have hbz9 : Hid (w.heap.size ≤ w10.heap.size) := HR9.out.2.size
          clear hS9 hF9 hHeld
          go_wp2_with (at_builtin; refine wpList_append_lies _ rfl _ _ 35 rfl w.heap.size 3 i0 (.int .i64 0) 1 8 Try.underlying35 ji hz0 hz1 hz2 rfl (by decide) (.slice a2 k c2) k ((List.range k).map nun) rfl (HO9.out.alloc _) ⟨w10.heap.size, 0, none⟩ 1 1 [nun k] rfl rfl (World.news_of_block (heap_alloc_new _ _)) hone.out (by decide) HMX.out HBI.out (by have := hbz9.out; simp; omega) _ rfl ?_; intro g11 c11 w11 ho11 hg11 _ _; obtain ⟨y1, yf, HR11⟩ := HFI.out w10 _ HR9.out w11 hg11 g11 c11 ho11; clear ho11 hg11)
          go_roundw
          case rel => exact ⟨k + 1, by omega, by go_num, ⟨_, _, HR11.out.1⟩, HR11.out.2⟩
          case measure => simp [intOf]; omega
        · skip
          go_simp
          simp only [Slt.len, slt_fold]
          go_simp
          refine hK.out _ _ trivial (fun hHeld => ?_)
          clear hK K
          refine wpAnyH_ready (rs := [4]) (by kernel_rfl) (by simp) ?_
          refine AllReadyH.cons rfl (fun K hK => ?_) AllReadyH.nil
          go_simp
          refine hK.out _ _ trivial (fun hHeld => ?_)
          clear hK K
          try simp only [Act.put, List.getElem_toArray, List.getElem_cons_succ, List.getElem_cons_zero, List.setIfInBounds_toArray, List.set]
          refine wpAnyH_ready (rs := [7]) (by kernel_rfl) (by simp) ?_
          refine AllReadyH.cons rfl (fun K hK => ?_) AllReadyH.nil
          rw [if_pos (by rfl)]
          simp only [List.getElem_toArray, List.getElem_cons_succ, List.getElem_cons_zero]
          refine wp_append_lies _ _ _ 22 rfl w.heap.size 52 i1 slt0.v 17 144 Try.underlying22 jj hy0 hy1 hy2 rfl (by decide) (.slice a1 k c1) k (scs (arnK k).sl) rfl HSL.out ⟨w6.heap.size, 0, none⟩ 1 1 bare.cells rfl rfl HNB.out bare.one (by decide) HMX.out HBY.out HBZ.out _ rfl ?_
          intro g9 c9 w9 ho9 hg9 _ _
          obtain ⟨hS9, hF9, hr9⟩ := HGR.out w9 hg9
          have HR9 := Hid.mk' (hr9 g9 c9 ho9)
          clear hr9 ho9 hg9
          refine hK.out _ _ trivial (fun hHeld => ?_)
          clear hK K
          try simp only [Act.put, List.getElem_toArray, List.getElem_cons_succ, List.getElem_cons_zero, List.setIfInBounds_toArray, List.set]
          refine wpAnyH_take (i := 8) (v := ?_) rfl (by kernel_rfl) (by kernel_rfl) (by kernel_rfl) (fun _ _ _ h => h) (Or.inl ⟨by rfl, ?_⟩) hHeld ?_
          rotate_left
          · (intro w' hS'; go_simp <;> with_reducible rfl)
          simp only [Act.put, List.getElem_toArray, List.getElem_cons_succ, List.getElem_cons_zero, List.setIfInBounds_toArray, List.set]
          refine wpAnyH_take (i := 9) (v := ?_) rfl (by kernel_rfl) (by kernel_rfl) (by kernel_rfl) (fun _ _ _ h => h) (Or.inl ⟨by rfl, ?_⟩) hHeld ?_
          rotate_left
          · (intro w' hS'; go_simp <;> with_reducible rfl)
          simp only [Act.put, List.getElem_toArray, List.getElem_cons_succ, List.getElem_cons_zero, List.setIfInBounds_toArray, List.set]
          refine wpAnyH_ready (rs := [10]) (by kernel_rfl) (by simp) ?_
          refine AllReadyH.cons rfl (fun K hK => ?_) AllReadyH.nil
          go_simp
          refine hK.out _ _ trivial (fun hHeld => ?_)
          clear hK K
          refine wpAnyH_done (by kernel_rfl) ?_ _
          try simp only [Act.put, List.getElem_toArray, List.getElem_cons_succ, List.getElem_cons_zero, List.setIfInBounds_toArray, List.set]
          generalize w9.setCell ⟨w.heap.size, 0, none⟩ (.slice (some ⟨g9, 0, none⟩) (k + 1) c9) = w10 at *
          obtain ⟨z0, z1, z2, zf⟩ := HR9.out.1.cells
          have HO9 := Hid.mk' (hfl9.out _ _ HR9.out.1)
          have hbz9 : Hid (w.heap.size ≤ w10.heap.size) := HR9.out.2.size
          clear hS9 hF9 hHeld
          go_wp2_with (at_builtin; refine wpList_append_lies _ rfl _ _ 35 rfl w.heap.size 3 i0 (.int .i64 0) 1 8 Try.underlying35 ji hz0 hz1 hz2 rfl (by decide) (.slice a2 k c2) k ((List.range k).map nun) rfl (HO9.out.alloc _) ⟨w10.heap.size, 0, none⟩ 1 1 [nun k] rfl rfl (World.news_of_block (heap_alloc_new _ _)) hone.out (by decide) HMX.out HBI.out (by have := hbz9.out; simp; omega) _ rfl ?_; intro g11 c11 w11 ho11 hg11 _ _; obtain ⟨y1, yf, HR11⟩ := HFI.out w10 _ HR9.out w11 hg11 g11 c11 ho11; clear ho11 hg11)
          go_roundw
          case rel => exact ⟨k + 1, by omega, by go_num, ⟨_, _, HR11.out.1⟩, HR11.out.2⟩
          case measure => simp [intOf]; omega
    · obtain rfl : k = 32 := by omega
      obtain ⟨sv, fv, hR⟩ := hrr.out
      have HF : Hid (RepA w.heap.size wr w.heap.size (rfp w.heap.size sv fv) arn0) := ⟨sv, fv, hR, rfl, hB.out.size⟩
      clear hrr hR
      go_wp2
      go_ret
      exact ⟨_, rfl, HF.out, hB.out⟩
end An
end Go.Proofs.Ytbkcpjgaoncioaa
