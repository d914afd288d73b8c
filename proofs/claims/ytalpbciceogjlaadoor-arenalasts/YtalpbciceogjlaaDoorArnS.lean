/- The document's arena: a slot is taken out of the free ones; Take, Place. -/
import Derived.Test.YtalpbciceogjlaaDoorArnR
namespace Go.Proofs.YtalpbciceogjlaaDoor
set_option linter.ambiguousOpen false
open Go.RowKit
namespace An
open Ft Lv
set_option linter.unusedSimpArgs false
set_option linter.unusedVariables false

theorem erase_step (l : List Nat) (k i x : Nat) (hx : l[i]? = some x) : (l.take (i + 1)).eraseIdx k = if i = k then (l.take i).eraseIdx k else (l.take i).eraseIdx k ++ [x] := by
  have hi : i < l.length := (List.getElem?_eq_some_iff.1 hx).1
  have e : l.take (i + 1) = l.take i ++ [x] := by
    rw [List.take_add_one, hx]
    rfl
  have hl : (l.take i).length = i := by rw [List.length_take]; omega
  rw [e]
  rcases Nat.lt_trichotomy i k with h | h | h
  · rw [if_neg (by omega), List.eraseIdx_of_length_le (by simp [hl]; omega), List.eraseIdx_of_length_le (by rw [hl]; omega)]
  · subst h
    have e2 : (l.take i).eraseIdx i = l.take i := List.eraseIdx_of_length_le (by rw [hl]; exact Nat.le_refl _)
    rw [if_pos rfl, List.eraseIdx_append_of_length_le (by rw [hl]; exact Nat.le_refl _), hl, e2, Nat.sub_self]
    simp
  · rw [if_neg (by omega), List.eraseIdx_append_of_lt_length (by rw [hl]; exact h)]

/-- The list of free ones is put in. -/
theorem RAn.setFree {base : Nat} {w wr : World} {g : Nat} {sv fv lv : Value} {A : Arn} {l : List Nat} (h : RAn base wr g sv fv A) (hgw : g < w.heap.size) (ho : wr.ownsRow w.heap.size 3 1 lv l.length (l.map nun)) : RAn base (wr.setCell ⟨g, 1, none⟩ lv) g sv lv ⟨A.sl, l, A.wr⟩ := by
  have hb := h.blk
  have hG : wr.grownBy (wr.setCell ⟨g, 1, none⟩ lv) (some g) := ⟨rfl, rfl, rfl, by simp, fun k hk hn => Below.heap_setCell _ _ _ k (fun e => hn (by rw [e]))⟩
  refine ⟨heap_setCell_same _ g 1 _ _ _ hb, h.sl.kept hG (.inr h.ne.1), (own_monoA (ho.kept hG (.inr fun e => by have := (ho.lt g e).1; omega)) (Nat.le_of_lt (Nat.lt_of_le_of_lt h.lo hgw))), h.lo⟩

set_option maxRecDepth 100000 in
set_option maxHeartbeats 1000000 in
theorem without_ref (base : Nat) (w : World) (g : Nat) (sv fv : Value) (A : Arn) (k : Nat) (h : RAn base w g sv fv A) (hg : Good A) (hk : k < 32) :
    Calls Tryd.prog 35 #[ptr g, nun k] w fun e w' => (∃ u, e = .returned u) ∧ ∃ fv', RAn base w' g sv fv' ⟨A.sl, A.fr.eraseIdx k, A.wr⟩ ∧ Keep (fun j => j = g) w w' ∧ (∀ j, fv'.ownBlock = some j → w.heap.size ≤ j) := by
  obtain ⟨i0, ji, hz0, hz1, hz2⟩ := info_parts info_int
  have hfew := hg.few
  have HA := Hid.mk' h
  have hgl := h.glt
  obtain ⟨l, hl⟩ : ∃ l, A.fr = l := ⟨_, rfl⟩
  obtain ⟨n, hn⟩ : ∃ n, l.length = n := ⟨_, rfl⟩
  have hfa : Hid (0 < n → ∃ b cap, fv = .slice (some ⟨b, 0, none⟩) n cap ∧ n ≤ cap ∧ cap ≤ maxLen ∧ b < w.heap.size ∧ ∀ k i, l[k]? = some i → w.cell? ⟨b, k, none⟩ = some (nun i)) := fun hp => by
    rw [← hn, ← hl] at *
    exact h.freeAt hp
  obtain ⟨a0, c0, hfv, _⟩ := Nm.own_shape h.fr
  rw [hl, hn] at hfv hfew
  have HLN := Hid.mk' hn
  rw [hl]
  subst hfv
  have hcells : Hid (∀ wr, Below w.heap.size w wr → wr.cell? ⟨g, 1, none⟩ = some (.slice a0 n c0) ∧ wr.frozen? ⟨g, 1, none⟩ = false) := fun wr hb => by
    obtain ⟨_, q1, _, qf⟩ := (HA.out.below hb).cells
    exact ⟨q1, qf 1⟩
  clear h hg hn hl
  go_enter Tryd.func35, Tryd.ntmps35
  go_wp2
  go_loopw [4, 5] (fun lv iv wr => ∃ (i m : Nat) (ys : List Nat), i ≤ n ∧ m ≤ i ∧ iv = nun i ∧ Hid (ys = (l.take i).eraseIdx k) ∧ Hid (ys.length = m) ∧ Hid (wr.ownsRow w.heap.size 3 1 lv m (ys.map nun)) ∧ Hid (Below w.heap.size w wr)) (fun _ iv _ => n - (intOf iv).toNat)
  case atStart => exact ⟨0, 0, [], Nat.zero_le _, Nat.le_refl _, rfl, by show _ = _; simp, rfl, World.ownsRow_nil _ _ _ _, Below.refl _ _⟩
  case round =>
    obtain ⟨i, m, ys, hi, hm, rfl, hys, hyl, hO, hB⟩ := hrel
    obtain ⟨q1, qf⟩ := hcells.out wr hB.out
    obtain ⟨al, cl, hlv, hcl1, hcl2⟩ := Nm.own_shape hO.out
    subst hlv
    by_cases hlt : i < n
    · have hiI : (i : Int) < (n : Int) := by omega
      obtain ⟨b, cap, hv, hc1, hc2, hbl, hcell⟩ := hfa.out (by omega)
      simp only [Value.slice.injEq, true_and] at hv
      obtain ⟨rfl, rfl⟩ := hv
      unfold maxLen at hc2
      obtain ⟨x, hx⟩ : ∃ x, l[i]? = some x := ⟨_, List.getElem?_eq_getElem (by rw [HLN.out]; exact hlt)⟩
      have hc : wr.cell? ⟨b, i, none⟩ = some (nun x) := (hB.out.cell (p := ⟨b, i, none⟩) hbl).trans (hcell i x hx)
      have hst := erase_step l k i x hx
      by_cases he : i = k
      · subst he
        rw [if_pos rfl] at hst
        have HY2 : Hid (ys = (l.take (i + 1)).eraseIdx i) := hys.out.trans hst.symm
        have hee : ((i : Int) == (i : Int)) = true := by simp
        clear hcell hc hx hst hys
        go_wp2
        go_roundw
        case rel => exact ⟨i + 1, m, ys, by omega, by omega, by go_num, HY2, hyl, hO, hB⟩
        case measure => simp [intOf]; omega
      · rw [if_neg he] at hst
        have HY2 : Hid (ys ++ [x] = (l.take (i + 1)).eraseIdx k) := by
          show _ = _
          rw [hst, hys.out]
        have HYL : Hid ((ys ++ [x]).length = m + 1) := by
          show _ = _
          rw [List.length_append, hyl.out]
          rfl
        have HYM : Hid ((ys ++ [x]).map nun = ys.map nun ++ [nun x]) := by show _ = _; simp
        have hee : ((i : Int) == (k : Int)) = false := by simp; omega
        have hone : Hid (∀ u ∈ [nun x], u.oneCell' = true) := by
          intro u hu
          simp at hu
          subst hu
          rfl
        have hmx : Hid (m + 1 ≤ maxLen) := by show _ ≤ _; unfold maxLen; omega
        have hby : Hid ((m + 1) * 8 ≤ 140737488355328) := by show _ ≤ _; omega
        have hbs : Hid (w.heap.size ≤ wr.heap.size) := hB.out.size
        clear hcell hx hst hys
        go_wp2_with (at_builtin; refine wpList_append_own _ rfl _ _ 44 rfl w.heap.size 3 i0 (.int .i64 0) 1 8 Tryd.underlying44 ji hz0 hz1 hz2 rfl (by decide) _ _ _ rfl (hO.out.alloc _) ⟨wr.heap.size, 0, none⟩ 1 1 [nun x] rfl rfl (World.news_of_block (heap_alloc_new _ _)) hone.out hmx.out hby.out (by have := hbs.out; simp; omega) ?_; intro v' w4 hown4 hgrow _; rw [← HYM.out] at hown4; have HO4 := Hid.mk' hown4; have HB4 : Hid (Below w.heap.size w w4) := Below.grown (hB.out.alloc hbs.out _) hgrow (by have := hbs.out; simp; omega) (fun j hj => (hO.out.lt j hj).1); clear hown4 hgrow)
        go_roundw
        case rel => exact ⟨i + 1, m + 1, ys ++ [x], by omega, by omega, by go_num, HY2, HYL, HO4, HB4⟩
        case measure => simp [intOf]; omega
    · obtain rfl : i = n := by omega
      have hye : ys = l.eraseIdx k := by
        have := hys.out
        rwa [List.take_of_length_le (by rw [HLN.out]; exact Nat.le_refl _)] at this
      have hO' : wr.ownsRow w.heap.size 3 1 (.slice al m cl) (l.eraseIdx k).length ((l.eraseIdx k).map nun) := by
        rw [← hye, hyl.out]
        exact hO.out
      have hiI : ¬ (i : Int) < (i : Int) := by omega
      have HF := Hid.mk' ((HA.out.below hB.out).setFree hgl hO')
      have HK : Hid (Keep (fun j => j = g) w (wr.setCell ⟨g, 1, none⟩ (.slice al m cl))) := ((Keep.of_below (F := fun j => j = g) hB.out)).setCell (p := ⟨g, 1, none⟩) (.inl rfl) _
      have HP : Hid (∀ j, (Value.slice al m cl).ownBlock = some j → w.heap.size ≤ j) := fun j hj => (hO.out.lt j hj).1
      clear hfa hys hye hO'
      go_wp2
      go_end0
      exact ⟨⟨_, rfl⟩, _, HF.out, HK.out, HP.out⟩

/-- The document's arena, as a footprint. -/
def RepA (base : Nat) (w : World) (g : Nat) (F : Nat → Prop) (A : Arn) : Prop := ∃ sv fv, RAn base w g sv fv A ∧ F = rfp g sv fv ∧ base ≤ w.heap.size

theorem RepA.keep {base : Nat} {w w' : World} {g : Nat} {F G : Nat → Prop} {A : Arn} (h : RepA base w g F A) (hk : Keep G w w') (hn : ∀ k, F k → ¬ G k) : RepA base w' g F A := by
  obtain ⟨sv, fv, h1, rfl, h3⟩ := h
  exact ⟨sv, fv, h1.keep hk hn, rfl, Nat.le_trans h3 hk.size⟩

theorem RepA.below {base : Nat} {w w' : World} {g : Nat} {F : Nat → Prop} {A : Arn} (h : RepA base w g F A) (hb : Below w.heap.size w w') : RepA base w' g F A :=
  h.keep (Keep.of_below (F := fun _ => False) hb) (fun _ _ h => h)

theorem RepA.lt {base : Nat} {w : World} {g : Nat} {F : Nat → Prop} {A : Arn} (h : RepA base w g F A) (k : Nat) (hk : F k) : base ≤ k ∧ k < w.heap.size := by
  obtain ⟨sv, fv, h1, rfl, h3⟩ := h
  exact h1.lt k hk

/-- What a call leaves of it. -/
def LeftA (base : Nat) (w w' : World) (g : Nat) (F : Nat → Prop) (A : Arn) : Prop := ∃ G, RepA base w' g G A ∧ Keep F w w' ∧ Goes w F G

theorem leftA_same {base : Nat} {w : World} {g : Nat} {F : Nat → Prop} {A : Arn} (h : RepA base w g F A) : LeftA base w w g F A := ⟨F, h, Keep.refl _ _, Goes.refl _ _⟩

theorem leftA_free {base : Nat} {w w' : World} {g : Nat} {sv fv fv' : Value} {A : Arn} (h : RAn base w' g sv fv' A) (hb : base ≤ w.heap.size) (hk : Keep (fun j => j = g) w w') (hn : ∀ j, fv'.ownBlock = some j → w.heap.size ≤ j) : LeftA base w w' g (rfp g sv fv) A :=
  ⟨rfp g sv fv', ⟨sv, fv', h, rfl, Nat.le_trans hb hk.size⟩, hk.weaken (fun k _ e => .inl e), fun k hk' => by
    rcases hk' with e | e | e
    · exact .inl (.inl e)
    · exact .inl (.inr (.inl e))
    · exact .inr (hn k e)⟩

theorem get_r (base : Nat) (w : World) (g : Nat) (F : Nat → Prop) (A : Arn) (i : Int) (h : RepA base w g F A) (hg : Good A) :
    Calls Tryd.prog 15 #[ptr g, nu i] w fun e w' => e = .returned (.tuple #[(A.at i).v, nu (Arn.atE i : Int)]) ∧ Below w.heap.size w w' := by
  obtain ⟨sv, fv, h1, _, _⟩ := h
  exact get_ref base w g sv fv A i h1 hg

set_option maxRecDepth 100000 in
theorem take_r (base : Nat) (w : World) (g : Nat) (F : Nat → Prop) (A : Arn) (h : RepA base w g F A) (hg : Good A) :
    Calls Tryd.prog 20 #[ptr g] w fun e w' => e = .returned (.tuple #[nun A.take.2.1, nun A.take.1]) ∧ LeftA base w w' g F A.take.2.2 := by
  have HA := Hid.mk' h
  obtain ⟨sv, fv, h1, rfl, h3⟩ := h
  obtain ⟨q0, q1, q2, qf⟩ := h1.cells
  have hfew := hg.few
  have cW := Hid.mk' (without_ref base w g sv fv A 0 h1 hg (by decide))
  cases hf : A.fr with
  | nil =>
    have hT : Hid (A.take = (19, 0, A)) := by
      show _ = _
      unfold Arn.take
      rw [hf]
    have h4 := h1.fr
    rw [hf] at h4
    obtain ⟨a0, c0, rfl, _⟩ := Nm.own_shape h4
    clear h1 h4 hf cW
    go_enter Tryd.func20, Tryd.ntmps20
    go_wp2
    go_ret2
    rw [hT.out]
    exact ⟨rfl, leftA_same HA.out⟩
  | cons i r =>
    have hT : Hid (A.take = (0, i, ⟨A.sl, r, A.wr⟩)) := by
      show _ = _
      unfold Arn.take
      rw [hf]
    have hE : A.fr.eraseIdx 0 = r := by rw [hf]; rfl
    rw [hE] at cW
    obtain ⟨b, cap, hv, hc1, hc2, hbl, hcell⟩ := h1.freeAt (by rw [hf]; simp)
    have hc := hcell 0 i (by rw [hf]; rfl)
    obtain ⟨n, hn⟩ : ∃ n, A.fr.length = n := ⟨_, rfl⟩
    have hpos : 0 < n := by rw [← hn, hf]; simp
    rw [hn] at hv hc1 hfew
    unfold maxLen at hc2
    subst hv
    have hnz : ((n : Int) == 0) = false := by simp; omega
    have hnI : (0 : Int) < (n : Int) := by omega
    clear h1 hf hE hcell hn
    go_enter Tryd.func20, Tryd.ntmps20
    go_wp2_with fail
    refine cW.out.mono ?_
    rintro e w1 ⟨⟨u, rfl⟩, fv', r1, r2, r3⟩
    have HL : Hid (LeftA base w w1 g (rfp g sv (.slice (some ⟨b, 0, none⟩) n cap)) ⟨A.sl, r, A.wr⟩) := leftA_free r1 h3 r2 r3
    clear r1 r2 r3 cW
    go_wp2
    go_ret2
    rw [hT.out]
    exact ⟨rfl, HL.out⟩

theorem erase_idx (i : Nat) : ∀ l : List Nat, l.eraseIdx (l.idxOf i) = l.erase i
  | [] => rfl
  | a :: l => by
    rw [List.idxOf_cons, List.erase_cons]
    cases h : a == i with
    | true => simp
    | false => simp [erase_idx i l]

theorem pos_in {l : List Nat} {i : Nat} (h : i ∈ l) : pos l i = (l.idxOf i : Int) ∧ l.eraseIdx (l.idxOf i) = l.erase i := ⟨by rw [pos, if_pos h], erase_idx i l⟩

theorem pos_out {l : List Nat} {i : Nat} (h : i ∉ l) : pos l i = -1 := by rw [pos, if_neg h]

set_option maxRecDepth 100000 in
theorem place_r (base : Nat) (w : World) (g : Nat) (F : Nat → Prop) (A : Arn) (i : Int) (h : RepA base w g F A) (hg : Good A) :
    Calls Tryd.prog 23 #[ptr g, nu i] w fun e w' => e = .returned (nun (A.place i).1) ∧ LeftA base w w' g F (A.place i).2 := by
  have c1 := Hid.mk' (there_ref i w)
  have HA := Hid.mk' h
  obtain ⟨sv, fv, h1, rfl, h3⟩ := h
  unfold Arn.place
  by_cases ht : there i
  · rw [if_pos ht]
    rw [decide_eq_true ht] at c1
    obtain ⟨k, rfl⟩ : ∃ k : Nat, i = (k : Int) := ⟨i.toNat, by omega⟩
    have hk : k < 32 := by omega
    simp only [Int.toNat_natCast]
    have c2 := Hid.mk' (at_ref base w g sv fv A k h1 hg hk)
    by_cases hm : k ∈ A.fr
    · rw [if_pos hm]
      have hfew := hg.few
      have hix := List.idxOf_lt_length_of_mem hm
      obtain ⟨p1, p2⟩ := pos_in hm
      have cW := Hid.mk' (without_ref base w g sv fv A (A.fr.idxOf k) h1 hg (by omega))
      rw [p2] at cW
      rw [p1] at c2
      generalize A.fr.idxOf k = j at *
      have hj : ¬ (j : Int) < 0 := by omega
      clear h1 ht hm p1 p2
      go_enter Tryd.func23, Tryd.ntmps23
      go_wp2_with fail
      refine c1.out.mono ?_
      rintro e w1 ⟨rfl, hw1⟩
      subst w1
      go_wp2_with fail
      refine c2.out.mono ?_
      rintro e w1 ⟨rfl, hw1⟩
      subst w1
      go_wp2_with fail
      refine cW.out.mono ?_
      rintro e w1 ⟨⟨u, rfl⟩, fv', r1, r2, r3⟩
      have HL : Hid (LeftA base w w1 g (rfp g sv fv) ⟨A.sl, A.fr.erase k, A.wr⟩) := leftA_free r1 h3 r2 r3
      clear r1 r2 r3 cW
      go_wp2
      go_ret
      exact ⟨rfl, HL.out⟩
    · rw [if_neg hm]
      rw [pos_out hm] at c2
      clear h1 ht hm
      go_enter Tryd.func23, Tryd.ntmps23
      go_wp2_with fail
      refine c1.out.mono ?_
      rintro e w1 ⟨rfl, hw1⟩
      subst w1
      go_wp2_with fail
      refine c2.out.mono ?_
      rintro e w1 ⟨rfl, hw1⟩
      subst w1
      go_wp2
      go_ret
      exact ⟨rfl, leftA_same HA.out⟩
  · rw [if_neg ht]
    rw [decide_eq_false ht] at c1
    clear h1 ht
    go_enter Tryd.func23, Tryd.ntmps23
    go_wp2_with fail
    refine c1.out.mono ?_
    rintro e w1 ⟨rfl, hw1⟩
    subst w1
    go_wp2
    go_ret
    exact ⟨rfl, leftA_same HA.out⟩
end An
end Go.Proofs.YtalpbciceogjlaaDoor
