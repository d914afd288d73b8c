import Derived.Test.YthabnombfbehkaaSgM
import Derived.Test.YthabnombfbehkaaSwM
import Derived.Test.YthabnombfbehkaaShelf
import Derived.Test.YthabnombfbehkaaRngN
import Derived.Maps.AppendAt
import Derived.Maps.OwnIn
/- The program's garbage: behind, found, All. -/
namespace Go.Proofs.Ythabnombfbehkaa
set_option linter.ambiguousOpen false
open Go.RowKit
namespace Sp
open An Rg Ft Lv Sw
set_option linter.unusedSimpArgs false
set_option linter.unusedVariables false
attribute [local go_sem] Oper.semAt_some

set_option maxRecDepth 100000 in
theorem contains_r (base n : Nat) (v : Value) (L : List Nat) (x : Nat) (w : World) (h : w.ownsRow base 3 1 v n (L.map nun)) (hn : n ≤ 1000000) :
    Calls Try.prog 59 #[v, nun x] w fun e w' => e = .returned (.bool (decide (x ∈ L))) ∧ w' = w := by
  have hl : L.length = n := by have := h.1; simpa using this
  subst hl
  rcases h.2 with ⟨rfl, h0⟩ | ⟨g, cap, cur, rfl, hbg, hg, hnc, hcm, hcs, htk⟩
  · have hL : L = [] := List.length_eq_zero_iff.1 h0
    subst hL
    have := Try.slices_Contains_int_empty none 0 (x : Int) w
    simpa using this
  · have c := Try.slices_Contains_int g 0 L.length cap (L.map (fun i : Nat => (i : Int))) (x : Int) w (by simp) (by omega) (fun j hj => by
      have hj' : j < L.length := by simpa using hj
      have h1 := h.cellAt (g := g) (cap := cap) j (by simpa using hj')
      rw [Nat.zero_add, h1]
      simp [hj'])
    have e : ((L.map (fun i : Nat => (i : Int))).take L.length).contains (x : Int) = decide (x ∈ L) := by
      rw [List.take_of_length_le (by simp), Bool.eq_iff_iff, List.contains_iff_mem, decide_eq_true_iff, List.mem_map]
      constructor
      · rintro ⟨y, hy, e⟩
        have : y = x := by omega
        exact this ▸ hy
      · exact fun hx => ⟨x, hx, rfl⟩
    rw [e] at c
    exact c

/-- A row that lies ahead of lo, or behind hi, stays as it lay. -/
theorem own_away {lo hi : Nat} {W W' : World} {row : Option Nat} {base : Nat} {e : TypeId} {size : Nat} {v : Value} {k : Nat} {xs : List Value} (h : W.ownsRow base e size v k xs) (hl : ∀ g, v.ownBlock = some g → g < lo ∨ hi ≤ g) (hg : W.grownBy W' row) (hr : Rf.Away lo hi W row) : W'.ownsRow base e size v k xs := by
  refine h.kept hg ?_
  rcases h.2 with ⟨rfl, _⟩ | ⟨g, cap, cur, rfl, hbg, hgb, _⟩
  · exact .inl rfl
  · refine .inr fun e' => ?_
    obtain ⟨h1, h2⟩ := hr g (by simpa [Value.ownBlock] using e'.symm)
    rcases hl g rfl with h3 | h3
    · omega
    · rcases h2 with h2 | ⟨o, ho, hc⟩
      · omega
      · rw [hgb] at ho
        cases ho
        cases hc

/-- Amid behind. -/
structure Bh (base lo hi B : Nat) (w W : World) (l : List Nat) (v : Value) (n : Nat) : Prop where
  box : Boxed W B 22 v
  own : W.ownsRow base 3 1 v n (l.map nun)
  loc : ∀ g, v.ownBlock = some g → g < B ∨ hi ≤ g
  bel : Below base w W

section
variable {base lo hi B n : Nat} {w W W' w1 : World} {l : List Nat} {v v' : Value} {row : Option Nat} {X : Nat → Prop}

theorem Bh.rest (h : Bh base lo hi B w W l v n) (hB : base ≤ B) (hlo : B < lo) (hw : base ≤ w.heap.size) (hg : W.grownBy W' row) (hr : Rf.Away lo hi W row) : Bh base lo hi B w W' l v n :=
  ⟨h.box.kept hg (fun e => by have := (hr _ e.symm).1; omega), own_away h.own (fun g e => (h.loc g e).imp (fun q => by omega) id) hg hr, h.loc, h.bel.grown hg (Nat.le_trans hw h.bel.size) (fun r e => by have := (hr r e).1; omega)⟩

theorem Bh.step (h : Bh base lo hi B w W l v n) (hB : base ≤ B) (hlo : B < lo) (hhi : lo ≤ hi) (hsz : hi ≤ W.heap.size) (hw : base ≤ w.heap.size) (hXl : ∀ b, X b → B < b ∧ b < lo) (x : Nat) {o : Obj}
    (ho : w1.ownsRow base 3 1 v' (n + 1) (l.map nun ++ [nun x])) (hg : (W.alloc o).grownBy w1 v.ownBlock) (hat : v'.ownBlock = v.ownBlock ∨ v'.ownBlock = some (W.alloc o).heap.size) :
    Boxed w1 B 22 v ∧ Bh base lo hi B w (w1.setCell ⟨B, 0, none⟩ v') (l ++ [x]) v' (n + 1) ∧ Rf.Leaves X lo hi W (w1.setCell ⟨B, 0, none⟩ v') := by
  have hte : 22 ≠ 3 := by decide
  have hv1 : Boxed w1 B 22 v := (h.box.alloc o).kept hg (h.box.not_row hte h.own)
  have hso : (W.alloc o).heap.size = W.heap.size + 1 := by simp
  have hbs := h.bel.size
  have hbo : Below base w (W.alloc o) := h.bel.alloc (Nat.le_trans hw hbs) o
  have hcl : ∀ g, v.ownBlock = some g → ∃ ob : Obj, (W.alloc o).heap[g]? = some ob ∧ ob.isCells = true := fun g eg => by
    rcases (h.own.alloc o).2 with ⟨rfl, _⟩ | ⟨g', cap, cur, rfl, hb, hgb, _⟩
    · simp [Value.ownBlock] at eg
    · obtain rfl : g' = g := by simpa [Value.ownBlock] using eg
      exact ⟨_, hgb, rfl⟩
  have hb1 : Below base w w1 := hbo.grown hg (Nat.le_trans hw hbo.size) (fun r e => (h.own.lt r e).1)
  refine ⟨hv1, ⟨hv1.set v', ?_, fun g e => ?_, hb1.setCell (p := ⟨B, 0, none⟩) hB v'⟩, ?_⟩
  · rw [List.map_append]
    exact ho.kept (grownBy_setCell' w1 B v') (.inr (hv1.not_row hte ho).symm)
  · rcases hat with e1 | e1
    · exact h.loc g (e1 ▸ e)
    · rw [e1] at e
      have : (W.alloc o).heap.size = g := Option.some.inj e
      right
      omega
  · refine ((Rf.Leaves.alloc X lo hi W o).trans (Rf.Leaves.grown hg fun j ej => ?_)).trans (Rf.Leaves.grown (grownBy_setCell' w1 B v') fun j ej => ?_)
    · rcases h.loc j ej with q | q
      · exact ⟨fun hx => by have := hXl j hx; omega, .inl (by omega)⟩
      · exact ⟨fun hx => by have := hXl j hx; omega, .inr ⟨q, hcl j ej⟩⟩
    · cases ej
      exact ⟨fun hx => by have := hXl B hx; omega, .inl hlo⟩
end

section
variable {Rep : World → Nat → (Nat → Prop) → Arn → Prop}

set_option maxRecDepth 1000000 in
set_option maxHeartbeats 8000000 in
theorem behind_s (C : GaC Rep) (base : Nat) (w : World) (p q : Nat) (F : Nat → Prop) (A : Arn) (gl r : Int) (v : Value) (l : List Nat) (h : RepS Rep w p q F A gl) (hg : An.Good A) (ho : w.ownsRow base 3 1 v l.length (l.map nun)) (hl : Gl l) (hb : base ≤ w.heap.size) :
    Calls Try.prog 56 #[ptr q, v, nu r] w fun e w' => ∃ a n c, e = .returned (.slice a n c) ∧ Hid (n = (wit l (allL A.sl r)).length ∧ w'.ownsRow base 3 1 (.slice a n c) n ((wit l (allL A.sl r)).map nun) ∧ Below base w w') := by
  obtain ⟨i0, ji, hz0, hz1, hz2⟩ := info_parts info_int
  obtain ⟨av, cv, rfl, _⟩ := Nm.own_shape ho
  obtain ⟨nv, hnv⟩ : ∃ nv, l.length = nv := ⟨_, rfl⟩
  rw [hnv] at ho ⊢
  have hB1 : Below w.heap.size w (w.alloc (.cells #[.slice av nv cv] 22)) := (Below.refl _ _).alloc (Nat.le_refl _) _
  have x1 : Boxed (w.alloc (.cells #[.slice av nv cv] 22)) w.heap.size 22 (.slice av nv cv) := Boxed.new w _ _
  have hs1 : (w.alloc (.cells #[.slice av nv cv] 22)).heap.size = w.heap.size + 1 := by simp
  have ho1 := ho.alloc (.cells #[.slice av nv cv] 22)
  obtain ⟨W1, hW1⟩ : ∃ W1, w.alloc (.cells #[.slice av nv cv] 22) = W1 := ⟨_, rfl⟩
  rw [hW1] at hB1 x1 hs1 ho1
  have HW1 := Hid.mk' hW1
  have hlc : ∀ g, (Value.slice av nv cv).ownBlock = some g → g < w.heap.size := fun g e => (ho.lt g e).2
  have h' := h.below C.keep hB1
  have q0 := h'.cells.1
  obtain ⟨L, hL⟩ : ∃ L, allL A.sl r = L := ⟨_, rfl⟩
  have hL32 : ∀ x ∈ L, x < 32 := by rw [← hL]; exact allL_lt A.sl r
  rw [hL]
  have cA : Hid (Calls Try.prog 58 #[ptr p, nu r] W1 fun e w' => ∃ gf lb, e = .returned (.func (.func gf) #[] lb) ∧ Hid (Below W1.heap.size W1 w' ∧ ∃ X, IterA w' (.func (.func gf) #[] lb) X L ∧ ∀ b, X b → W1.heap.size ≤ b)) := by
    obtain ⟨Fa, h1, h2, h3, rfl⟩ := h'
    have := C.all W1 p Fa A r h1 hg
    rw [hL] at this
    refine this.mono ?_
    rintro e w' ⟨fv, X, rfl, hit, hX, hb'⟩
    obtain ⟨gf, lb, k, rfl, rest⟩ := hit
    exact ⟨gf, lb, rfl, hb', X, ⟨gf, lb, k, rfl, rest⟩, hX⟩
  have HB1 := Hid.mk' hB1
  have HX1 := Hid.mk' x1
  have HO1 := Hid.mk' ho1
  have HGL := Hid.mk' hl
  have HL32 := Hid.mk' hL32
  have HLC := Hid.mk' hlc
  have HNV := Hid.mk' hnv
  clear h h' hg hW1 hL hB1 x1 C ho ho1 hl hL32 hlc hnv
  refine (callsIn_wide (n := 8)).1 ?_
  refine callsIn_of_wp_marks Try.func56 rfl trivial ?_ rfl
  refine wpIn_wide.2 ?_
  simp only [Try.ntmps56, List.size_toArray, List.length_cons, List.length_nil, Nat.reduceAdd, Nat.reduceSub, Array.replicate_succ, Array.replicate_zero, List.push_toArray, List.append_toArray, List.nil_append, List.cons_append]
  go_upto_region 1 with fail
  rw [HW1.out]
  go_wp2_with fail
  refine cA.out.mono ?_
  rintro e w5 ⟨gf, lb, rfl, hQ5⟩
  obtain ⟨hb5, X, hit, hXn⟩ := hQ5.out
  obtain ⟨gf', lb', kk, e9, hent, hXl, hsq⟩ := hit
  simp only [Value.func.injEq, Fn.func.injEq, true_and] at e9
  obtain ⟨rfl, rfl⟩ := e9
  have HSQ := Hid.mk' (hsq w5 (Nat.le_refl _) (fun _ _ => rfl))
  have hs5 := hb5.size
  have hXb : ∀ b, X b → w.heap.size < b ∧ b < w5.heap.size := fun b hb => ⟨by have := hXn b hb; omega, hXl b hb⟩
  have y1 : Boxed w5 w.heap.size 22 (.slice av nv cv) := (hb5.block _ (by omega)).trans HX1.out
  have HBw : Hid (Below w.heap.size w w5) := HB1.out.trans (hb5.mono HB1.out.size)
  have HB0 : Hid (Bh base w5.heap.size (w5.heap.size + 2 + kk) w.heap.size w w5 l (.slice av nv cv) nv) := ⟨y1, own_bel HO1.out hb5, fun g e => .inl (HLC.out g e), HBw.out.mono hb⟩
  have HXB := Hid.mk' hXb
  clear hsq hb5 hQ5 cA y1 hXb hXn q0
  go_wp2_with fail
  refine Rf.wp_range (L := L) (w0 := w5) rfl hent HSQ.out (Below.refl _ _) (fun _ => rfl) hXl
    (fun pre W' => ∃ v n, Bh base w5.heap.size (w5.heap.size + 2 + kk) w.heap.size w W' (wit l pre) v n)
    (fun _ _ _ => False) ?rest (fun _ _ _ _ _ hs _ _ => hs)
    ⟨_, _, HB0.out⟩ ?act ?assign ?body ?done (fun _ _ _ _ h _ => h.elim)
  case assign =>
    intro l' x W2 K hK
    gi_wp2
    exact hK
  case rest =>
    rintro pre A' B' row ⟨v, n, h2⟩ hg hr
    exact ⟨v, n, h2.rest hb (by omega) hb hg hr⟩
  case body =>
    rintro l' pre x W2 hpre hsz ⟨v, n, h2⟩
    have hxL : x ∈ L := by
      have := hpre.subset
      exact this (by simp)
    have hgw : Gl (wit l pre) := HGL.out.wit (fun y hy => HL32.out y (hpre.subset (by simp [hy])))
    have hn : n ≤ 32 := by
      have h1 := h2.own.1
      rw [List.length_map, Nat.mul_one] at h1
      rw [← h1]
      exact hgw.len
    have hc2 := h2.box.cell
    have cC := Hid.mk' (contains_r base n v (wit l pre) x W2 h2.own (by omega))
    have hsn := wit_snoc l pre x
    have HH := Hid.mk' h2
    have HSN := Hid.mk' hsn
    clear h2 hsn hpre hxL hgw
    by_cases hx : x ∈ wit l pre
    · rw [decide_eq_true hx] at cC
      have HX := Hid.mk' hx
      clear hx
      gi_wp2_with fail
      refine ⟨trivial, CallsIn.inRound l' (callsIn_wide.2 cC.out) |>.mono ?_⟩
      rintro e w9 ⟨rfl, hw9⟩
      subst w9
      gi_wp2
      refine ⟨Rf.Leaves.refl _ _ _ _, v, n, ?_⟩
      rw [HSN.out, if_pos HX.out]
      exact HH.out
    · rw [decide_eq_false hx] at cC
      have HX := Hid.mk' hx
      clear hx
      have hho := HH.out.own
      gi_wp2_with fail
      refine ⟨trivial, CallsIn.inRound l' (callsIn_wide.2 cC.out) |>.mono ?_⟩
      rintro e w9 ⟨rfl, hw9⟩
      subst w9
      gi_wp2_with (gi_at_builtin; go_loud (refine wpListIn_append_own_at _ rfl _ _ 22 rfl base 3 i0 (.int .i64 0) 1 8 Try.underlying22 ji hz0 hz1 hz2 rfl (by decide) _ n _ rfl (hho.alloc _) ⟨W2.heap.size, 0, none⟩ 1 1 [nun x] rfl rfl (cell_one_new _ _ _) (by simp [Value.oneCell']) (by unfold maxLen; omega) (by omega) (by simp; omega) ?_; intro v' w1 hown' hgrow _ hat; obtain ⟨g', cap', rfl⟩ := ownsRow_succ hown'; obtain ⟨hv1, hbh, hlv⟩ := HH.out.step (X := X) hb (by omega) (by omega) hsz hb HXB.out x hown' hgrow hat; have hc1 := hv1.cell; have hf1 := hv1.frozen; have HBH := Hid.mk' hbh; have HLV := Hid.mk' hlv; clear hv1 hbh hlv hown' hgrow hat))
      refine ⟨HLV.out, .slice (some ⟨g', 0, none⟩) (n + 1) cap', n + 1, ?_⟩
      rw [HSN.out, if_neg HX.out]
      exact HBH.out
  case done =>
    rintro W7 ⟨v, n, h2⟩ hK7
    obtain ⟨a, c, rfl, _⟩ := Nm.own_shape h2.own
    have hc1 := h2.box.cell
    have hsw : w.heap.size ≤ w5.heap.size := by omega
    have HH := Hid.mk' h2
    have HK7 := Hid.mk' hK7
    clear h2 hK7
    go_wp2
    refine ⟨by simp, .inl ⟨_, _, rfl, run_takeDeferred HK7.out, ?_⟩⟩
    refine ⟨_, results_tmp rfl _ _ _, a, n, c, rfl, ?_, ?_, ?_⟩
    · have h1 := HH.out.own.1
      rw [List.length_map, Nat.mul_one] at h1
      exact h1.symm
    · exact ownsRow_putObj HH.out.own (.deferred none) HK7.out rfl
    · exact HH.out.bel.grown (grownBy_putObj' _ _ _) (Nat.le_trans hb HH.out.bel.size) (fun r e => by cases e; omega)

set_option maxRecDepth 100000 in
set_option maxHeartbeats 4000000 in
theorem found_s (C : GaC Rep) (w : World) (p q : Nat) (F : Nat → Prop) (A : Arn) (l : Int) (h : RepS Rep w p q F A l) (hg : An.Good A) :
    Calls Try.prog 40 #[ptr q] w fun e w' => ∃ a n c, e = .returned (.slice a n c) ∧ Hid (n = (allG A.sl l).length ∧ w'.ownsRow w.heap.size 3 1 (.slice a n c) n ((allG A.sl l).map nun) ∧ Below w.heap.size w w') := by
  have q1 := h.cells.2.1
  obtain ⟨full, hfull⟩ : ∃ full, allG A.sl l = full := ⟨_, rfl⟩
  rw [hfull]
  have HF := Hid.mk' hfull
  have cB : Hid (∀ (wx : World) (v : Value) (r : Int) (L : List Nat), Below w.heap.size w wx → wx.ownsRow w.heap.size 3 1 v L.length (L.map nun) → Gl L → Calls Try.prog 56 #[ptr q, v, nu r] wx fun e w' => ∃ a n c, e = .returned (.slice a n c) ∧ Hid (n = (wit L (allL A.sl r)).length ∧ w'.ownsRow w.heap.size 3 1 (.slice a n c) n ((wit L (allL A.sl r)).map nun) ∧ Below w.heap.size w w')) := fun wx v r L hb ho hL => by
    refine (behind_s C w.heap.size wx p q F A l r v L (h.below C.keep hb) hg ho hL hb.size).mono ?_
    rintro e w' ⟨a, n, c, rfl, hQ⟩
    exact ⟨a, n, c, rfl, hQ.out.1, hQ.out.2.1, hb.trans hQ.out.2.2⟩
  have cS : Hid (∀ (wx : World) (x : Nat), x < 32 → Below w.heap.size w wx → Calls Try.prog 29 #[ptr q, nun x] wx fun e w' => e = .returned (.tuple #[(slG A.sl x).v, .bool true]) ∧ Below wx.heap.size wx w') := fun wx x hx hb => by
    have ht : there (x : Int) := by constructor <;> omega
    have := slot_s C wx p q F A l x (h.below C.keep hb) hg
    rwa [decide_eq_true ht, show A.at (x : Int) = slG A.sl x from if_pos ht] at this
  have HSL : Hid (∀ r, ∀ x ∈ allL A.sl r, x < 32) := fun r => allL_lt A.sl r
  have c1 := Hid.mk' (cB.out w (.slice none 0 0) l [] (Below.refl _ _) (World.ownsRow_nil _ _ _ _) Gl.nil)
  clear h hg C hfull
  go_enter Try.func40, Try.ntmps40
  go_wp2_with fail
  refine c1.out.mono ?_
  rintro e w1 ⟨a1, n1, c1v, rfl, hQ1⟩
  have HA0 : Hid (Ag A.sl w w1 full 0 (.slice a1 n1 c1v) n1 (wit [] (allL A.sl l))) := ⟨hQ1.out.2.1, hQ1.out.1.symm, Gl.nil.wit (HSL.out l), hQ1.out.2.2, HF.out⟩
  clear hQ1 c1 q1
  go_wp2
  go_loopw [3, 4] (fun lv kv wr => ∃ (k : Nat) (a : Option Addr) (n c : Nat), k ≤ n ∧ kv = nun k ∧ lv = .slice a n c ∧ Hid (∃ l, Ag A.sl w wr full k (.slice a n c) n l)) (fun _ kv _ => 33 - (intOf kv).toNat)
  case atStart => exact ⟨0, a1, n1, c1v, Nat.zero_le _, rfl, rfl, _, HA0.out⟩
  case round =>
    clear HA0
    obtain ⟨k, a, n, c, hk, rfl, rfl, HA⟩ := hrel
    obtain ⟨l', hA⟩ := HA.out
    clear HA
    have hn : n ≤ 32 := by rw [← hA.len]; exact hA.gl.len
    obtain ⟨f, hf⟩ : ∃ f, 33 - k = f + 1 := ⟨32 - k, by omega⟩
    have heq := hA.eq
    rw [hf] at heq
    unfold goG at heq
    rw [hA.len] at heq
    by_cases hlt : k < n
    · rw [if_pos hlt] at heq
      have hf2 : 33 - (k + 1) = f := by omega
      rw [← hf2] at heq
      have hkI : (k : Int) < (n : Int) := by omega
      have hk0 : (0 : Int) ≤ (k : Int) := by omega
      obtain ⟨x, hx⟩ : ∃ x, l'[k]? = some x := ⟨_, List.getElem?_eq_getElem (by rw [hA.len]; exact hlt)⟩
      have hxd : l'.getD k 0 = x := by rw [List.getD_eq_getElem?_getD, hx]; rfl
      rw [hxd] at heq
      have hx32 : x < 32 := hA.gl.lt x (List.mem_of_getElem? hx)
      obtain ⟨a', c', e1, hc3, hc4, hc5⟩ := Nm.own_shape hA.own
      obtain ⟨rfl, rfl⟩ : a = a' ∧ c = c' := by simpa using e1
      obtain ⟨lb, rfl⟩ := hc5 (by omega)
      unfold maxLen at hc4
      have hcI : (c : Int) ≤ 9223372036854775807 := by omega
      have hml : (l'.map nun)[k]? = some (nun x) := by rw [List.getElem?_map, hx]; rfl
      have hcx : wr.cell? ⟨lb, k, none⟩ = some (nun x) := by
        have := hA.own.cells (g := lb) rfl k (nun x) hml
        rwa [add_at] at this
      obtain ⟨y, hy⟩ : ∃ y, slG A.sl (x : Int) = y := ⟨_, rfl⟩
      rw [hy] at heq
      have c5 := Hid.mk' (cS.out wr x hx32 hA.bel)
      rw [hy] at c5
      have HAg := Hid.mk' hA
      have HEQ := Hid.mk' heq
      clear hA heq hx hxd hml hy e1 hc5 hf hf2 cS
      go_wp2_with fail
      refine c5.out.mono ?_
      rintro e w5 ⟨rfl, hb5⟩
      have HB5 := Hid.mk' hb5
      have HZ := Hid.mk' (lone_zero w5)
      have HBZ : Hid (Below wr.heap.size wr (w5.alloc (.cells sltZ 49))) := HB5.out.alloc HB5.out.size _
      clear hb5 c5 hcx
      go_upto_region 6 with (first | (refine wpList_store_lone rfl _ _ rfl w5.heap.size rfl y rfl slt0 HZ.out ?_; intro w6 hl6 hg6 hs6; have HB6 : Hid (Below wr.heap.size wr w6) := (HBZ.out.grown hg6 HBZ.out.size (fun r e => by cases e; exact HB5.out.size)); have hk6 := hl6.cells.2.2.1; clear hl6 hg6 hs6) | fail)
      have c6 := Hid.mk' (cB.out w6 (.slice (some ⟨lb, 0, none⟩) n c) y.kids l' (HAg.out.bel.trans (HB6.out.mono HAg.out.bel.size)) (by rw [HAg.out.len]; exact own_bel HAg.out.own HB6.out) HAg.out.gl)
      clear HZ HBZ HB5
      go_wp2_with fail
      refine c6.out.mono ?_
      rintro e w7 ⟨a7, n7, c7, rfl, hQ7⟩
      have HA7 : Hid (Ag A.sl w w7 full (k + 1) (.slice a7 n7 c7) n7 (wit l' (allL A.sl y.kids))) := ⟨hQ7.out.2.1, hQ7.out.1.symm, HAg.out.gl.wit (HSL.out y.kids), hQ7.out.2.2, HEQ.out⟩
      have hnk : k + 1 ≤ n7 := by
        obtain ⟨r, hr⟩ := wit_pre (allL A.sl y.kids) l'
        rw [hQ7.out.1, hr, List.length_append, HAg.out.len]
        omega
      clear c6 hQ7 HB6 HAg HEQ hk6
      go_wp2
      go_roundw
      case rel => exact ⟨k + 1, a7, n7, c7, hnk, by go_num, rfl, _, HA7.out⟩
      case measure => simp [intOf]; omega
    · rw [if_neg hlt] at heq
      have hkI : ¬ (k : Int) < (n : Int) := by omega
      have HO := Hid.mk' hA.own
      have HB := Hid.mk' hA.bel
      have HE : Hid (full = l' ∧ l'.length = n) := ⟨heq.symm, hA.len⟩
      clear hA heq
      go_wp2
      go_ret
      refine ⟨a, n, c, rfl, ?_, ?_, HB.out⟩
      · rw [HE.out.1, HE.out.2]
      · rw [HE.out.1]
        exact HO.out

set_option maxRecDepth 100000 in
set_option maxHeartbeats 1000000 in
theorem all_s (C : GaC Rep) (w : World) (p q : Nat) (F : Nat → Prop) (A : Arn) (l : Int) (h : RepS Rep w p q F A l) (hg : An.Good A) :
    Calls Try.prog 16 #[ptr q] w fun e w' => ∃ fv X, e = .returned fv ∧ IterA w' fv X (allG A.sl l) ∧ (∀ b, X b → w.heap.size ≤ b) ∧ Below w.heap.size w w' := by
  have hfew : (allG A.sl l).length ≤ 32 := (allG_gl A.sl l).len
  have c1 := Hid.mk' (found_s C w p q F A l h hg)
  generalize allG A.sl l = L at *
  clear h hg C
  go_enter Try.func16, Try.ntmps16
  go_wp2_with fail
  refine c1.out.mono ?_
  rintro e w1 ⟨a1, n1, c1', rfl, hQ1⟩
  have c2 := Hid.mk' (last_step w w1 n1 w.heap.size (.slice a1 n1 c1') L hQ1.out.2.2 hQ1.out.2.1 hQ1.out.2.2.size hfew)
  go_wp2_with fail
  refine c2.out.mono ?_
  rintro e w2 ⟨Bl, rfl, hit, hX, hb, _⟩
  have HIT := Hid.mk' hit
  have HX := Hid.mk' hX
  have HB := Hid.mk' hb
  clear hit hX hb c2
  go_wp2
  go_ret
  exact ⟨_, _, rfl, HIT.out, HX.out, HB.out⟩
end
end Sp
end Go.Proofs.Ythabnombfbehkaa
