/- The document's expiry: Set, Due. -/
import Derived.Test.YthjdpfmnbmnbhaaDoorExpR
import Derived.Deep.CutBlock
namespace Go.Proofs.YthjdpfmnbmnbhaaDoor
set_option linter.ambiguousOpen false
open Go.RowKit
namespace Ex
open Hh Ft
set_option linter.unusedSimpArgs false
set_option linter.unusedVariables false
attribute [local go_sem] Oper.semAt_some

def insE (M : List En) (x : En) : List En := M.takeWhile (fun y => ehd y x) ++ x :: M.dropWhile (fun y => ehd y x)

theorem insE_cons (z : En) (M : List En) (x : En) : insE (z :: M) x = if ehd z x = true then z :: insE M x else x :: z :: M := by
  unfold insE
  rw [List.takeWhile_cons, List.dropWhile_cons]
  split <;> simp

theorem ins_all {M : List En} {x : En} (h : ∀ y ∈ M, ehd y x = true) : insE M x = M ++ [x] := by
  induction M with
  | nil => rfl
  | cons z M ih =>
    rw [insE_cons, if_pos (h z (by simp)), ih (fun y hy => h y (by simp [hy]))]
    rfl

theorem ins_step1 {M : List En} {x y : En} (h : ∀ z ∈ M, ehd z x = true) (hy : ehd y x = false) : insE (M ++ [y]) x = M ++ [x] ++ [y] := by
  induction M with
  | nil =>
    rw [List.nil_append, insE_cons, if_neg (by rw [hy]; decide)]
    rfl
  | cons z M ih =>
    rw [List.cons_append, insE_cons, if_pos (h z (by simp)), ih (fun y hy => h y (by simp [hy]))]
    rfl

theorem ins_step2 {M : List En} {x y : En} (h : ∃ z ∈ M, ehd z x = false) : insE (M ++ [y]) x = insE M x ++ [y] := by
  induction M with
  | nil =>
    obtain ⟨z, hz, _⟩ := h
    simp at hz
  | cons z M ih =>
    rw [List.cons_append, insE_cons, insE_cons]
    by_cases hz : ehd z x = true
    · rw [if_pos hz, if_pos hz, ih ?_]
      · rfl
      · obtain ⟨u, hu, hu2⟩ := h
        rcases List.mem_cons.1 hu with rfl | hu
        · rw [hz] at hu2
          cases hu2
        · exact ⟨u, hu, hu2⟩
    · rw [if_neg hz, if_neg hz]
      rfl

theorem range_lone {w : World} {b : Nat} {x y z : Value} {t : TypeId} (h : w.heap[b]? = some (.cells #[x, y, z] t)) : w.rangeAt b 0 [x, y, z] := range3 (by rw [cell_of_row w b 0 _ _ _ h]; rfl) (by rw [cell_of_row w b (0 + 1) _ _ _ h]; rfl) (by rw [cell_of_row w b (0 + 2) _ _ _ h]; rfl)

/-- One entry, out of a block of its own, behind a row. -/
theorem wpList_append_en1 (w : World) {ops : Array Oper} {rest : List Oper} {o : Oper} {a : Act} {Q : Exit → Act → World → Prop} (hgd : o.guard = none) (s x : Operand)
    (ho : o.op = .call { callee := .builtin .append, args := #[s, x], argTypes := #[26, 26] })
    (base : Nat) (a' : Option Addr) (n' c' : Nat) (O : List En) (hs : a.eval s = .slice a' n' c') (e : En) (hx : a.eval x = .slice (some ⟨w.heap.size, 0, none⟩) 1 1)
    (hown : w.ownsRow base 69 3 (.slice a' n' c') n' (O.flatMap En.cells)) (hO : O.length = n') (hn : n' ≤ 10000) (hbase : base ≤ w.heap.size)
    (h : ∀ g c w', w'.ownsRow base 69 3 (.slice (some ⟨g, 0, none⟩) (n' + 1) c) (n' + 1) ((O ++ [e]).flatMap En.cells) → Below base w w' → (∀ b, b < w.heap.size → (Value.slice a' n' c').ownBlock ≠ some b → w'.heap[b]? = w.heap[b]?) → wpList Tryd.prog ops Q rest (a.put o.dst (.slice (some ⟨g, 0, none⟩) (n' + 1) c)) w') : wpList Tryd.prog ops Q (o :: rest) a (w.alloc (.cells #[nu e.s, nu e.b, nu e.t] 69)) := by
  obtain ⟨i0, ji, hz0, hz1, hz2⟩ := info_parts infoEn
  refine wpList_append_own (P := Tryd.prog) _ hgd s x 26 ho base 69 i0 (.agg #[.int .i64 0, .int .i64 0, .int .i64 0]) 3 24 Tryd.underlying26 ji hz0 hz1 hz2 rfl (by decide) _ n' _ hs (hown.alloc _) ⟨w.heap.size, 0, none⟩ 1 1 [nu e.s, nu e.b, nu e.t] hx rfl (World.news_of_block (heap_alloc_new _ _)) (one3 _ _ _) (by unfold maxLen; omega) (by omega) (by simp; omega) ?_
  intro v8 w8 ho8 hg8 _
  have hb8 : Below base w w8 := ((Below.refl base w).alloc hbase _).grown hg8 (by simp; omega) (fun r e => (hown.lt r e).1)
  obtain ⟨g8, c8, rfl⟩ := ownsRow_succ ho8
  refine h g8 c8 w8 (by rw [List.flatMap_append]; exact ho8) hb8 (fun b hb hne => ?_)
  rw [hg8.block b (by rw [World.size_alloc]; omega) (fun e => hne e.symm)]
  exact Below.heap_alloc _ _ _ hb

set_option maxRecDepth 100000 in
set_option maxHeartbeats 16000000 in
theorem setE_yes (base : Nat) (w : World) (t : Nat) (lv : Value) (L : List En) (s b t1 : Int) (h : RXp base w t lv L) (hl : L.length ≤ 900) (hbs : base ≤ w.heap.size) (hx : okE ⟨s, b, t1⟩) :
    Calls Tryd.prog 11 #[ptr t, .agg #[nu s, nu b], nu t1] w fun e w' => e = .returned (nu 0) ∧ ∃ lv', RXp base w' t lv' (setE L ⟨s, b, t1⟩) ∧ Keep (fun k => k = t) w w' ∧ (∀ g, lv'.ownBlock = some g → w.heap.size ≤ g) := by
  obtain ⟨bx, hbx⟩ : ∃ bx, w.heap.size = bx := ⟨_, rfl⟩
  obtain ⟨W0, hW0⟩ : ∃ W0, w.alloc (.cells #[nu s, nu b] 31) = W0 := ⟨_, rfl⟩
  have hB0 : Below w.heap.size w W0 := by rw [← hW0]; exact (Below.refl _ _).alloc (Nat.le_refl _) _
  have hX0 : W0.heap[bx]? = some (.cells #[nu s, nu b] 31) := by rw [← hW0, ← hbx]; exact heap_alloc_new _ _
  have hs0 : W0.heap.size = w.heap.size + 1 := by rw [← hW0]; simp
  have htl := h.tlt
  have c1 := Hid.mk' (without_ref base W0 t lv L s (h.below hB0) (by omega) (by omega))
  have hdl := drop_len L s
  have hse : setE L ⟨s, b, t1⟩ = insE (dropE L s) ⟨s, b, t1⟩ := rfl
  have hnd : ∀ y ∈ dropE L s, y.s ≠ s := fun y hy => (mem_dropE.1 hy).2
  obtain ⟨D, hD⟩ : ∃ D, dropE L s = D := ⟨_, rfl⟩
  rw [hse]
  rw [hD] at c1 hdl hnd ⊢
  obtain ⟨Z, hZ⟩ : ∃ Z, insE D ⟨s, b, t1⟩ = Z := ⟨_, rfl⟩
  rw [hZ]
  have HZ := Hid.mk' hZ
  have HTL := Hid.mk' h.lo
  have HND := Hid.mk' hnd
  have HB0 := Hid.mk' hB0
  have HW0 := Hid.mk' hW0
  have HBX := Hid.mk' hbx
  obtain ⟨⟨k1, k2⟩, ⟨k3, k4⟩, k5, k6⟩ := hx
  dsimp only at k1 k2 k3 k4 k5 k6
  have d1 : decide (s < 0) = false := decide_eq_false (by omega)
  have d2 : decide (s ≥ 32) = false := decide_eq_false (by omega)
  have d3 : decide (b < 1) = false := decide_eq_false (by omega)
  have d4 : decide (b > 1048576) = false := decide_eq_false (by omega)
  have d5 : decide (t1 < 0) = false := decide_eq_false (by omega)
  have d6 : decide (t1 > 1099511627776) = false := decide_eq_false (by omega)
  have l0 : W0.cell? ⟨bx, 0, none⟩ = some (nu s) := by rw [cell_of_row W0 bx 0 _ _ _ hX0]; rfl
  have l1 : W0.cell? ⟨bx, 1, none⟩ = some (nu b) := by rw [cell_of_row W0 bx 1 _ _ _ hX0]; rfl
  have HX0 := Hid.mk' hX0
  clear h hD hse hZ hnd hB0 hW0 hbx hX0 k1 k2 k3 k4 k5 k6
  go_enter Tryd.func11, Tryd.ntmps11
  go_upto_region 1 with fail
  rw [HW0.out, HBX.out]
  go_wp2_with fail
  refine c1.out.mono ?_
  rintro e w4 ⟨rfl, lv3, hr3, hk3, hn3⟩
  obtain ⟨a3, cc3, rfl, h31, h32⟩ := hr3.shape
  obtain ⟨n3, hn3'⟩ : ∃ n3, D.length = n3 := ⟨_, rfl⟩
  rw [hn3'] at hr3 h31 hn3 hdl
  unfold maxLen at h32
  have hcI : (cc3 : Int) ≤ 9223372036854775807 := by omega
  have HN := Hid.mk' hn3'
  have HK3 := Hid.mk' hk3
  have HG3 := Hid.mk' hn3
  have hs3 := hk3.size
  have hbt : bx ≠ t := by have := HBX.out; omega
  have hX4 : w4.heap[bx]? = some (.cells #[nu s, nu b] 31) := hk3.at HX0.out hbt
  have HR4 : Hid (∀ wx, Below w4.heap.size w4 wx → RXp base wx t (.slice a3 n3 cc3) D ∧ wx.heap[bx]? = some (.cells #[nu s, nu b] 31)) := fun wx hb => ⟨hr3.below hb, (hb.block bx (by have := HBX.out; omega)).trans hX4⟩
  clear hr3 hk3 hn3 hn3' c1 hX4 l0 l1 HX0
  go_wp2_with fail
  go_loopw [7, 8, 9] (fun lv pv kv wr => ∃ (k : Nat) (a' : Option Addr) (n' c' : Nat) (put : Bool), k ≤ n3 ∧ lv = .slice a' n' c' ∧ pv = .bool put ∧ kv = nun k ∧ n' ≤ k + 1 ∧ k ≤ 900 ∧ Hid (∃ O, wr.ownsRow w4.heap.size 69 3 (.slice a' n' c') n' (O.flatMap En.cells) ∧ O.length = n' ∧ Below w4.heap.size w4 wr ∧ (put = false → O = D.take k ∧ ∀ y ∈ D.take k, ehd y ⟨s, b, t1⟩ = true) ∧ (put = true → O = insE (D.take k) ⟨s, b, t1⟩ ∧ ∃ z ∈ D.take k, ehd z ⟨s, b, t1⟩ = false))) (fun _ _ kv _ => n3 - (intOf kv).toNat)
  case atStart => exact ⟨0, none, 0, 0, false, Nat.zero_le _, rfl, rfl, rfl, by omega, by omega, [], World.ownsRow_nil _ _ _ _, rfl, Below.refl _ _, fun _ => ⟨rfl, by simp⟩, fun e => by cases e⟩
  case round =>
    obtain ⟨k, a', n', c', put, hk, rfl, rfl, rfl, hnk, hk9, HL⟩ := hrel
    obtain ⟨O, hrow, hlen, hbel, hpf, hpt⟩ := HL.out
    have hq1 := (HR4.out wr hbel).1.cells.1
    have hbs := hbel.size
    by_cases hlt : k < n3
    · have hkI : (k : Int) < (n3 : Int) := by omega
      have hk0 : (0 : Int) ≤ (k : Int) := by omega
      obtain ⟨y, hy⟩ : ∃ y, D[k]? = some y := ⟨_, List.getElem?_eq_getElem (by rw [HN.out]; exact hlt)⟩
      obtain ⟨g, c9, e9, _, _, x0, x1, x2⟩ := (HR4.out wr hbel).1.at hy
      have hyne := HND.out y (List.mem_of_getElem? hy)
      simp only [Value.slice.injEq] at e9
      obtain ⟨rfl, e9n, rfl⟩ := e9
      clear e9n
      have HTK : Hid (D.take (k + 1) = D.take k ++ [y]) := by
        obtain ⟨h1, h2⟩ := List.getElem?_eq_some_iff.1 hy
        show _ = _
        rw [← h2]
        exact List.take_succ_eq_append_getElem h1
      obtain ⟨ys, yb, yt⟩ := y
      dsimp only at x0 x1 x2 hyne
      have HMID := Hid.mk' (range3 x0 x1 x2)
      obtain ⟨y0, hy0⟩ : ∃ y0, wr.heap.size = y0 := ⟨_, rfl⟩
      have hB5 : Below wr.heap.size wr (wr.alloc (.cells #[nu ys, nu yb, nu yt] 69)) := (Below.refl _ _).alloc (Nat.le_refl _) _
      obtain ⟨w5, hw5⟩ : ∃ w5, wr.alloc (.cells #[nu ys, nu yb, nu yt] 69) = w5 := ⟨_, rfl⟩
      have hy5 : w5.heap[y0]? = some (.cells #[nu ys, nu yb, nu yt] 69) := by rw [← hw5, ← hy0]; exact heap_alloc_new _ _
      have hs5 : w5.heap.size = wr.heap.size + 1 := by rw [← hw5]; simp
      rw [hw5] at hB5
      have HB5 : Hid (Below w4.heap.size w4 w5) := hbel.trans (hB5.mono hbs)
      have HO5 : Hid (w5.ownsRow w4.heap.size 69 3 (.slice a' n' c') n' (O.flatMap En.cells)) := own_belowI hrow hB5
      have HLY : Hid (y0 < w5.heap.size ∧ (Value.slice a' n' c').ownBlock ≠ some y0) := ⟨by omega, fun e => by have := (hrow.lt y0 e).2; omega⟩
      have HLN := Hid.mk' hlen
      have HT : Hid (put = true → O = insE (D.take k) ⟨s, b, t1⟩ ∧ ∃ z ∈ D.take k, ehd z ⟨s, b, t1⟩ = false) := hpt
      have HRY5 : Hid (w5.rangeAt y0 0 [nu ys, nu yb, nu yt]) := range_lone hy5
      have HY5 := Hid.mk' hy5
      have hX5 := (HR4.out w5 HB5.out).2
      have m0 : w5.cell? ⟨bx, 0, none⟩ = some (nu s) := by rw [cell_of_row w5 bx 0 _ _ _ hX5]; rfl
      have m1 : w5.cell? ⟨bx, 1, none⟩ = some (nu b) := by rw [cell_of_row w5 bx 1 _ _ _ hX5]; rfl
      have p0 : w5.cell? ⟨y0, 0, none⟩ = some (nu ys) := by rw [cell_of_row w5 y0 0 _ _ _ hy5]; rfl
      have p2 : w5.cell? ⟨y0, 2, none⟩ = some (nu yt) := by rw [cell_of_row w5 y0 2 _ _ _ hy5]; rfl
      have hs54 : w4.heap.size ≤ w5.heap.size := by omega
      have HW5 := Hid.mk' hw5
      have HYY := Hid.mk' hy0
      have hcmp : ehd ⟨ys, yb, yt⟩ ⟨s, b, t1⟩ = decide (yt < t1 ∨ (yt = t1 ∧ ys < s)) := rfl
      clear hrow hlen hbel hpt hy hB5 hw5 hy0 hs5 hy5 hX5 HL
      go_upto_region 10 with (first | (refine wpList_load_mid rfl 69 _ rfl g (k * 3) rfl [nu ys, nu yb, nu yt] _ HMID.out Tryd.underlying69 rfl size_en ?_) | fail)
      rw [HW5.out, HYY.out]
      clear hq1 x0 x1 x2 HMID HW5 HYY
      cases put with
      | true =>
        clear hpf hyne
        clear hcmp
        go_upto_region 13 with fail
        go_wp2_with (first | (refine wpList_load_mid rfl 69 _ rfl y0 0 rfl [nu ys, nu yb, nu yt] _ HRY5.out Tryd.underlying69 rfl size_en ?_) | (at_builtin; refine wpList_append_en1 w5 rfl _ _ rfl w4.heap.size _ (n') _ O rfl (En.mk ys yb yt) rfl HO5.out HLN.out (by omega) (by omega) ?_; intro gd cd wd hod hbd hkd; have HOd9 := Hid.mk' hod; have HBd9 := Hid.mk' hbd; clear hod hbd hkd) | fail)
        go_roundw
        case rel =>
          refine ⟨k + 1, _, n' + 1, cd, true, by omega, rfl, rfl, by go_num, by omega, by omega, O ++ [(En.mk ys yb yt)], HOd9.out, by rw [List.length_append, HLN.out]; rfl, HB5.out.trans HBd9.out, fun e => (by cases e), fun _ => ?_⟩
          obtain ⟨h1, z, hz, hz2⟩ := HT.out rfl
          rw [HTK.out, h1]
          exact ⟨(ins_step2 ⟨z, hz, hz2⟩).symm, z, List.mem_append_left _ hz, hz2⟩
        case measure => simp [intOf]; omega
      | false =>
        obtain ⟨rfl, hal⟩ := hpf rfl
        have HAL := Hid.mk' hal
        have hnk2 : n' ≤ k := by
          have := HLN.out
          rw [List.length_take] at this
          omega
        clear hpf hal
        by_cases h1 : yt > t1
        · have HAH : Hid (ehd ⟨ys, yb, yt⟩ ⟨s, b, t1⟩ = false) := by show _ = _; rw [hcmp]; exact decide_eq_false (by omega)
          have d7 : decide (yt > t1) = true := decide_eq_true h1
          clear hcmp h1 hyne
          go_upto_region 12 with (first | (at_builtin; refine wpList_append_en1 w5 rfl _ _ rfl w4.heap.size _ (n') _ (D.take k) rfl (En.mk s b t1) rfl HO5.out HLN.out (by omega) (by omega) ?_; intro gb cb wb hob hbb hkb; have HOb9 := Hid.mk' hob; have HBb9 := Hid.mk' hbb; have hyb := (hkb y0 HLY.out.1 HLY.out.2).trans HY5.out; clear hob hbb hkb) | fail)
          have HRYc : Hid (wb.rangeAt y0 0 [nu ys, nu yb, nu yt]) := range_lone hyb
          have HLNb : Hid ((D.take k ++ [(En.mk s b t1)]).length = n' + 1) := by show _ = _; rw [List.length_append, HLN.out]; rfl
          have HB5b : Hid (Below w4.heap.size w4 wb) := HB5.out.trans HBb9.out
          have hsb := HB5b.out.size
          clear hyb
          go_wp2_with (first | (refine wpList_load_mid rfl 69 _ rfl y0 0 rfl [nu ys, nu yb, nu yt] _ HRYc.out Tryd.underlying69 rfl size_en ?_) | (at_builtin; refine wpList_append_en1 wb rfl _ _ rfl w4.heap.size _ (n' + 1) _ (D.take k ++ [(En.mk s b t1)]) rfl (En.mk ys yb yt) rfl HOb9.out HLNb.out (by omega) (by omega) ?_; intro gc cc wc hoc hbc hkc; have HOc9 := Hid.mk' hoc; have HBc9 := Hid.mk' hbc; clear hoc hbc hkc) | fail)
          go_roundw
          case rel =>
            refine ⟨k + 1, _, n' + 1 + 1, cc, true, by omega, rfl, rfl, by go_num, by omega, by omega, D.take k ++ [(En.mk s b t1)] ++ [(En.mk ys yb yt)], HOc9.out, by rw [List.length_append, HLNb.out]; rfl, HB5b.out.trans HBc9.out, fun e => (by cases e), fun _ => ⟨?_, (En.mk ys yb yt), ?_, HAH.out⟩⟩
            · rw [HTK.out]
              exact (ins_step1 HAL.out HAH.out).symm
            · rw [HTK.out]
              simp
          case measure => simp [intOf]; omega
        · have d7 : decide (yt > t1) = false := decide_eq_false h1
          by_cases h2 : yt = t1
          · have d8 : (yt == t1) = true := by simpa using h2
            by_cases h3 : ys > s
            · have HAH : Hid (ehd ⟨ys, yb, yt⟩ ⟨s, b, t1⟩ = false) := by show _ = _; rw [hcmp]; exact decide_eq_false (by omega)
              have d9 : decide (ys > s) = true := decide_eq_true h3
              clear hcmp h1 h2 h3 hyne
              go_upto_region 12 with (first | (at_builtin; refine wpList_append_en1 w5 rfl _ _ rfl w4.heap.size _ (n') _ (D.take k) rfl (En.mk s b t1) rfl HO5.out HLN.out (by omega) (by omega) ?_; intro gb cb wb hob hbb hkb; have HOb9 := Hid.mk' hob; have HBb9 := Hid.mk' hbb; have hyb := (hkb y0 HLY.out.1 HLY.out.2).trans HY5.out; clear hob hbb hkb) | fail)
              have HRYc : Hid (wb.rangeAt y0 0 [nu ys, nu yb, nu yt]) := range_lone hyb
              have HLNb : Hid ((D.take k ++ [(En.mk s b t1)]).length = n' + 1) := by show _ = _; rw [List.length_append, HLN.out]; rfl
              have HB5b : Hid (Below w4.heap.size w4 wb) := HB5.out.trans HBb9.out
              have hsb := HB5b.out.size
              clear hyb
              go_wp2_with (first | (refine wpList_load_mid rfl 69 _ rfl y0 0 rfl [nu ys, nu yb, nu yt] _ HRYc.out Tryd.underlying69 rfl size_en ?_) | (at_builtin; refine wpList_append_en1 wb rfl _ _ rfl w4.heap.size _ (n' + 1) _ (D.take k ++ [(En.mk s b t1)]) rfl (En.mk ys yb yt) rfl HOb9.out HLNb.out (by omega) (by omega) ?_; intro gc cc wc hoc hbc hkc; have HOc9 := Hid.mk' hoc; have HBc9 := Hid.mk' hbc; clear hoc hbc hkc) | fail)
              go_roundw
              case rel =>
                refine ⟨k + 1, _, n' + 1 + 1, cc, true, by omega, rfl, rfl, by go_num, by omega, by omega, D.take k ++ [(En.mk s b t1)] ++ [(En.mk ys yb yt)], HOc9.out, by rw [List.length_append, HLNb.out]; rfl, HB5b.out.trans HBc9.out, fun e => (by cases e), fun _ => ⟨?_, (En.mk ys yb yt), ?_, HAH.out⟩⟩
                · rw [HTK.out]
                  exact (ins_step1 HAL.out HAH.out).symm
                · rw [HTK.out]
                  simp
              case measure => simp [intOf]; omega
            · have HAH : Hid (ehd ⟨ys, yb, yt⟩ ⟨s, b, t1⟩ = true) := by show _ = _; rw [hcmp]; exact decide_eq_true (by omega)
              have d9 : decide (ys > s) = false := decide_eq_false h3
              clear hcmp h1 h2 h3 hyne
              go_wp2_with (first | (refine wpList_load_mid rfl 69 _ rfl y0 0 rfl [nu ys, nu yb, nu yt] _ HRY5.out Tryd.underlying69 rfl size_en ?_) | (at_builtin; refine wpList_append_en1 w5 rfl _ _ rfl w4.heap.size _ (n') _ (D.take k) rfl (En.mk ys yb yt) rfl HO5.out HLN.out (by omega) (by omega) ?_; intro ga ca wa hoa hba hka; have HOa9 := Hid.mk' hoa; have HBa9 := Hid.mk' hba; clear hoa hba hka) | fail)
              go_roundw
              case rel =>
                refine ⟨k + 1, _, n' + 1, ca, false, by omega, rfl, rfl, by go_num, by omega, by omega, D.take (k + 1), by rw [HTK.out]; exact HOa9.out, by rw [HTK.out, List.length_append, HLN.out]; rfl, HB5.out.trans HBa9.out, fun _ => ⟨rfl, fun z hz => ?_⟩, fun e => by cases e⟩
                rw [HTK.out] at hz
                rcases List.mem_append.1 hz with h1 | h1
                · exact HAL.out z h1
                · obtain rfl := List.mem_singleton.1 h1
                  exact HAH.out
              case measure => simp [intOf]; omega
          · have HAH : Hid (ehd ⟨ys, yb, yt⟩ ⟨s, b, t1⟩ = true) := by show _ = _; rw [hcmp]; exact decide_eq_true (by omega)
            have d8 : (yt == t1) = false := by simpa using h2
            clear hcmp h1 h2 hyne
            go_wp2_with (first | (refine wpList_load_mid rfl 69 _ rfl y0 0 rfl [nu ys, nu yb, nu yt] _ HRY5.out Tryd.underlying69 rfl size_en ?_) | (at_builtin; refine wpList_append_en1 w5 rfl _ _ rfl w4.heap.size _ (n') _ (D.take k) rfl (En.mk ys yb yt) rfl HO5.out HLN.out (by omega) (by omega) ?_; intro ga ca wa hoa hba hka; have HOa9 := Hid.mk' hoa; have HBa9 := Hid.mk' hba; clear hoa hba hka) | fail)
            go_roundw
            case rel =>
              refine ⟨k + 1, _, n' + 1, ca, false, by omega, rfl, rfl, by go_num, by omega, by omega, D.take (k + 1), by rw [HTK.out]; exact HOa9.out, by rw [HTK.out, List.length_append, HLN.out]; rfl, HB5.out.trans HBa9.out, fun _ => ⟨rfl, fun z hz => ?_⟩, fun e => by cases e⟩
              rw [HTK.out] at hz
              rcases List.mem_append.1 hz with h1 | h1
              · exact HAL.out z h1
              · obtain rfl := List.mem_singleton.1 h1
                exact HAH.out
            case measure => simp [intOf]; omega
    · have hkI : ¬ (k : Int) < (n3 : Int) := by omega
      obtain rfl : k = n3 := by omega
      have htk : D.take k = D := List.take_of_length_le (by rw [HN.out]; exact Nat.le_refl _)
      rw [htk] at hpf hpt
      have HFIN : Hid (∀ (wx : World) (av : Option Addr) (nv cv : Nat), Below w4.heap.size w4 wx → wx.ownsRow w4.heap.size 69 3 (.slice av nv cv) nv (Z.flatMap En.cells) → Z.length = nv → wx.frozen? ⟨t, 0, none⟩ = false ∧ (∃ u, wx.cell? ⟨t, 0, none⟩ = some u) ∧ RXp base (wx.setCell ⟨t, 0, none⟩ (.slice av nv cv)) t (.slice av nv cv) Z ∧ Keep (fun j => j = t) w (wx.setCell ⟨t, 0, none⟩ (.slice av nv cv)) ∧ (∀ g, (Value.slice av nv cv).ownBlock = some g → w.heap.size ≤ g)) := fun wx av nv cv hb ho hzl => by
        have hne : Value.ownBlock (.slice av nv cv) ≠ some t := fun e => by have := (ho.lt t e).1; omega
        have hr := (HR4.out wx hb).1
        have hkw : Keep (fun j => j = t) w wx := ((Keep.of_below (F := fun j => j = t) HB0.out).trans HK3.out (fun _ _ h => h)).trans (Keep.of_below (F := fun _ => False) hb) (fun _ _ e => e.elim)
        refine ⟨hr.cells.2 0, ⟨_, hr.cells.1⟩, ⟨?_, ?_, hr.lo, hne⟩, hkw.setCell (p := ⟨t, 0, none⟩) (.inl rfl) _, fun g e => by have := (ho.lt g e).1; omega⟩
        · rw [heap_setCell_same _ t 0 _ _ _ hr.blk]
          rfl
        · rw [hzl]
          have h1 : (wx.setCell ⟨t, 0, none⟩ (.slice av nv cv)).ownsRow w4.heap.size 69 3 (.slice av nv cv) nv (Z.flatMap En.cells) := ((Keep.refl (fun j => j = t) wx).setCell (p := ⟨t, 0, none⟩) (.inl rfl) _).own ho (fun k hk e => hne (e ▸ hk))
          exact own_monoI h1 (by omega)
      have hX9 := (HR4.out wr hbel).2
      have m0 : wr.cell? ⟨bx, 0, none⟩ = some (nu s) := by rw [cell_of_row wr bx 0 _ _ _ hX9]; rfl
      have m1 : wr.cell? ⟨bx, 1, none⟩ = some (nu b) := by rw [cell_of_row wr bx 1 _ _ _ hX9]; rfl
      have HBEL := Hid.mk' hbel
      cases put with
      | true =>
        have hO : O = Z := (hpt rfl).1.trans HZ.out
        subst hO
        obtain ⟨f1, ⟨u, f2⟩, f3, f4, f5⟩ := HFIN.out wr a' n' c' hbel hrow hlen
        have F3 := Hid.mk' f3
        have F4 := Hid.mk' f4
        have F5 := Hid.mk' f5
        clear f3 f4 f5 hpf hpt hrow hlen hbel htk hX9 HFIN HL
        go_wp2
        go_ret
        exact ⟨rfl, _, F3.out, F4.out, F5.out⟩
      | false =>
        obtain ⟨rfl, hal⟩ := hpf rfl
        have hO : O ++ [En.mk s b t1] = Z := (ins_all hal).symm.trans HZ.out
        have HO := Hid.mk' hO
        have HOW := Hid.mk' hrow
        have HLN := Hid.mk' hlen
        clear hpf hpt hrow hlen hbel htk hX9 HL hal hO
        go_upto_region 16 with (first | (at_builtin; refine wpList_append_en1 wr rfl _ _ rfl w4.heap.size _ n' _ O rfl (En.mk s b t1) rfl HOW.out HLN.out (by omega) (by omega) ?_; intro g8 c8 w8 ho8 hb8 hk8; have HO8 := Hid.mk' ho8; have HB8 := Hid.mk' hb8; clear ho8 hb8 hk8) | fail)
        obtain ⟨f1, ⟨u, f2⟩, f3, f4, f5⟩ := HFIN.out w8 _ _ c8 (HBEL.out.trans HB8.out) (by rw [← HO.out]; exact HO8.out) (by rw [← HO.out, List.length_append, HLN.out]; rfl)
        have F3 := Hid.mk' f3
        have F4 := Hid.mk' f4
        have F5 := Hid.mk' f5
        clear f3 f4 f5 HFIN
        go_wp2
        go_ret
        exact ⟨rfl, _, F3.out, F4.out, F5.out⟩
end Ex
end Go.Proofs.YthjdpfmnbmnbhaaDoor
