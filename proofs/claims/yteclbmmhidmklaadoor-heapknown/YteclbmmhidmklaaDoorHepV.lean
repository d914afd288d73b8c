import Derived.Test.YteclbmmhidmklaaDoorHepT
import Derived.Deep.CutBlock
/- The document's heap: Set. -/
namespace Go.Proofs.YteclbmmhidmklaaDoor
set_option linter.ambiguousOpen false
open Go.RowKit
namespace Hh
open Ft
set_option linter.unusedSimpArgs false
set_option linter.unusedVariables false
attribute [local go_sem] Oper.semAt_some

/-- Where a row of items lies that begins k further on. -/
def furtherI (a : Option Addr) (cap k : Nat) : Option Addr :=
  match a with
  | none => none
  | some ad => if cap = k then some ad else some (if k * 2 = 0 then ad else { block := ad.block, off := ad.off + k * 2 })

theorem slice_fromH (a : Option Addr) (len cap k : Nat) (h : k ≤ len) (hc : len ≤ cap) (w : World) : (Instr.slice 41 (.slice a len cap) (some (.int .i64 (k : Int))) none none).run Tryd.prog w = .ok (.slice (furtherI a cap k) (len - k) (cap - k)) w := by
  have h1 : (0 : Int) ≤ (k : Int) ∧ (k : Int) ≤ (cap : Int) := by omega
  have hu := Tryd.underlying41
  obtain ⟨i0, ji, hz0, hz1, hz2⟩ := info_parts infoIt
  cases a with
  | none =>
    simp [Instr.slice, Instr.sliceBounds, Instr.sliceBound, asIntOf, run_underlying hu, furtherI, sizeOf, typeInfo, ji, hz1]
    intro hh; omega
  | some ad =>
    simp [Instr.slice, Instr.sliceBounds, Instr.sliceBound, asIntOf, run_underlying hu, Addr.add, furtherI, sizeOf, typeInfo, ji, hz1]
    intro hh; omega

theorem RdI.drop {w : World} {a : Option Addr} {l : List It} {cap : Nat} (h : RdI w (.slice a l.length cap) l) (m : Nat) (hm : m ≤ l.length) : RdI w (.slice (furtherI a cap m) (l.length - m) (cap - m)) (l.drop m) := by
  obtain ⟨a', cap', e, h1, h2, h3⟩ := h
  cases e
  have hl : (l.drop m).length = l.length - m := by rw [List.length_drop]
  refine ⟨furtherI a cap m, cap - m, by rw [hl], by omega, by unfold maxLen at *; omega, fun h0 => ?_⟩
  rw [hl] at h0
  obtain ⟨g, o, rfl, e3⟩ := h3 (by omega)
  refine ⟨g, o + m * 2, ?_, fun j hj c v hv => ?_⟩
  · unfold furtherI
    dsimp only
    rw [if_neg (by omega)]
    by_cases h4 : m = 0
    · subst h4
      simp
    · rw [if_neg (by omega)]
  · rw [hl] at hj
    have := e3 (m + j) (by omega) c v (by rw [← hv, List.getElem_drop])
    rwa [show o + (m + j) * 2 + c = o + m * 2 + j * 2 + c by omega] at this

theorem ins_at {D : List It} {x : It} {k : Nat} (h1 : ∀ y ∈ D.take k, ahd y x = true) (h2 : D.length ≤ k ∨ ∃ y, D[k]? = some y ∧ ahd y x = false) : D.take k ++ x :: D.drop k = insH D x := by
  have e := List.take_append_drop k D
  have hw : D.takeWhile (fun y => ahd y x) = D.take k ∧ D.dropWhile (fun y => ahd y x) = D.drop k := by
    have ht : ∀ (A B : List It), (∀ y ∈ A, ahd y x = true) → (B = [] ∨ ∃ y B', B = y :: B' ∧ ahd y x = false) → (A ++ B).takeWhile (fun y => ahd y x) = A ∧ (A ++ B).dropWhile (fun y => ahd y x) = B := by
      intro A
      induction A with
      | nil =>
        intro B _ hB
        rcases hB with rfl | ⟨y, B', rfl, hy⟩
        · exact ⟨rfl, rfl⟩
        · simp [hy]
      | cons z A ih =>
        intro B hA hB
        have hz := hA z (by simp)
        obtain ⟨i1, i2⟩ := ih B (fun y hy => hA y (by simp [hy])) hB
        simp [hz, i1, i2]
    have := ht (D.take k) (D.drop k) h1 (by
      rcases h2 with h2 | ⟨y, hy, hf⟩
      · left
        exact List.drop_eq_nil_of_le h2
      · right
        obtain ⟨hk, hye⟩ := List.getElem?_eq_some_iff.1 hy
        exact ⟨y, D.drop (k + 1), by rw [List.drop_eq_getElem_cons hk, hye], hf⟩)
    rwa [e] at this
  unfold insH
  rw [hw.1, hw.2]

theorem own_shape {w : World} {base n size : Nat} {e : TypeId} {v : Value} {xs : List Value} (h : w.ownsRow base e size v n xs) : ∃ a c, v = .slice a n c := by
  have h2 := h.2
  rcases h2 with ⟨rfl, h0⟩ | ⟨g, cap, cur, rfl, _⟩
  · exact ⟨none, 0, by rw [h0]⟩
  · exact ⟨_, cap, rfl⟩

/-- What Set leaves, when it has laid its new row down. -/
theorem set_end {base t n9 : Nat} {w w3 w4 w9 : World} {N : Int} {lv3 lv9 : Value} {D Q : List It} (hb : base ≤ w.heap.size) (htl : t < w.heap.size) (hK3 : Keep (fun k => k = t) w w3) (hB4 : Below w3.heap.size w3 w4) (hB9 : Below w4.heap.size w4 w9) (hR9 : RHp base w9 t N lv3 D) (ho : w9.ownsRow w4.heap.size 67 2 lv9 n9 (Q.flatMap It.cells)) (hn : n9 = Q.length) :
    RHp base (w9.setCell ⟨t, 1, none⟩ lv9) t N lv9 Q ∧ Keep (fun k => k = t) w (w9.setCell ⟨t, 1, none⟩ lv9) ∧ ∀ g, lv9.ownBlock = some g → w.heap.size ≤ g := by
  subst hn
  have h3 := hK3.size
  have h4 := hB4.size
  have hlo : ∀ g, lv9.ownBlock = some g → w4.heap.size ≤ g := fun g e => (ho.lt g e).1
  have hne : lv9.ownBlock ≠ some t := fun e => by have := hlo t e; omega
  have hk9 : Keep (fun k => k = t) w w9 := (hK3.trans (Keep.of_below (F := fun _ => False) hB4) (fun _ _ h => h.elim)).trans (Keep.of_below (F := fun _ => False) hB9) (fun _ _ h => h.elim)
  refine ⟨⟨?_, ?_, hR9.lo, hne⟩, hk9.setCell (p := ⟨t, 1, none⟩) (.inl rfl) _, fun g e => by have := hlo g e; omega⟩
  · rw [heap_setCell_same _ t 1 _ _ _ hR9.blk]
    rfl
  · exact own_monoI (((Keep.refl (fun j => j = t) w9).setCell (p := ⟨t, 1, none⟩) (.inl rfl) _).own ho (fun k hk e => hne (e ▸ hk))) (by omega)

set_option maxRecDepth 100000 in
set_option maxHeartbeats 8000000 in
theorem setH_yes (base : Nat) (w : World) (t : Nat) (N : Int) (lv : Value) (L : List It) (i key : Int) (h : RHp base w t N lv L) (hl : L.length ≤ 90000) (hb : base ≤ w.heap.size) (hi : 0 ≤ i ∧ i < N) :
    Calls Tryd.prog 16 #[ptr t, nu i, nu key] w fun e w' => e = .returned (nu 0) ∧ ∃ lv', RHp base w' t N lv' (setH L i key) ∧ Keep (fun k => k = t) w w' ∧ (∀ g, lv'.ownBlock = some g → w.heap.size ≤ g) := by
  obtain ⟨i0, ji, hz0, hz1, hz2⟩ := info_parts infoIt
  have q0 := h.cells.1
  have htl := h.tlt
  have c1 := Hid.mk' (dropH_ref base w t N lv L i h (by omega) hb)
  have hdl := drop_len L i
  obtain ⟨D, hD⟩ : ∃ D, dropH L i = D := ⟨_, rfl⟩
  rw [hD] at c1 hdl
  rw [show setH L i key = insH D ⟨i, key⟩ by unfold setH; rw [hD]]
  have hi0 : ¬ i < 0 := by omega
  have hiN : ¬ i ≥ N := by omega
  have hiN' : ¬ N ≤ i := by omega
  obtain ⟨Q, hQ⟩ : ∃ Q, insH D ⟨i, key⟩ = Q := ⟨_, rfl⟩
  rw [hQ]
  have HQ := Hid.mk' hQ
  have HTL := Hid.mk' h.lo
  clear h hD hQ
  go_enter Tryd.func16, Tryd.ntmps16
  go_wp2_with fail
  refine c1.out.mono ?_
  rintro e w3 ⟨rfl, lv3, hr3, hk3, hn3⟩
  obtain ⟨a3, cc3, rfl, h31, h32⟩ := hr3.shape
  obtain ⟨n3, hn3'⟩ : ∃ n3, D.length = n3 := ⟨_, rfl⟩
  rw [hn3'] at hr3 h31 hn3 hdl
  unfold maxLen at h32
  have hcI : (cc3 : Int) ≤ 9223372036854775807 := by omega
  have HN := Hid.mk' hn3'
  have HK3 := Hid.mk' hk3
  have HG3 := Hid.mk' hn3
  have hs3 := hk3.size
  have HR3 := Hid.mk' hr3
  clear hr3 hk3 hn3 hn3' c1 q0
  go_upto_region 5 with fail
  obtain ⟨xb, hxb⟩ : ∃ xb, w3.heap.size = xb := ⟨_, rfl⟩
  have hB4 : Below w3.heap.size w3 (w3.alloc (.cells #[nu i, nu key] 67)) := (Below.refl _ _).alloc (Nat.le_refl _) _
  have hX4 := heap_alloc_new w3 (.cells #[nu i, nu key] 67)
  have hs4 : (w3.alloc (.cells #[nu i, nu key] 67)).heap.size = w3.heap.size + 1 := by simp
  obtain ⟨w4, hw4⟩ : ∃ w4, w3.alloc (.cells #[nu i, nu key] 67) = w4 := ⟨_, rfl⟩
  rw [hw4] at hB4 hX4 hs4 ⊢
  rw [hxb] at hX4 hs4 ⊢
  have HR4 : Hid (∀ wx, Below w4.heap.size w4 wx → RHp base wx t N (.slice a3 n3 cc3) D ∧ wx.heap[xb]? = some (.cells #[nu i, nu key] 67)) := fun wx hb => ⟨(HR3.out.below hB4).below hb, (hb.block xb (by omega)).trans hX4⟩
  have HB4 := Hid.mk' hB4
  clear hB4 hX4 hw4
  go_upto_block 0 with fail
  go_cut [8, 9] from 26 to 55 (fun lv kv wr => ∃ (k : Nat) (a' : Option Addr) (c' : Nat), k ≤ n3 ∧ kv = nun k ∧ lv = .slice a' k c' ∧ Hid (wr.ownsRow w4.heap.size 67 2 (.slice a' k c') k ((D.take k).flatMap It.cells) ∧ (∀ y ∈ D.take k, ahd y ⟨i, key⟩ = true) ∧ Below w4.heap.size w4 wr ∧ (D.length ≤ k ∨ ∃ y, D[k]? = some y ∧ ahd y ⟨i, key⟩ = false)))
  case first =>
    go_wp2_with fail
    go_loopw [8, 9] (fun lv kv wr => ∃ (k : Nat) (a' : Option Addr) (c' : Nat), k ≤ n3 ∧ kv = nun k ∧ lv = .slice a' k c' ∧ Hid (wr.ownsRow w4.heap.size 67 2 (.slice a' k c') k ((D.take k).flatMap It.cells) ∧ (∀ y ∈ D.take k, ahd y ⟨i, key⟩ = true) ∧ Below w4.heap.size w4 wr)) (fun _ kv _ => n3 - (intOf kv).toNat)
    case atStart => exact ⟨0, none, 0, Nat.zero_le _, rfl, rfl, World.ownsRow_nil _ _ _ _, by simp, Below.refl _ _⟩
    case round =>
      obtain ⟨k, a', c', hk, rfl, rfl, HL⟩ := hrel
      obtain ⟨hrow, hall, hbel⟩ := HL.out
      have hq1 := (HR4.out wr hbel).1.cells.2.1
      have hbs := hbel.size
      by_cases hlt : k < n3
      · have hkI : (k : Int) < (n3 : Int) := by omega
        have hk0 : (0 : Int) ≤ (k : Int) := by omega
        obtain ⟨y, hy⟩ : ∃ y, D[k]? = some y := ⟨_, List.getElem?_eq_getElem (by rw [HN.out]; exact hlt)⟩
        have hcell : ∃ g, a3 = some ⟨g, 0, none⟩ ∧ ∀ wx, Below w4.heap.size w4 wx → wx.cell? ⟨t, 1, none⟩ = some (.slice a3 n3 cc3) ∧ wx.cell? ⟨g, k * 2, none⟩ = some (nu y.i) ∧ wx.cell? ⟨g, k * 2 + 1, none⟩ = some (nu y.k) ∧ wx.cell? ⟨xb, 0, none⟩ = some (nu i) ∧ wx.cell? ⟨xb, 1, none⟩ = some (nu key) := by
          obtain ⟨g, c9, e9, _⟩ := (HR4.out wr hbel).1.at hy
          simp only [Value.slice.injEq] at e9
          refine ⟨g, e9.1, fun wx hb => ?_⟩
          obtain ⟨g2, c2, e2, _, _, hx1, hx2⟩ := (HR4.out wx hb).1.at hy
          simp only [Value.slice.injEq] at e2
          have eg : g = g2 := by
            have := e9.1.symm.trans e2.1
            simpa using this
          subst eg
          have hxx := (HR4.out wx hb).2
          exact ⟨(HR4.out wx hb).1.cells.2.1, hx1, hx2, by simp [World.cell?, hxx], by simp [World.cell?, hxx]⟩
        obtain ⟨g, rfl, hcl⟩ := hcell
        obtain ⟨yi, yk⟩ := y
        dsimp only at hcl
        have HCL := Hid.mk' hcl
        have hS := hcl wr hbel
        have hSD := hcl wr.drew hbel.drew
        obtain ⟨z1, z2, z3, z4, z5⟩ := hS
        obtain ⟨r, hr⟩ : ∃ r, ahd ⟨yi, yk⟩ ⟨i, key⟩ = r := ⟨_, rfl⟩
        have c7 : Hid (Calls Tryd.prog 31 #[.agg #[nu yi, nu yk], .agg #[nu i, nu key]] wr.drew fun e w' => e = .returned (.bool r) ∧ (w'.cell? ⟨t, 1, none⟩ = some (.slice (some ⟨g, 0, none⟩) n3 cc3) ∧ w'.cell? ⟨g, k * 2, none⟩ = some (nu yi) ∧ w'.cell? ⟨g, k * 2 + 1, none⟩ = some (nu yk) ∧ w'.cell? ⟨xb, 0, none⟩ = some (nu i) ∧ w'.cell? ⟨xb, 1, none⟩ = some (nu key)) ∧ Hid (Below wr.heap.size wr w')) := by
          have := ahead_ref yi yk i key wr.drew
          rw [hr] at this
          refine this.mono ?_
          rintro e w' ⟨rfl, hb⟩
          have hb2 : Below wr.heap.size wr w' := (Below.refl _ _).drew.trans hb
          exact ⟨rfl, HCL.out w' (hbel.trans (hb2.mono hbs)), hb2⟩
        have HSD := Hid.mk' hSD
        have HY := Hid.mk' hy
        have HRR := Hid.mk' hr
        clear hcl hSD hy hr hrow hall hbel hq1
        go_wp2_with fail
        go_region_held3 (fun w' => w'.cell? ⟨t, 1, none⟩ = some (.slice (some ⟨g, 0, none⟩) n3 cc3) ∧ w'.cell? ⟨g, k * 2, none⟩ = some (nu yi) ∧ w'.cell? ⟨g, k * 2 + 1, none⟩ = some (nu yk) ∧ w'.cell? ⟨xb, 0, none⟩ = some (nu i) ∧ w'.cell? ⟨xb, 1, none⟩ = some (nu key)) (first | assumption | exact HSD.out | exact hs5 | fail) (first | (go_at_call 31; with_reducible refine c7.out.mono ?_; rintro e w5 ⟨rfl, hs5, HB5⟩) | fail)
        have HBW : Hid (Below w4.heap.size w4 w5) := HL.out.2.2.trans (HB5.out.mono hbs)
        obtain ⟨y1, y2, y3, _, _⟩ := HCL.out w5 HBW.out
        have HO5 := Hid.mk' (own_belowI HL.out.1 HB5.out)
        have HAL := Hid.mk' HL.out.2.1
        clear z1 z2 z3 z4 z5 hs5 c7 HSD HB5 HL HCL hbs
        have htk : D.take (k + 1) = D.take k ++ [⟨yi, yk⟩] := by
          obtain ⟨h1, h2⟩ := List.getElem?_eq_some_iff.1 HY.out
          rw [← h2]
          exact List.take_succ_eq_append_getElem h1
        have HTK := Hid.mk' htk
        have hw5 : w4.heap.size ≤ w5.heap.size := HBW.out.size
        clear htk
        cases r with
        | true =>
          have hmid : w5.rangeAt g (k * 2) [nu yi, nu yk] := fun j v hv => by
            rcases j with _ | _ | j
            · simp at hv
              subst hv
              simpa using y2
            · simp at hv
              subst hv
              exact y3
            · simp at hv
          have HMID := Hid.mk' hmid
          clear hmid
          go_wp2_with (first | (refine wpList_load_mid rfl 67 _ rfl g (k * 2) rfl [nu yi, nu yk] _ HMID.out Tryd.underlying67 rfl size_it ?_) | (at_builtin; refine wpList_append_own (P := Tryd.prog) _ rfl _ _ 41 rfl w4.heap.size 67 i0 (.agg #[.int .i64 0, .int .i64 0]) 2 16 Tryd.underlying41 ji hz0 hz1 hz2 rfl (by decide) _ k _ rfl (HO5.out.alloc _) ⟨w5.heap.size, 0, none⟩ 1 1 [nu yi, nu yk] rfl rfl (cell_two_new _ _ _ _) (by simp [Value.oneCell']) (by unfold maxLen; omega) (by omega) (by simp; omega) ?_; intro v8 w8 ho8 hg8 _; have HB8 : Hid (Below w4.heap.size w4 w8) := (HBW.out.alloc HBW.out.size _).grown hg8 (HBW.out.alloc HBW.out.size _).size (fun r e => (HO5.out.lt r e).1); obtain ⟨g8, c8, rfl⟩ := ownsRow_succ ho8; have HO8 := Hid.mk' ho8; clear ho8 hg8) | fail)
          go_roundw
          case rel =>
            refine ⟨k + 1, some ⟨g8, 0, none⟩, c8, by omega, by go_num, rfl, ?_, ?_, HB8.out⟩
            · rw [HTK.out, List.flatMap_append]
              exact HO8.out
            · intro z hz
              rw [HTK.out] at hz
              rcases List.mem_append.1 hz with hz | hz
              · exact HAL.out z hz
              · simp at hz
                subst hz
                exact HRR.out
          case measure => simp [intOf]; omega
        | false =>
          go_wp2
          go_meet
          case rel => exact ⟨k, a', c', hk, rfl, rfl, HO5.out, HAL.out, HBW.out, .inr ⟨_, HY.out, HRR.out⟩⟩
      · have hkI : ¬ (k : Int) < (n3 : Int) := by omega
        have HX : Hid (D.length ≤ k) := by show _ ≤ _; rw [HN.out]; omega
        have HO := Hid.mk' hrow
        have HAL := Hid.mk' hall
        have HB := Hid.mk' hbel
        clear hrow hall hbel HL hbs
        go_wp2_with fail
        go_quiet (fail)
        go_wp2
        go_meet
        case rel => exact ⟨k, a', c', hk, rfl, rfl, (Keep.of_below (F := fun _ => False) (⟨rfl, rfl, rfl, Nat.le_refl _, fun _ _ => rfl⟩ : Below wr.heap.size wr (wr.drewN _))).own HO.out (fun _ _ h => h), HAL.out, ⟨HB.out.os, HB.out.tape, HB.out.output, HB.out.size, HB.out.block⟩, .inl HX.out⟩
  case rest =>
    obtain ⟨k, a', c', hk, rfl, rfl, HL⟩ := hcut
    obtain ⟨hrow, hall, hbel, hend⟩ := HL.out
    have HINS := Hid.mk' ((ins_at hall hend).trans HQ.out)
    have hR := (HR4.out wc hbel).1
    have hxx := (HR4.out wc hbel).2
    have hmid : wc.rangeAt xb 0 [nu i, nu key] := fun j v hv => by
      rcases j with _ | _ | j
      · simp at hv
        subst hv
        simp [World.cell?, hxx]
      · simp at hv
        subst hv
        simp [World.cell?, hxx]
      · simp at hv
    have HMID := Hid.mk' hmid
    have HO := Hid.mk' hrow
    have HBC := Hid.mk' hbel
    have hsl := fun wx => slice_fromH a3 n3 cc3 k hk h31 wx
    have hbs := hbel.size
    have HDL : Hid (n3 - k = (D.drop k).length) := by show _ = _; rw [List.length_drop, HN.out]
    have HNIL : Hid (∀ m c, Value.slice (furtherI a3 cc3 k) (n3 - k) (cc3 - k) = .slice none m c → c = 0) := by
      intro m c e
      cases a3 with
      | none =>
        have hrw := HR3.out.row.2
        rcases hrw with ⟨e2, _⟩ | ⟨g, cap, cur, e2, _⟩
        · simp at e2
          simp only [Value.slice.injEq] at e
          omega
        · simp at e2
      | some ad =>
        unfold furtherI at e
        simp only [Value.slice.injEq] at e
        obtain ⟨e, _⟩ := e
        split at e <;> simp at e
    have HRD : Hid (∀ wx, Below w4.heap.size w4 wx → RdI wx (.slice (furtherI a3 cc3 k) (D.drop k).length (cc3 - k)) (D.drop k)) := by
      intro wx hb2
      have h9 := own_rdI (HR4.out wx hb2).1.row rfl
      rw [← HN.out] at h9 hk
      have := RdI.drop h9 k hk
      rwa [← List.length_drop] at this
    have HRD2 : Hid (∀ wx, Below w4.heap.size w4 wx → RdI wx (.slice (furtherI a3 cc3 k) (n3 - k) (cc3 - k)) (D.drop k)) := by
      intro wx hb2
      rw [HDL.out]
      exact HRD.out wx hb2
    clear hrow hall hbel hend HL hmid hxx hR HRD
    obtain ⟨pa, hpa⟩ : ∃ pa, furtherI a3 cc3 k = pa := ⟨_, rfl⟩
    rw [hpa] at hsl HNIL HRD2
    have hj1 : ((k : Int) + 1) = ((k + 1 : Nat) : Int) := by omega
    go_wp2_with (first | (refine wpList_load_mid rfl 67 _ rfl xb 0 rfl [nu i, nu key] _ HMID.out Tryd.underlying67 rfl size_it ?_) | (at_builtin; refine wpList_append_own (P := Tryd.prog) _ rfl _ _ 41 rfl w4.heap.size 67 i0 (.agg #[.int .i64 0, .int .i64 0]) 2 16 Tryd.underlying41 ji hz0 hz1 hz2 rfl (by decide) (.slice a' k c') k _ rfl (HO.out.alloc _) ⟨wc.heap.size, 0, none⟩ 1 1 [nu i, nu key] rfl rfl (cell_two_new _ _ _ _) (by simp [Value.oneCell']) (by unfold maxLen; omega) (by omega) (by simp; omega) ?_; intro v8 w8 ho8 hg8 _; have HB8 : Hid (Below w4.heap.size w4 w8) := (HBC.out.alloc HBC.out.size _).grown hg8 (HBC.out.alloc HBC.out.size _).size (fun r e => (HO.out.lt r e).1); obtain ⟨g8, c8, rfl⟩ := ownsRow_succ ho8; have HO8 : Hid (w8.ownsRow w4.heap.size 67 2 (.slice (some ⟨g8, 0, none⟩) (k + 1) c8) (k + 1) (List.flatMap It.cells (D.take k ++ [It.mk i key]))) := (by rw [List.flatMap_append]; exact ho8); have hq8 := (HR4.out w8 HB8.out).1.cells.2.1; have hbs8 := HB8.out.size; clear ho8 hg8) | (at_builtin; refine wpList_append_it _ rfl _ _ rfl w4.heap.size (.slice (some ⟨g8, 0, none⟩) (k + 1) c8) (k + 1) (D.take k ++ [It.mk i key]) rfl HO8.out (.slice pa (n3 - k) (cc3 - k)) (D.drop k) rfl (HRD2.out w8 HB8.out) HNIL.out (by rw [← HDL.out]; omega) hbs8 ?_; intro v9 w9 ho9 hg9; have HB9 : Hid (Below w4.heap.size w4 w9) := HB8.out.grown hg9 hbs8 (fun r e => (HO8.out.lt r e).1); have hfz := (HR4.out w9 HB9.out).1.cells.2.2 1; have hq9 := (HR4.out w9 HB9.out).1.cells.2.1; have HE := Hid.mk' (set_end hb htl HK3.out HB4.out HB9.out (HR4.out w9 HB9.out).1 (by have h7 := ho9; rw [List.append_assoc, List.singleton_append, HINS.out] at h7; exact h7) (by have h6 := HN.out; rw [← HINS.out]; simp; omega)); obtain ⟨p9, c9, rfl⟩ := own_shape ho9; clear ho9 hg9) | fail)
    go_ret
    have HE2 := HE.out
    rw [List.length_drop] at HE2
    exact ⟨rfl, _, HE2⟩

set_option maxRecDepth 100000 in
theorem setH_no (base : Nat) (w : World) (t : Nat) (N : Int) (lv : Value) (L : List It) (i key : Int) (h : RHp base w t N lv L) (hi : ¬ (0 ≤ i ∧ i < N)) :
    Calls Tryd.prog 16 #[ptr t, nu i, nu key] w fun e w' => e = .returned (nu 1) ∧ Below w.heap.size w w' := by
  have q0 := h.cells.1
  by_cases h0 : i < 0
  · have h1 : decide (i < 0) = true := decide_eq_true h0
    go_enter Tryd.func16, Tryd.ntmps16
    go_wp2
    go_ret
    exact ⟨rfl, Below.refl _ _⟩
  · have hN : i ≥ N := by omega
    have hN' : N ≤ i := hN
    have h1 : decide (i < 0) = false := decide_eq_false h0
    have h2 : decide (N ≤ i) = true := decide_eq_true hN
    go_enter Tryd.func16, Tryd.ntmps16
    go_wp2
    go_ret
    exact ⟨rfl, Below.refl _ _⟩
end Hh
end Go.Proofs.YteclbmmhidmklaaDoor
