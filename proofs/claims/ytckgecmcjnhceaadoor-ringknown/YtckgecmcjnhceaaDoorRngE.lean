/- A slot gets links, and something that it holds besides, here and there. -/
import Derived.Test.YtckgecmcjnhceaaDoorRngD
namespace Go.Proofs.YtckgecmcjnhceaaDoor
set_option linter.ambiguousOpen false
open Go.RowKit
namespace Rg
open An Ft Lv
set_option linter.unusedSimpArgs false
set_option linter.unusedVariables false

/-- What the slot holds then. -/
def putS (x : Slt) (i k j : Int) : Slt := ⟨x.used, x.dead, wrap64 (j + k), k, j, ⟨0, (i + 7), 0, 0, 0, ⟨#[117]⟩, ⟨#[]⟩, 0, 0, 0, 0, 0⟩, ⟨by show (ByteArray.mk #[117]).size ≤ _; decide, by show (ByteArray.mk #[]).size ≤ _; decide⟩⟩

/-- The session's cells. -/
def sesL (i : Int) : List Value := [nu 0, nu ((i + 7)), nu 0, nu 0, nu 0, .string ⟨#[117]⟩, .string ⟨#[]⟩, .int .u64 0, nu 0, nu 0, nu 0, nu 0]

theorem lone_cell {w : World} {b : Nat} {x y : Slt} (h : Lone w b x) (o : Nat) (v : Value) (hx : x.cells.set o v = y.cells) : Lone (w.setCell ⟨b, o, none⟩ v) b y := by
  have := heap_setCell_same w b o _ _ v h
  rw [List.setIfInBounds_toArray, hx] at this
  exact this

theorem lone_mid {w : World} {b : Nat} {x y : Slt} (h : Lone w b x) (o : Nat) (vs : List Value) (ho : o + vs.length ≤ 17) (hx : x.cells.take o ++ vs ++ x.cells.drop (o + vs.length) = y.cells) : Lone (w.setCells b o vs) b y := by
  obtain ⟨C', h1, h2⟩ := heap_setCells b _ vs o w _ h (by simpa [Slt.len] using ho)
  rw [hx] at h2
  unfold Lone
  rw [h1, ← h2]

theorem lone_frozen {w : World} {b : Nat} {x : Slt} (h : Lone w b x) (i : Nat) : w.frozen? ⟨b, i, none⟩ = false := by
  unfold Lone at h
  simp only [World.frozen?, h]
  rfl

theorem lone_there {w : World} {b : Nat} {x : Slt} (h : Lone w b x) (o n : Nat) (hn : o + n ≤ 17) : w.there b o n := fun j hj => by
  refine ⟨?_, lone_frozen h _⟩
  rw [cell_of_row w b _ _ _ _ h, List.getElem?_toArray, List.getElem?_eq_getElem (by rw [Slt.len]; omega)]
  rfl

theorem ses_one (i : Int) : (sesL i).toArray.all (·.oneCell') = true := all_oneCell_toArray (fun u hu => by
  unfold sesL at hu
  simp only [List.mem_cons, List.not_mem_nil, or_false] at hu
  rcases hu with rfl | rfl | rfl | rfl | rfl | rfl | rfl | rfl | rfl | rfl | rfl | rfl <;> rfl)

theorem size_ses : (Tryd.prog.info? 50).map (·.size) = some 12 := by kernel_rfl

set_option maxRecDepth 100000 in
set_option maxHeartbeats 4000000 in
theorem put_yes {Rep : World → Nat → (Nat → Prop) → Arn → Prop} (H : KeepC Rep) (CG : GetC Rep) (CP : PutC Rep) (base : Nat) (w0 w : World) (p g : Nat) (F G : Nat → Prop) (A1 A2 : Arn) (k i kk j : Int) (hP : Pr Rep (RepA base) w0 w p g F G A1 A2) (hsl : A1.sl = A2.sl) (hfr : A1.fr = A2.fr) (hwr : A1.wr ≤ 999999990) (hi : I64 i) :
    Calls Tryd.prog 12 #[ptr p, ptr g, .agg #[nu k, nu i, nu kk, nu j]] w fun e w' => e = .returned (.bool true) ∧ ∃ A1' A2', A1'.wr ≤ A1.wr + 4 ∧ Tw Rep base w0 w w' p g F G A1' A2' := by
  have HR := keepA base
  have hgd := hP.good1
  have hgd2 := hP.good2
  obtain ⟨W0, hW0⟩ : ∃ W0, w.alloc (.cells #[nu k, nu i, nu kk, nu j] 28) = W0 := ⟨_, rfl⟩
  have hA0 : W0.heap[w.heap.size]? = some (.cells #[nu k, nu i, nu kk, nu j] 28) := by rw [← hW0]; exact heap_alloc_new _ _
  have hs0 : W0.heap.size = w.heap.size + 1 := by rw [← hW0]; simp
  have hB0 : Below w.heap.size w W0 := by rw [← hW0]; exact (Below.refl _ _).alloc (Nat.le_refl _) _
  have HW0 := Hid.mk' hW0
  have AC : Hid (∀ wx : World, wx.heap[w.heap.size]? = some (.cells #[nu k, nu i, nu kk, nu j] 28) → wx.cell? ⟨w.heap.size, 1, none⟩ = some (nu i) ∧ wx.cell? ⟨w.heap.size, 2, none⟩ = some (nu kk) ∧ wx.cell? ⟨w.heap.size, 3, none⟩ = some (nu j)) := fun wx hx => by simp [World.cell?, hx]
  have hP0 := (Dn.start hP).below H HR hB0
  have c0 := Hid.mk' (CG W0 p F A1 i hP0.pr.rep hgd hi)
  obtain ⟨z1, z2, z3⟩ := AC.out W0 hA0
  have HP0 := Hid.mk' hP0
  have HH := Hid.mk' H
  have HKR := Hid.mk' HR
  by_cases ht : there i
  · obtain ⟨q, rfl⟩ : ∃ q : Nat, i = (q : Int) := ⟨i.toNat, by omega⟩
    have hq : q < 32 := by omega
    rw [(at_in A1 q hq).1, (at_in A1 q hq).2] at c0
    simp only [show errE 0 = .nilIface from rfl] at c0
    obtain ⟨x, hx⟩ : ∃ x, A1.sl.getD q bare = x := ⟨_, rfl⟩
    rw [hx] at c0
    have hqI : (q : Int) < 32 := by omega
    obtain ⟨b, cap, fv, hRA, ⟨hc1, hc2⟩, hG, hbs⟩ := RepA.open hP0.pr.ref hgd2.len
    have HRA := Hid.mk' hRA
    have HGL := Hid.mk' hG
    have HBS := Hid.mk' hbs
    have hbl : Hid (b < w.heap.size ∧ g < w.heap.size) := by
      obtain ⟨_, _, hRw, _, hG2, _⟩ := RepA.open hP.ref hgd2.len
      have h1 : G b := by rw [hG]; exact .inr (.inl rfl)
      have h2 : G g := by rw [hG]; exact .inl rfl
      exact ⟨HR.lt hP.ref b h1, HR.lt hP.ref g h2⟩
    have CPx : Hid (∀ wx F', Rep wx p F' A1 → Calls Tryd.prog 25 #[ptr p, nu q, (putS x q kk j).v] wx fun e w' => e = .returned .nilIface ∧ An.Left Rep wx w' p F' ⟨A1.sl.set q (putS x q kk j), A1.fr, A1.wr + 1⟩) := fun wx F' hr => by
      have := CP wx p F' A1 q (putS x q kk j) hr hgd (by omega) hi
      unfold Arn.put at this
      rw [if_pos ht] at this
      simp only [Int.toNat_natCast] at this
      exact this
    have HGD1 := Hid.mk' hgd
    have HGD2 := Hid.mk' hgd2
    have HSL := Hid.mk' hsl
    have HFR := Hid.mk' hfr
    clear H HR hP hP0 CG CP hW0 hgd hgd2 hsl hfr ht hx hRA hG hbs hi hwr
    go_enter Tryd.func12, Tryd.ntmps12
    go_wp2_with fail
    rw [HW0.out]
    refine c0.out.mono ?_
    rintro e w1 ⟨rfl, hb1⟩
    have hA1 : w1.heap[w.heap.size]? = some (.cells #[nu k, nu q, nu kk, nu j] 28) := (hb1.block _ (by omega)).trans hA0
    have HB1 := Hid.mk' hb1
    have hsz1 := hb1.size
    have HZ1 := Hid.mk' (lone_zero w1)
    have HAG : Hid (∀ wx, (w1.alloc (.cells sltZ 52)).grownBy wx (some w1.heap.size) → wx.heap[w.heap.size]? = some (.cells #[nu k, nu q, nu kk, nu j] 28)) := fun wx hg => by
      have h1 : w.heap.size < (w1.alloc (.cells sltZ 52)).heap.size := by simp; omega
      exact (hg.block _ h1 (fun e => by have := Option.some.inj e; omega)).trans ((Below.heap_alloc w1 _ w.heap.size (by omega)).trans hA1)
    clear hb1 c0 hA0 z1 z2 z3
    go_upto_region 4 with (first | (refine wpList_store_lone rfl _ _ rfl w1.heap.size rfl x rfl slt0 HZ1.out ?_; intro w4 hl4 hg4 hs4; have HL4 := Hid.mk' hl4; have HB4 : Hid (Below W0.heap.size W0 w4) := ((HB1.out.alloc HB1.out.size _).grown hg4 (HB1.out.alloc HB1.out.size _).size (fun r e => by cases e; exact HB1.out.size)); have hA4 := HAG.out w4 hg4; clear hl4 hg4 hs4) | fail)
    obtain ⟨y1, y2, y3⟩ := AC.out w4 hA4
    obtain ⟨_, _, s2, s3, s4, _⟩ := HL4.out.cells
    have sf := lone_frozen HL4.out
    have HA4 := Hid.mk' hA4
    clear hA4
    go_upto_region 7 with fail
    have hL5 : Lone (((w4.setCell ⟨w1.heap.size, 3, none⟩ (nu kk)).setCell ⟨w1.heap.size, 4, none⟩ (nu j)).setCell ⟨w1.heap.size, 2, none⟩ (nu (wrap64 (j + kk)))) w1.heap.size { x with prev := kk, next := j, kids := wrap64 (j + kk) } :=
      lone_cell (x := { x with prev := kk, next := j }) (lone_cell (x := { x with prev := kk }) (lone_cell HL4.out 3 (nu kk) rfl) 4 (nu j) rfl) 2 (nu (wrap64 (j + kk))) rfl
    have hB5 : Below W0.heap.size W0 (((w4.setCell ⟨w1.heap.size, 3, none⟩ (nu kk)).setCell ⟨w1.heap.size, 4, none⟩ (nu j)).setCell ⟨w1.heap.size, 2, none⟩ (nu (wrap64 (j + kk)))) := ((HB4.out.setCell (p := ⟨w1.heap.size, 3, none⟩) hsz1 _).setCell (p := ⟨w1.heap.size, 4, none⟩) hsz1 _).setCell (p := ⟨w1.heap.size, 2, none⟩) hsz1 _
    have hA5 : (((w4.setCell ⟨w1.heap.size, 3, none⟩ (nu kk)).setCell ⟨w1.heap.size, 4, none⟩ (nu j)).setCell ⟨w1.heap.size, 2, none⟩ (nu (wrap64 (j + kk)))).heap[w.heap.size]? = some (.cells #[nu k, nu q, nu kk, nu j] 28) := (Below.heap_setCell _ _ _ _ (show w.heap.size ≠ w1.heap.size by omega)).trans ((Below.heap_setCell _ _ _ _ (show w.heap.size ≠ w1.heap.size by omega)).trans ((Below.heap_setCell _ _ _ _ (show w.heap.size ≠ w1.heap.size by omega)).trans HA4.out))
    clear y1 y2 y3 s2 s3 s4 sf HA4 HL4 HB4 HZ1 HAG
    generalize (((w4.setCell ⟨w1.heap.size, 3, none⟩ (nu kk)).setCell ⟨w1.heap.size, 4, none⟩ (nu j)).setCell ⟨w1.heap.size, 2, none⟩ (nu (wrap64 (j + kk)))) = w5 at *
    obtain ⟨y1, y2, y3⟩ := AC.out w5 hA5
    have HTD5 := Hid.mk' (lone_there hL5 5 12 (by omega))
    have hL6 : Lone (w5.setCells w1.heap.size 5 (sesL q)) w1.heap.size (putS x q kk j) := lone_mid hL5 5 (sesL q) (show 5 + 12 ≤ 17 by decide) rfl
    have hB6 : Below W0.heap.size W0 (w5.setCells w1.heap.size 5 (sesL q)) := hB5.grown (grown_setCells _ _ _ _) hB5.size (fun r e => by cases e; exact hsz1)
    have hA6 : (w5.setCells w1.heap.size 5 (sesL q)).heap[w.heap.size]? = some (.cells #[nu k, nu q, nu kk, nu j] 28) := ((grown_setCells w1.heap.size (sesL q) 5 w5).block _ (Array.getElem?_eq_some_iff.1 hA5).1 (fun e => by have := Option.some.inj e; omega)).trans hA5
    obtain ⟨w6, hw6⟩ : ∃ w6, w5.setCells w1.heap.size 5 (sesL q) = w6 := ⟨_, rfl⟩
    have HW6 : Hid (w5.setCells w1.heap.size 5 (sesL q).toArray.toList = w6) := hw6
    rw [hw6] at hL6 hB6 hA6
    clear hw6 hL5 hB5 hA5 y2 y3
    go_upto_region 8 with (first | (refine wpList_store_mid rfl 50 _ _ rfl w1.heap.size 5 (sesL q).toArray rfl rfl HTD5.out size_ses (ses_one q) ?_; rw [HW6.out]) | fail)
    obtain ⟨y2, _, _⟩ := AC.out w6 hA6
    have hRA6 := HRA.out.below hB6
    have hbw : w.heap.size ≠ b := by have := hbl.out.1; omega
    have hbw1 : w1.heap.size ≠ b := by have := hbl.out.1; omega
    have hgb : g ≠ b := fun e => hRA6.ne.1 (by rw [e]; rfl)
    have hS6 : w6.cell? ⟨g, 0, none⟩ = some (.slice (some ⟨b, 0, none⟩) 32 cap) ∧ w6.cell? ⟨w.heap.size, 1, none⟩ = some (nu q) ∧ Lone w6 w1.heap.size (putS x q kk j) := ⟨hRA6.cells.1, y2, hL6⟩
    have HTD : Hid (w6.drew.there b (q * 17) 17) := RAn.thereAt hRA6 HGD2.out.len q hq
    have HR7 : Hid (RAn base (w6.drew.setCells b (q * 17) (putS x q kk j).cells) g (.slice (some ⟨b, 0, none⟩) 32 cap) fv ⟨A2.sl.set q (putS x q kk j), A2.fr, A2.wr⟩) := (hRA6.below (Below.refl _ _).drew).stored HGD2.out.len q hq _
    have HG7 := Hid.mk' (grown_setCells b (putS x q kk j).cells (q * 17) w6.drew)
    have hS7 : (w6.drew.setCells b (q * 17) (putS x q kk j).cells).cell? ⟨g, 0, none⟩ = some (.slice (some ⟨b, 0, none⟩) 32 cap) ∧ (w6.drew.setCells b (q * 17) (putS x q kk j).cells).cell? ⟨w.heap.size, 1, none⟩ = some (nu q) ∧ Lone (w6.drew.setCells b (q * 17) (putS x q kk j).cells) w1.heap.size (putS x q kk j) := ⟨(World.cell?_setCells_out b _ _ _ _ (fun e => absurd e hgb)).trans hS6.1, (World.cell?_setCells_out b _ _ _ _ (fun e => absurd e hbw)).trans hS6.2.1, (HG7.out.block _ (Array.getElem?_eq_some_iff.1 hS6.2.2).1 (fun e => hbw1 (Option.some.inj e))).trans hS6.2.2⟩
    have HPR6 := Hid.mk' (HP0.out.below HH.out HKR.out hB6)
    have HL7 : Hid (LeftA base w6 (w6.drew.setCells b (q * 17) (putS x q kk j).cells) g G ⟨A2.sl.set q (putS x q kk j), A2.fr, A2.wr⟩) := by
      rw [HGL.out]
      exact leftA_links HR7.out (Nat.le_trans HBS.out hB6.size) ⟨HG7.out.os, HG7.out.tape, HG7.out.output, HG7.out.size, fun j hj hn => HG7.out.block j hj (fun e => hn (Option.some.inj e))⟩
    clear y1 y2 hRA6 HTD5 hL6
    refine wp_region_held_drew (S := fun w' => w'.cell? ⟨g, 0, none⟩ = some (.slice (some ⟨b, 0, none⟩) 32 cap) ∧ w'.cell? ⟨w.heap.size, 1, none⟩ = some (nu q) ∧ Lone w' w1.heap.size (putS x q kk j)) (by kernel_rfl) hS6 (fun hHeld => ?_)
    refine wpAnyH_take (i := 0) (v := ?_) rfl (by kernel_rfl) (by kernel_rfl) (by kernel_rfl) (fun _ _ _ h => h) (Or.inl ⟨by rfl, ?_⟩) hHeld ?_
    rotate_left
    · (intro w' hS'; go_simp <;> with_reducible rfl)
    simp only [Act.put, List.getElem_toArray, List.getElem_cons_succ, List.getElem_cons_zero, List.setIfInBounds_toArray, List.set]
    refine wpAnyH_take (i := 1) (v := ?_) rfl (by kernel_rfl) (by kernel_rfl) (by kernel_rfl) (fun _ _ _ h => h) (Or.inl ⟨by rfl, ?_⟩) hHeld ?_
    rotate_left
    · (intro w' hS'; go_simp <;> with_reducible rfl)
    simp only [Act.put, List.getElem_toArray, List.getElem_cons_succ, List.getElem_cons_zero, List.setIfInBounds_toArray, List.set]
    refine wpAnyH_take (i := 2) (v := ?_) rfl (by kernel_rfl) (by kernel_rfl) (by kernel_rfl) (fun _ _ _ h => h) (Or.inl ⟨by rfl, ?_⟩) hHeld ?_
    rotate_left
    · (intro w' hS'; go_simp <;> with_reducible rfl)
    simp only [Act.put, List.getElem_toArray, List.getElem_cons_succ, List.getElem_cons_zero, List.setIfInBounds_toArray, List.set]
    refine wpAnyH_take (i := 3) (v := ?_) rfl (by kernel_rfl) (by kernel_rfl) (by kernel_rfl) (fun _ _ _ h => h) (Or.inl ⟨by rfl, ?_⟩) hHeld ?_
    rotate_left
    · (intro w' hS'; go_simp <;> with_reducible rfl)
    simp only [Act.put, List.getElem_toArray, List.getElem_cons_succ, List.getElem_cons_zero, List.setIfInBounds_toArray, List.set]
    refine wpAnyH_take (i := 4) (v := ?_) rfl (by kernel_rfl) (by kernel_rfl) (by kernel_rfl) (fun _ _ _ h => h) (Or.inl ⟨by rfl, ?_⟩) hHeld ?_
    rotate_left
    · (intro w' hS'; go_simp <;> with_reducible rfl)
    simp only [Act.put, List.getElem_toArray, List.getElem_cons_succ, List.getElem_cons_zero, List.setIfInBounds_toArray, List.set]
    refine wpAnyH_take (i := 5) (v := ?_) rfl (by kernel_rfl) (by kernel_rfl) (by kernel_rfl) (fun _ _ _ h => h) (Or.inl ⟨by rfl, ?_⟩) hHeld ?_
    rotate_left
    · (intro w' hS'; go_simp <;> with_reducible rfl)
    simp only [Act.put, List.getElem_toArray, List.getElem_cons_succ, List.getElem_cons_zero, List.setIfInBounds_toArray, List.set]
    refine wpAnyH_take (i := 6) (v := _) rfl (by kernel_rfl) (by kernel_rfl) (by kernel_rfl) (fun _ _ _ h => h) (yieldsIf_load_mid (by rfl) 52 _ rfl w1.heap.size 0 rfl (putS x q kk j).cells _ (fun w' h => h.2.2.range) Tryd.underlying52 rfl size_slt) hHeld ?_
    simp only [Act.put, List.getElem_toArray, List.getElem_cons_succ, List.getElem_cons_zero, List.setIfInBounds_toArray, List.set]
    refine wpAnyH_take (i := 7) (v := ?_) rfl (by kernel_rfl) (by kernel_rfl) (by kernel_rfl) (fun _ _ _ h => h) (Or.inl ⟨by rfl, ?_⟩) hHeld ?_
    rotate_left
    · (intro w' hS'; go_simp <;> with_reducible rfl)
    simp only [Act.put, List.getElem_toArray, List.getElem_cons_succ, List.getElem_cons_zero, List.setIfInBounds_toArray, List.set]
    refine wpAnyH_ready (rs := [8]) (by kernel_rfl) (by simp) ?_
    refine AllReadyH.cons rfl (fun K hK => ?_) AllReadyH.nil
    rw [if_pos (by rfl)]
    simp only [List.getElem_toArray, List.getElem_cons_succ, List.getElem_cons_zero]
    refine wp_store_mid 52 _ _ rfl b (q * 17) (putS x q kk j).cells.toArray rfl rfl HTD.out size_slt (all_one (putS x q kk j)) ?_
    refine hK.out _ _ hS7 (fun hHeld => ?_)
    clear hK K
    refine wpAnyH_done (by kernel_rfl) ?_ _
    simp only [Act.put, List.getElem_toArray, List.getElem_cons_succ, List.getElem_cons_zero, List.setIfInBounds_toArray, List.set]
    obtain ⟨G', hPR7⟩ := HPR6.out.turn2 HH.out HL7.out (⟨by simpa using HGD2.out.len, HGD2.out.nd, HGD2.out.lt⟩)
    obtain ⟨_, z1, hL7⟩ := hS7
    clear hHeld hS6 HTD HR7 HG7 HPR6 HL7
    generalize w6.drew.setCells b (q * 17) (putS x q kk j).cells = w7 at *
    have C7 := Hid.mk' (CPx.out w7 F hPR7.pr.rep)
    have HPR7 := Hid.mk' hPR7
    have HX7 := Hid.mk' hL7.range
    clear hPR7 hL7 CPx
    go_wp2_with (first | (refine wpList_load_slt rfl _ rfl w1.heap.size 0 rfl (putS x q kk j) HX7.out ?_) | fail)
    refine C7.out.mono ?_
    rintro e w8 ⟨rfl, hlf⟩
    obtain ⟨F', hPR8⟩ := HPR7.out.turn1 HKR.out hlf (⟨by simpa using HGD1.out.len, HGD1.out.nd, HGD1.out.lt⟩)
    have HPR8 := Hid.mk' hPR8
    clear hlf hPR8
    go_wp2
    go_ret
    exact ⟨rfl, _, _, Nat.add_le_add_left (show 1 ≤ 4 by omega) _, ⟨F', G', HPR8.out⟩, by show A1.sl.set q _ = A2.sl.set q _; rw [HSL.out], HFR.out⟩
  · have HX : Hid (A1.at i = slt0 ∧ Arn.atE i = 1) := by
      unfold Arn.at Arn.atE
      rw [if_neg ht, if_neg ht]
      exact ⟨rfl, rfl⟩
    rw [HX.out.1, HX.out.2] at c0
    simp only [show errE 1 = noE 1 from rfl] at c0
    have cT : Hid (∀ wx, Calls Tryd.prog 21 #[nu i] wx fun e w' => e = .returned (.bool false) ∧ w' = wx) := fun wx => by
      have := there_ref i wx
      rwa [decide_eq_false ht] at this
    have HFIN : Hid (∀ wx, Below W0.heap.size W0 wx → ∃ A1' A2', A1'.wr ≤ A1.wr + 4 ∧ Tw Rep base w0 w wx p g F G A1' A2') := fun wx hb => ⟨A1, A2, by omega, ⟨F, G, HP0.out.below H HR hb⟩, hsl, hfr⟩
    clear H HR hP hP0 CG CP hW0 hgd hgd2 hsl hfr ht hi hwr HP0
    go_enter Tryd.func12, Tryd.ntmps12
    go_wp2_with fail
    rw [HW0.out]
    refine c0.out.mono ?_
    rintro e w1 ⟨rfl, hb1⟩
    have hA1 : w1.heap[w.heap.size]? = some (.cells #[nu k, nu i, nu kk, nu j] 28) := (hb1.block _ (by omega)).trans hA0
    have HB1 := Hid.mk' hb1
    have hsz1 := hb1.size
    have HZ1 := Hid.mk' (lone_zero w1)
    have HAG : Hid (∀ wx, (w1.alloc (.cells sltZ 52)).grownBy wx (some w1.heap.size) → wx.heap[w.heap.size]? = some (.cells #[nu k, nu i, nu kk, nu j] 28)) := fun wx hg => by
      have h1 : w.heap.size < (w1.alloc (.cells sltZ 52)).heap.size := by simp; omega
      exact (hg.block _ h1 (fun e => by have := Option.some.inj e; omega)).trans ((Below.heap_alloc w1 _ w.heap.size (by omega)).trans hA1)
    clear hb1 c0 hA0 z1 z2 z3
    go_wp2_with (first | (refine wpList_store_lone rfl _ _ rfl w1.heap.size rfl slt0 rfl slt0 HZ1.out ?_; intro w4 hl4 hg4 hs4; have HB4 : Hid (Below W0.heap.size W0 w4) := ((HB1.out.alloc HB1.out.size _).grown hg4 (HB1.out.alloc HB1.out.size _).size (fun r e => by cases e; exact HB1.out.size)); have hA4 := HAG.out w4 hg4; obtain ⟨y1, y2, y3⟩ := AC.out w4 hA4; clear hl4 hg4 hs4 hA4) | (go_at_call 21; refine (cT.out _).mono ?_; rintro e w5 ⟨rfl, hw5⟩; subst w5) | fail)
    go_ret
    exact ⟨rfl, HFIN.out w4 HB4.out⟩
end Rg
end Go.Proofs.YtckgecmcjnhceaaDoor
