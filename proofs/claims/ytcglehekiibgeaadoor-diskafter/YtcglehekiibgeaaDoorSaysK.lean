/- What the program's disk must answer. -/
import Derived.Test.YtcglehekiibgeaaDoorBookA
namespace Go.Proofs.YtcglehekiibgeaaDoor
set_option linter.ambiguousOpen false
open Go.RowKit
namespace Dk
open Sm Ft
set_option linter.unusedSimpArgs false
set_option linter.unusedVariables false

theorem RDk.mono {w : World} {b c g : Nat} {v : Value} {d : Dsk} (h : RDk w b g v d) (hc : c ≤ b) : RDk w c g v d := ⟨h.blk, own_mono h.row hc, Nat.le_trans hc h.lo, h.ne⟩

theorem Bk.mono {w : World} {b c gb : Nat} {rv : Value} {vs : List Value} (h : Bk w b gb rv vs) (hc : c ≤ b) : Bk w c gb rv vs :=
  ⟨h.blk, own_mono h.row hc, fun l hl => by
    obtain ⟨n, xs, h1, h2⟩ := h.own l hl
    exact ⟨n, xs, h1, own_mono h2 hc⟩, h.sep, h.offr, h.offb, h.offg, Nat.le_trans hc h.lo⟩

theorem keepS {wr wx w3 : World} {g i : Nat} {u : Value} (hb : Below wx.heap.size wx w3) (q : wx.cell? ⟨g, i, none⟩ = some u) : w3.cell? ⟨g, i, none⟩ = some u := by
  have hl : g < wx.heap.size := World.block_lt_of_cell? wx _ q
  exact (hb.cell (p := ⟨g, i, none⟩) hl).trans q

/-- A pair in lockstep. -/
structure Pr (Rep : World → Nat → (Nat → Prop) → Dsk → Prop) (w : World) (base p : Nat) (F : Nat → Prop) (g : Nat) (v : Value) (d : Dsk) : Prop where
  rep : Rep w p F d
  ref : RDk w base g v d
  fr : ∀ k, F k → ¬ rfp g v k
  fl : ∀ k, F k → base ≤ k

def pfp (F : Nat → Prop) (g : Nat) (v : Value) : Nat → Prop := fun k => F k ∨ rfp g v k

theorem Pr.keep {Rep : World → Nat → (Nat → Prop) → Dsk → Prop} (H : Says Rep) {w w' : World} {base p : Nat} {F G : Nat → Prop} {g : Nat} {v : Value} {d : Dsk} (h : Pr Rep w base p F g v d) (hk : Keep G w w') (hG : ∀ k, pfp F g v k → ¬ G k) : Pr Rep w' base p F g v d :=
  ⟨H.keep h.rep hk (fun k hf => hG k (.inl hf)), h.ref.keep hk (fun k hf => hG k (.inr hf)), h.fr, h.fl⟩

theorem Pr.lt {Rep : World → Nat → (Nat → Prop) → Dsk → Prop} (H : Says Rep) {w : World} {base p : Nat} {F : Nat → Prop} {g : Nat} {v : Value} {d : Dsk} (h : Pr Rep w base p F g v d) (k : Nat) (hk : pfp F g v k) : base ≤ k ∧ k < w.heap.size := by
  rcases hk with hk | hk
  · exact ⟨h.fl k hk, H.lt h.rep k hk⟩
  · exact h.ref.lt k hk

theorem Pr.below {Rep : World → Nat → (Nat → Prop) → Dsk → Prop} (H : Says Rep) {w w' : World} {base p : Nat} {F : Nat → Prop} {g : Nat} {v : Value} {d : Dsk} (h : Pr Rep w base p F g v d) (hb : Below w.heap.size w w') : Pr Rep w' base p F g v d :=
  h.keep H (Keep.of_below (F := fun _ => False) hb) (fun _ _ hf => hf)

theorem Bk.below {w w' : World} {base gb : Nat} {rv : Value} {vs : List Value} (h : Bk w base gb rv vs) (hb : Below w.heap.size w w') : Bk w' base gb rv vs :=
  h.keep (Keep.of_below (F := fun _ => False) hb) (fun _ _ hf => hf)

/-- The book behind one more row. -/
theorem moves_bfp {w : World} {gb : Nat} {rv rv' t : Value} {vs : List Value} (hm : Moves w rv rv') (ht : ∀ k, t.ownBlock = some k → w.heap.size ≤ k) : Goes w (bfp gb rv vs) (bfp gb rv' (vs ++ [t])) := by
  intro k hk
  rcases hk with rfl | hk | ⟨l, hl, hk⟩
  · exact .inl (.inl rfl)
  · rcases hm k hk with h | h
    · exact .inl (.inr (.inl h))
    · exact .inr h
  · rcases snoc_at vs t l hl with ⟨hl', e⟩ | ⟨_, e⟩
    · rw [e] at hk
      exact .inl (.inr (.inr ⟨l, hl', hk⟩))
    · rw [e] at hk
      exact .inr (ht k hk)

set_option maxRecDepth 100000 in
set_option maxHeartbeats 4000000 in
theorem asked_any {Rep : World → Nat → (Nat → Prop) → Dsk → Prop} (H : Says Rep) (w : World) (base p : Nat) (F : Nat → Prop) (g : Nat) (v : Value) (d : Dsk) (gb : Nat) (rv : Value) (vs : List Value)
    (hP : Pr Rep w base p F g v d) (hB : Bk w base gb rv vs) (ht : d.tr.length < 900000) (hn : vs.length < 900000) (hb : base ≤ w.heap.size) :
    Calls Tryd.prog 9 #[ptr p, ptr g, ptr gb] w fun e w' => e = .returned (.bool true) ∧ ∃ rv' t, Bk w' base gb rv' (vs ++ [t]) ∧ Keep (bfp gb rv vs) w w' ∧ Goes w (bfp gb rv vs) (bfp gb rv' (vs ++ [t])) := by
  have c1 := H.trail w p F d hP.rep (by omega)
  have HH := Hid.mk' H
  have HP := Hid.mk' hP
  have HB := Hid.mk' hB
  clear hP hB H
  go_enter Tryd.func9, Tryd.ntmps9
  go_wp2_with fail
  refine c1.mono ?_
  rintro e w1 ⟨t, rfl, ho1, hb1⟩
  obtain ⟨at_, ct, ht1, ht2, ht3, _⟩ := Nm.own_shape ho1
  have hRt := Hid.mk' (own_rdR ho1)
  have HO1 := Hid.mk' ho1
  have HP1 := Hid.mk' (HP.out.below HH.out hb1)
  have HB1 := Hid.mk' (HB.out.below hb1)
  have hBw : Hid (Below w.heap.size w w1) := hb1
  obtain ⟨r0, r1, r2⟩ := HP1.out.ref.cells
  obtain ⟨av, cv, hv, hcv1, hcv2, _⟩ := Nm.own_shape HP1.out.ref.row
  have hRv := Hid.mk' (own_rdR HP1.out.ref.row)
  unfold maxLen at ht3 hcv2
  subst ht1 hv
  have hSt : Hid (∀ wx w3, (Below w1.heap.size w1 wx ∧ wx.cell? ⟨g, 0, none⟩ = some (nu d.n) ∧ wx.cell? ⟨g, 1, none⟩ = some (.slice av d.tr.length cv)) → Below wx.heap.size wx w3 → (Below w1.heap.size w1 w3 ∧ w3.cell? ⟨g, 0, none⟩ = some (nu d.n) ∧ w3.cell? ⟨g, 1, none⟩ = some (.slice av d.tr.length cv))) := fun wx w3 h hb => ⟨below_fromR h.1 hb, keepS (wr := wx) hb h.2.1, keepS (wr := wx) hb h.2.2⟩
  have cB : Hid (∀ wx, (Below w1.heap.size w1 wx ∧ wx.cell? ⟨g, 0, none⟩ = some (nu d.n) ∧ wx.cell? ⟨g, 1, none⟩ = some (.slice av d.tr.length cv)) → Calls Tryd.prog 26 #[ptr p] wx fun e w' => e = .returned (nu d.n) ∧ (Below w1.heap.size w1 w' ∧ w'.cell? ⟨g, 0, none⟩ = some (nu d.n) ∧ w'.cell? ⟨g, 1, none⟩ = some (.slice av d.tr.length cv))) := fun wx h => (HH.out.blocks wx p F d (HP1.out.below HH.out h.1).rep).mono (by rintro e w' ⟨rfl, hb⟩; exact ⟨rfl, hSt.out _ _ h hb⟩)
  have cW : Hid (∀ wx, (Below w1.heap.size w1 wx ∧ wx.cell? ⟨g, 0, none⟩ = some (nu d.n) ∧ wx.cell? ⟨g, 1, none⟩ = some (.slice av d.tr.length cv)) → Calls Tryd.prog 27 #[ptr p] wx fun e w' => e = .returned (nu d.tr.length) ∧ (Below w1.heap.size w1 w' ∧ w'.cell? ⟨g, 0, none⟩ = some (nu d.n) ∧ w'.cell? ⟨g, 1, none⟩ = some (.slice av d.tr.length cv))) := fun wx h => (HH.out.writes wx p F d (HP1.out.below HH.out h.1).rep (by omega)).mono (by rintro e w' ⟨rfl, hb⟩; exact ⟨rfl, hSt.out _ _ h hb⟩)
  have cS : Hid (∀ wx, (Below w1.heap.size w1 wx ∧ wx.cell? ⟨g, 0, none⟩ = some (nu d.n) ∧ wx.cell? ⟨g, 1, none⟩ = some (.slice av d.tr.length cv)) → Calls Tryd.prog 28 #[.slice at_ d.tr.length ct, .slice av d.tr.length cv] wx fun e w' => e = .returned (.bool true) ∧ (Below w1.heap.size w1 w' ∧ w'.cell? ⟨g, 0, none⟩ = some (nu d.n) ∧ w'.cell? ⟨g, 1, none⟩ = some (.slice av d.tr.length cv))) := fun wx h => (sameRaws_eq _ _ d.tr wx (hRt.out.below h.1) (hRv.out.below h.1)).mono (by rintro e w' ⟨rfl, hb⟩; exact ⟨rfl, hSt.out _ _ h hb⟩)
  have q1 : (d.n == d.n) = true := by simp
  have q2 : ((d.tr.length : Int) == (d.tr.length : Int)) = true := by simp
  have hS0 : Below w1.heap.size w1 w1.drew ∧ w1.drew.cell? ⟨g, 0, none⟩ = some (nu d.n) ∧ w1.drew.cell? ⟨g, 1, none⟩ = some (.slice av d.tr.length cv) := ⟨(Below.refl _ _).drew, r0, r1⟩
  clear c1 ho1 hb1 r2
  go_wp2_with fail
  go_region_held3 (fun w' => Below w1.heap.size w1 w' ∧ w'.cell? ⟨g, 0, none⟩ = some (nu d.n) ∧ w'.cell? ⟨g, 1, none⟩ = some (.slice av d.tr.length cv)) (first | assumption | fail) (first | (go_at_call 26; with_reducible refine (cB.out _ (by first | assumption | fail)).mono ?_; rintro e w2 ⟨rfl, hS2⟩) | (go_at_call 27; with_reducible refine (cW.out _ (by first | assumption | fail)).mono ?_; rintro e w3 ⟨rfl, hS3⟩) | (go_at_call 28; with_reducible refine (cS.out _ (by first | assumption | fail)).mono ?_; rintro e w4 ⟨rfl, hS4⟩) | fail)
  have hb14 := hS4.1
  have hw4 : Below w.heap.size w w4 := below_fromR hBw.out hb14
  have hO4 := own_belowS HO1.out hb14
  have hB4 := HB1.out.below hb14
  have htb : Hid (∀ k, (Value.slice at_ d.tr.length ct).ownBlock = some k → w.heap.size ≤ k) := fun k hk => (HO1.out.lt k hk).1
  have c5 := bookRaws_any w4 base gb rv _ vs hB4 ⟨d.tr.length, rcs d.tr, ht, own_mono hO4 hb⟩ (fun k hk hf => by
    have h1 := htb.out k hk
    have h2 := (HB.out.lt k hf).2
    omega) (by omega) (Nat.le_trans hb hw4.size)
  have HW4 := Hid.mk' hw4
  clear hS0 hS2 hS3 hS4 hb14 hw4 hO4 hB4 hSt cB cW cS r0 r1 q1 q2
  go_wp2_with fail
  refine c5.mono ?_
  rintro e w5 ⟨⟨u, rfl⟩, rv', hB5, hK5, hM5⟩
  have HR : Hid (∃ rv' t, Bk w5 base gb rv' (vs ++ [t]) ∧ Keep (bfp gb rv vs) w w5 ∧ Goes w (bfp gb rv vs) (bfp gb rv' (vs ++ [t]))) :=
    ⟨rv', _, hB5, (Keep.of_below (F := bfp gb rv vs) HW4.out).trans hK5 (fun _ _ hf => hf), moves_bfp (fun k hk => by
      rcases hM5 k hk with h | h
      · exact .inl h
      · exact .inr (Nat.le_trans HW4.out.size h)) htb.out⟩
  clear c5 hB5 hK5 hM5
  go_wp2
  go_ret
  exact ⟨rfl, HR.out⟩
end Dk
end Go.Proofs.YtcglehekiibgeaaDoor
