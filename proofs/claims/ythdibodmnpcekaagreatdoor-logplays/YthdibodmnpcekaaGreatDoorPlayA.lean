import Derived.Test.YthdibodmnpcekaaGreatDoorPlayS
/- What both logs say of themselves, and all that was ever written. -/
namespace Go.Proofs.YthdibodmnpcekaaGreatDoor
set_option linter.ambiguousOpen false
open Go.RowKit
namespace Lo
open Sm Ft Dk
set_option linter.unusedSimpArgs false
set_option linter.unusedVariables false

/-- The cells that are asked. -/
@[reducible] def AskS (wr : World) (B p q g m : Nat) (n : Int) (v : Value) (w' : World) : Prop := Below wr.heap.size wr w' ∧ w'.cell? ⟨B, 0, none⟩ = some (ptr p) ∧ w'.cell? ⟨B, 1, none⟩ = some (ptr q) ∧ w'.cell? ⟨B, 2, none⟩ = some (ptr g) ∧ w'.cell? ⟨B, 3, none⟩ = some (ptr m) ∧ w'.cell? ⟨m, 5, none⟩ = some (nu n) ∧ w'.cell? ⟨g, 1, none⟩ = some v

set_option maxRecDepth 100000 in
set_option maxHeartbeats 8000000 in
theorem asked_any {Rep : World → Nat → (Nat → Prop) → Dsk → Prop} (H : Says Rep) (w wr : World) (B p q g m : Nat) (F G : Nat → Prop) (d : Dsk) (l : Lg) (τ : Nat → Nat) (hS : Sw Rep w wr B p q g m F G d l d l τ) (hf : Fit l d) (ht : d.tr.length ≤ 100000) :
    Calls Tryz.prog 12 #[ptr B] wr fun e w' => e = .returned (.bool true) ∧ Below wr.heap.size wr w' := by
  obtain ⟨b0, b1, b2, b3, bf⟩ := hS.cells
  obtain ⟨m0, m1, m2, m3, m4, m5, m6, mf⟩ := hS.ql.cells
  obtain ⟨v, hD, hG, _⟩ := id hS.ref
  obtain ⟨k0, k1, k2⟩ := hD.cells
  have hbl := hS.blt
  have hml := hS.ql.lt
  have hgl : g < wr.heap.size := (hS.ref.num).2
  obtain ⟨av, cv, hv, hcv1, hcv2, _⟩ := Nm.own_shape hD.row
  have hRv := Hid.mk' (own_rdR hD.row)
  unfold maxLen at hcv2
  subst hv
  have hf1 : 1 ≤ l.n ∧ l.n ≤ 4096 := by have := hf.n1; have := hf.an; have := hf.dn; have := hf.a0; omega
  obtain ⟨r, hr⟩ : ∃ r : Int, l.n - (l.used : Int) = r := ⟨_, rfl⟩
  obtain ⟨c, hc⟩ : ∃ c : Int, (l.recs : Int) = c := ⟨_, rfl⟩
  rw [hc] at m5
  have hst : Hid (∀ wx, Below wr.heap.size wr wx → AskS wr B p q g m c (.slice av d.tr.length cv) wx) := fun wx hb => ⟨hb, (hb.cell (p := ⟨B, 0, none⟩) hbl).trans b0, (hb.cell (p := ⟨B, 1, none⟩) hbl).trans b1, (hb.cell (p := ⟨B, 2, none⟩) hbl).trans b2, (hb.cell (p := ⟨B, 3, none⟩) hbl).trans b3, (hb.cell (p := ⟨m, 5, none⟩) hml).trans m5, (hb.cell (p := ⟨g, 1, none⟩) hgl).trans k1⟩
  have cR1 : Hid (∀ wx, AskS wr B p q g m c (.slice av d.tr.length cv) wx → Calls Tryz.prog 26 #[ptr q] wx fun e w' => e = .returned (nu r) ∧ AskS wr B p q g m c (.slice av d.tr.length cv) w') := fun wx h => (room_any wx q p l (hS.below H h.1).pl hf1 hf.us).mono (by
    rintro e w' ⟨rfl, k, rfl⟩
    exact ⟨by rw [hr], hst.out _ (dnB h.1 k)⟩)
  have cR2 : Hid (∀ wx, AskS wr B p q g m c (.slice av d.tr.length cv) wx → Calls Tryz.prog 27 #[ptr m] wx fun e w' => e = .returned (nu r) ∧ AskS wr B p q g m c (.slice av d.tr.length cv) w') := fun wx h => (rlRoom wx m g l (hS.below H h.1).ql hf1 hf.us).mono (by
    rintro e w' ⟨rfl, hb⟩
    exact ⟨by rw [hr], hst.out _ (below_fromS h.1 hb)⟩)
  have cRc : Hid (∀ wx, AskS wr B p q g m c (.slice av d.tr.length cv) wx → Calls Tryz.prog 28 #[ptr q] wx fun e w' => e = .returned (nu c) ∧ AskS wr B p q g m c (.slice av d.tr.length cv) w') := fun wx h => (records_any wx q p l (hS.below H h.1).pl).mono (by
    rintro e w' ⟨rfl, rfl⟩
    exact ⟨by rw [hc], h⟩)
  have cT : Hid (∀ wx, AskS wr B p q g m c (.slice av d.tr.length cv) wx → Calls Tryz.prog 30 #[ptr p] wx fun e w' => ∃ at_ ct, e = .returned (.slice at_ d.tr.length ct) ∧ Hid (RdR w' (.slice at_ d.tr.length ct) d.tr) ∧ AskS wr B p q g m c (.slice av d.tr.length cv) w') := fun wx h => (H.trail wx p F d (hS.below H h.1).rep (by omega)).mono (by
    rintro e w' ⟨t, rfl, ho, hb⟩
    obtain ⟨at_, ct, rfl, _⟩ := Nm.own_shape ho
    exact ⟨at_, ct, rfl, own_rdR ho, hst.out _ (below_fromS h.1 hb)⟩)
  have cS : Hid (∀ wx at_ ct, Hid (RdR wx (.slice at_ d.tr.length ct) d.tr) → AskS wr B p q g m c (.slice av d.tr.length cv) wx → Calls Tryz.prog 29 #[.slice at_ d.tr.length ct, .slice av d.tr.length cv] wx fun e w' => e = .returned (.bool true) ∧ AskS wr B p q g m c (.slice av d.tr.length cv) w') := fun wx at_ ct hT h => (sameRaws_eq _ _ d.tr wx hT.out (hRv.out.below h.1)).mono (by
    rintro e w' ⟨rfl, hb⟩
    exact ⟨rfl, hst.out _ (below_fromS h.1 hb)⟩)
  have q1 : (r == r) = true := by simp
  have q2 : (c == c) = true := by simp
  have hS0 := hst.out wr.drew (Below.refl _ _).drew
  clear hS hf ht hD hG k0 k1 k2 b0 b1 b2 b3 bf m0 m1 m2 m3 m4 m5 m6 mf hst hr hc hf1 hRv
  go_enter Tryz.func12, Tryz.ntmps12
  go_wp2_with fail
  go_region_held3 (fun w' => AskS wr B p q g m c (.slice av d.tr.length cv) w') (first | assumption | fail) (first | (go_at_call 26; with_reducible refine (cR1.out _ (by first | assumption | fail)).mono ?_; rintro e w2 ⟨rfl, hS2⟩) | (go_at_call 27; with_reducible refine (cR2.out _ (by first | assumption | fail)).mono ?_; rintro e w3 ⟨rfl, hS3⟩) | (go_at_call 28; with_reducible refine (cRc.out _ (by first | assumption | fail)).mono ?_; rintro e w4 ⟨rfl, hS4⟩) | (go_at_call 30; with_reducible refine (cT.out _ (by first | assumption | fail)).mono ?_; rintro e w5 ⟨at_, ct, rfl, hT5, hS5⟩) | (go_at_call 29; with_reducible refine (cS.out _ _ _ hT5 (by first | assumption | fail)).mono ?_; rintro e w6 ⟨rfl, hS6⟩) | fail)
  all_goals go_wp2
  all_goals go_ret
  all_goals exact ⟨rfl, hS6.1⟩
end Lo
end Go.Proofs.YthdibodmnpcekaaGreatDoor
