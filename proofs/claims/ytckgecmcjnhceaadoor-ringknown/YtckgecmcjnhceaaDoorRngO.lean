/- Slots that are pushed one behind the other are handed out in that order, and each is well linked: RingRow out of what the program's calls must answer. -/
import Derived.Test.YtckgecmcjnhceaaDoorRngL
namespace Go.Proofs.YtckgecmcjnhceaaDoor
set_option linter.ambiguousOpen false
open Go.RowKit
namespace Rg
open An Ft Lv
set_option linter.unusedSimpArgs false
set_option linter.unusedVariables false

theorem blk_own {v : Value} {k : Nat} {w : World} {base n : Nat} {xs : List Value} (h : w.ownsRow base 3 1 v n xs) (hk : blk v k) : base ≤ k ∧ k < w.heap.size := by
  rcases h.2 with ⟨rfl, _⟩ | ⟨b, cap, cur, rfl, hb, hc, _⟩
  · exact hk.elim
  · have e : k = b := hk
    subst e
    exact ⟨hb, (Array.getElem?_eq_some_iff.1 hc).1⟩

/-- A new arena, and a row of slots beside it. -/
theorem begin_any {Rep : World → Nat → (Nat → Prop) → Arn → Prop} (H : KeepC Rep) {w0 w1 w2 : World} {p : Nat} {F : Nat → Prop} {v : Value} {R : List Nat} (hr : Rep w1 p F arn0) (hf : ∀ k, F k → w0.heap.size ≤ k) (hb : Below w0.heap.size w0 w1) (ho : w2.ownsRow w1.heap.size 3 1 v R.length (R.map nun)) (hb2 : Below w1.heap.size w1 w2) : Sr Rep w0 w2 p arn0 (blk v) :=
  Sr.more H (R := fun _ => False) ⟨F, hr, good0, hf, hb, fun k hk => hk.elim⟩ hb2 (fun k hk => .inr (blk_own ho hk))

theorem RdO.below {w w' : World} {v : Value} {l : List Nat} (h : RdO w v l) (hb : Below w.heap.size w w') : RdO w' v l :=
  h.kept (R := blk v) (Keep.of_below hb) (fun _ h => h)

theorem RdO.same {w : World} {v : Value} {l : List Nat} (h : RdO w v l) (hz : ∀ g o, v = .slice (some ⟨g, o, none⟩) l.length (match v with | .slice _ _ c => c | _ => 0) → o = 0) : RdN w v l := by
  obtain ⟨a, cap, rfl, h1, h2, h3⟩ := h
  refine ⟨a, cap, rfl, h1, h2, fun h0 => ?_⟩
  obtain ⟨g, o, rfl, hg, hc⟩ := h3 h0
  obtain rfl := hz g o rfl
  exact ⟨g, rfl, hg, fun k i hk => by have := hc k i hk; rwa [Nat.zero_add] at this⟩

/-- A row of one's own stays while the arena is turned. -/
theorem own_kp {w w' : World} {base n : Nat} {v : Value} {l : List Nat} {R : Nat → Prop} (h : w.ownsRow base 3 1 v n (l.map nun)) (hk : Kp R w w') (hR : ∀ k, blk v k → R k) : w'.ownsRow base 3 1 v n (l.map nun) := by
  refine Keep.own hk h (fun g hg hn => hn (hR g ?_))
  rcases h.2 with ⟨rfl, _⟩ | ⟨b, cap, cur, rfl, _⟩
  · simp [Value.ownBlock] at hg
  · have e : b = g := by simpa [Value.ownBlock] using hg
    exact e.symm

set_option maxRecDepth 100000 in
set_option maxHeartbeats 8000000 in
theorem ringRow_yes {Rep : World → Nat → (Nat → Prop) → Arn → Prop} (H : KeepC Rep) (CN : NewC Rep) (CG : GetC Rep) (CP : PushC Rep) (CA : AllC Rep) (v : Value) (l : List Int) (w : World) (hR : RdI w v l) (hl : ∀ x ∈ l, I64 x) :
    Calls Tryd.prog 40 #[v] w fun e w' => e = .returned (.bool true) ∧ Below w.heap.size w w' := by
  have c1 := Hid.mk' (CN w)
  have HH := Hid.mk' H
  have cR : Hid (∀ wx, Below w.heap.size w wx → _) := fun wx hb => row_any v l wx (by
    obtain ⟨a, cap, e, h1, h2, h3⟩ := hR
    refine ⟨a, cap, e, h1, h2, fun h0 => ?_⟩
    obtain ⟨g, o, rfl, hg, hc⟩ := h3 h0
    exact ⟨g, o, rfl, Nat.lt_of_lt_of_le hg hb.size, fun k i hk => (hb.cell (p := ⟨g, o + k, none⟩) hg).trans (hc k i hk)⟩) hl
  have cL : Hid (∀ wx p A v R, Sr Rep w wx p A (blk v) → A.wr ≤ 900000000 → RdO wx v R → R.Nodup → (∀ i ∈ R, i < 32) → _) := fun wx p A v R h1 h2 h3 h4 h5 => laid_any CP w wx p A (blk v) v R h1 h2 h3 (fun _ h => h) h4 h5
  have cW : Hid (∀ wx, _) := fun wx => works_any H CN CP CA wx
  have cA : Hid (∀ wx p A Q R, Sr Rep w wx p A Q → Ring A.sl R → _) := fun wx p A Q R h1 h2 => all_sr H CA w wx p A Q R h1 h2
  have cG : Hid (∀ wx p A Q R i, Sr Rep w wx p A Q → Ring A.sl R → i ∈ R → Calls Tryd.prog 62 #[ptr p, nun i] wx fun e w' => e = .returned (.bool true) ∧ Below wx.heap.size wx w') := fun wx p A Q R i h1 h2 h3 => by
    have := well_any H CG w wx p A Q i h1 (h2.lt i h3) (h2.links h3)
    rwa [decide_eq_true (h2.well h3)] at this
  obtain ⟨av, cv, rfl, _⟩ := hR
  clear H CN CG CP CA hl
  go_enter Tryd.func40, Tryd.ntmps40
  go_wp2_with fail
  refine c1.out.mono ?_
  rintro e w1 ⟨p, F, rfl, hr1, hf1, hb1⟩
  have C2 := Hid.mk' (cR.out w1 hb1)
  have H1 : Hid (Rep w1 p F arn0 ∧ (∀ k, F k → w.heap.size ≤ k) ∧ Below w.heap.size w w1) := ⟨hr1, hf1, hb1⟩
  clear hr1 hf1 hb1 c1 cR
  go_wp2_with fail
  refine C2.out.mono ?_
  rintro e w2 ⟨v2, R, rfl, ho2, hnd, hlt, hb2⟩
  have hS2 := begin_any HH.out H1.out.1 H1.out.2.1 H1.out.2.2 ho2 hb2
  have hfew := nodup_few 32 R hnd hlt
  have C3 := Hid.mk' (cL.out w2 p arn0 v2 R hS2 (by decide) (rdO_own ho2) hnd hlt)
  obtain ⟨n, hn⟩ : ∃ n, R.length = n := ⟨_, rfl⟩
  rw [hn] at ho2 hfew
  obtain ⟨a2, c2, rfl, hc1, hc2, _⟩ := Nm.own_shape ho2
  unfold maxLen at hc2
  obtain ⟨z, hz⟩ : ∃ z, lastI R = z := ⟨_, rfl⟩
  rw [hz] at C3
  have HO2 := Hid.mk' ho2
  have HZ := Hid.mk' hz
  have HN := Hid.mk' hn
  clear ho2 hb2 hS2 C2 H1 cL hz hn hnd hlt
  go_wp2_with fail
  refine C3.out.mono ?_
  rintro e w3 ⟨rfl, A', a1, hring, _, a4, a5⟩
  have HRG := Hid.mk' hring
  have HS3 := Hid.mk' a4
  have HO3 := Hid.mk' (own_kp HO2.out a5 (fun _ h => h))
  clear a1 hring a4 a5 C3 HO2
  go_wp2_with fail
  refine (cW.out w3).mono ?_
  rintro e w4 ⟨rfl, hb4⟩
  have HS4 := Hid.mk' (HS3.out.below HH.out hb4)
  have HO4 : Hid (w4.ownsRow w1.heap.size 3 1 (.slice a2 n c2) n (R.map nun)) := own_kp HO3.out (Kp.of_below (R := blk (.slice a2 n c2)) hb4) (fun _ h => h)
  have C5 := Hid.mk' (cA.out w4 p A' _ R HS4.out HRG.out)
  rw [HZ.out, HN.out] at C5
  clear hb4 cW HS3 HO3 cA
  go_wp2_with fail
  refine C5.out.mono ?_
  rintro e w5 ⟨v5, rfl, ho5, hb5⟩
  have hO5 : w5.ownsRow w1.heap.size 3 1 (.slice a2 n c2) n (R.map nun) := own_kp HO4.out (Kp.of_below (R := blk (.slice a2 n c2)) hb5) (fun _ h => h)
  have C6 := Hid.mk' (sameN v5 (.slice a2 n c2) R w5 (own_rdN ho5) (own_rdN hO5))
  obtain ⟨a5, c5, rfl, _⟩ := Nm.own_shape ho5
  have HO5 := Hid.mk' hO5
  have HS5 := Hid.mk' (HS4.out.below HH.out hb5)
  clear ho5 hO5 hb5 C5 HS4 HO4
  go_wp2_with fail
  refine C6.out.mono ?_
  rintro e w6 ⟨rfl, hb6⟩
  have HO6 : Hid (w6.ownsRow w1.heap.size 3 1 (.slice a2 n c2) n (R.map nun)) := own_kp HO5.out (Kp.of_below (R := blk (.slice a2 n c2)) hb6) (fun _ h => h)
  have HS6 := Hid.mk' (HS5.out.below HH.out hb6)
  have hnI : (n : Int) ≤ 32 := by omega
  clear hb6 C6 HS5 HO5
  go_wp2_with fail
  go_loopw [7] (fun iv wr => ∃ k : Nat, k ≤ n ∧ iv = nun k ∧ Hid (Below w6.heap.size w6 wr)) (fun iv _ => n - (intOf iv).toNat)
  case atStart => exact ⟨0, Nat.zero_le _, rfl, Below.refl _ _⟩
  case round =>
    obtain ⟨k, hk, rfl, HB⟩ := hrel
    by_cases hlt : k < n
    · have hkI : (k : Int) < (n : Int) := by omega
      obtain ⟨x, hx⟩ : ∃ x, R[k]? = some x := ⟨_, List.getElem?_eq_getElem (by rw [HN.out]; exact hlt)⟩
      have hSr := HS6.out.below HH.out HB.out
      have C7 := Hid.mk' (cG.out wr p A' _ R x hSr HRG.out (List.mem_of_getElem? hx))
      have hOr : wr.ownsRow w1.heap.size 3 1 (.slice a2 n c2) n (R.map nun) := own_kp HO6.out (Kp.of_below (R := blk (.slice a2 n c2)) HB.out) (fun _ h => h)
      obtain ⟨_, _, e, _, _, h3⟩ := own_rdN hOr
      obtain ⟨g, rfl, _, hc⟩ := h3 (by rw [HN.out]; omega)
      simp only [Value.slice.injEq] at e
      obtain ⟨rfl, -, -⟩ := e
      have hcx := hc k x hx
      clear hx hSr hOr hc h3
      go_wp2_with fail
      refine C7.out.mono ?_
      rintro e w7 ⟨rfl, hb7⟩
      have HB7 : Hid (Below w6.heap.size w6 w7) := HB.out.trans (hb7.mono HB.out.size)
      clear hb7 C7 hcx
      go_wp2
      go_roundw
      case rel => exact ⟨k + 1, by omega, by go_num, HB7⟩
      case measure => simp [intOf]; omega
    · have hkI : ¬ (k : Int) < (n : Int) := by omega
      have HBE := Hid.mk' HS6.out.bel
      go_wp2
      go_ret
      exact ⟨rfl, HBE.out.trans (HB.out.mono HBE.out.size)⟩
end Rg
end Go.Proofs.YtckgecmcjnhceaaDoor
