/- Lists of payloads, and whether two are the same. -/
import Derived.Test.YtjnodkjeiogloaaCvR
import Derived.Deep.RegionHeld3
namespace Go.Proofs.Ytjnodkjeiogloaa
set_option linter.ambiguousOpen false
open Go.RowKit
namespace Rc
open Sm Pk
set_option linter.unusedSimpArgs false
set_option linter.unusedVariables false

/-- The value v reads, in w, as the list of rows L. -/
def RdL (w : World) (v : Value) (L : List (List UInt8)) : Prop :=
  ∃ a cap, v = .slice a L.length cap ∧ L.length ≤ cap ∧ cap ≤ maxLen ∧ (0 < L.length → ∃ g o, a = some ⟨g, o, none⟩ ∧ g < w.heap.size ∧ ∀ (j : Nat) (p : List UInt8), L[j]? = some p → ∃ u, w.cell? ⟨g, o + j, none⟩ = some u ∧ RdB w u p ∧ Nz u)

theorem RdL.below {w w' : World} {v : Value} {L : List (List UInt8)} (h : RdL w v L) (hb : Below w.heap.size w w') : RdL w' v L := by
  obtain ⟨a, cap, h1, h2, h3, h4⟩ := h
  refine ⟨a, cap, h1, h2, h3, fun h0 => ?_⟩
  obtain ⟨g, o, e1, e2, e3⟩ := h4 h0
  refine ⟨g, o, e1, Nat.lt_of_lt_of_le e2 hb.size, fun j p hj => ?_⟩
  obtain ⟨u, f1, f2, f3⟩ := e3 j p hj
  exact ⟨u, (hb.cell (p := ⟨g, o + j, none⟩) e2).trans f1, f2.below hb, f3⟩

set_option maxRecDepth 100000 in
set_option maxHeartbeats 4000000 in
theorem same_rows (v1 v2 : Value) (L : List (List UInt8)) (w : World) (h1 : RdL w v1 L) (h2 : RdL w v2 L) :
    Calls Try.prog 10 #[v1, v2] w fun e w' => e = .returned (.bool true) ∧ Below w.heap.size w w' := by
  have H1 := Hid.mk' h1
  have H2 := Hid.mk' h2
  obtain ⟨n, hn⟩ : ∃ n, L.length = n := ⟨_, rfl⟩
  have HN := Hid.mk' hn
  obtain ⟨a1, c1, rfl, hc1, hm1, hx1⟩ := h1
  obtain ⟨a2, c2, rfl, hc2, hm2, hx2⟩ := h2
  rw [hn] at hc1 hc2 H1 H2 ⊢
  unfold maxLen at hm1 hm2
  have cS : Hid (∀ wx u1 u2 p, RdB wx u1 p → RdB wx u2 p → Calls Try.prog 12 #[u1, u2] wx fun e w' => e = .returned (.bool true) ∧ Below wx.heap.size wx w') := fun wx u1 u2 p q1 q2 => sameB_eq u1 u2 p wx q1 q2
  clear hx1 hx2 hn
  go_enter Try.func10, Try.ntmps10
  go_wp2
  go_loopw [5] (fun iv wr => ∃ k : Nat, k ≤ n ∧ iv = nu (k : Int) ∧ Hid (Below w.heap.size w wr)) (fun iv _ => n - (intOf iv).toNat)
  case atStart => exact ⟨0, Nat.zero_le _, rfl, Below.refl _ _⟩
  case round =>
  obtain ⟨k, hk, rfl, hB⟩ := hrel
  by_cases hkn : k < n
  · obtain ⟨p, hp⟩ : ∃ p, L[k]? = some p := ⟨L[k]'(by have := HN.out; omega), List.getElem?_eq_getElem _⟩
    obtain ⟨b1, d1, e1, _, _, q1⟩ := H1.out.below hB.out
    obtain ⟨b2, d2, e2, _, _, q2⟩ := H2.out.below hB.out
    obtain ⟨rfl, rfl⟩ : a1 = b1 ∧ c1 = d1 := by simp at e1; exact ⟨e1.1, e1.2.2⟩
    obtain ⟨rfl, rfl⟩ : a2 = b2 ∧ c2 = d2 := by simp at e2; exact ⟨e2.1, e2.2.2⟩
    obtain ⟨g1, o1, rfl, l1, y1⟩ := q1 (by have := HN.out; omega)
    obtain ⟨g2, o2, rfl, l2, y2⟩ := q2 (by have := HN.out; omega)
    obtain ⟨u1, f1, r1, _⟩ := y1 k p hp
    obtain ⟨u2, f2, r2, _⟩ := y2 k p hp
    have hkI : (k : Int) < (n : Int) := by omega
    have hk0 : (0 : Int) ≤ (k : Int) := by omega
    have C := Hid.mk' (show ∀ wx, Below wr.heap.size wr wx → Calls Try.prog 12 #[u1, u2] wx fun e w' => e = .returned (.bool true) ∧ (w'.cell? ⟨g1, o1 + k, none⟩ = some u1 ∧ w'.cell? ⟨g2, o2 + k, none⟩ = some u2) ∧ Below wr.heap.size wr w' from fun wx hx => by
      refine (cS.out wx u1 u2 p (r1.below hx) (r2.below hx)).mono ?_
      rintro e w' ⟨rfl, hb⟩
      have hbw : Below wr.heap.size wr w' := hx.trans (hb.mono hx.size)
      exact ⟨rfl, ⟨(hbw.cell (p := ⟨g1, o1 + k, none⟩) l1).trans f1, (hbw.cell (p := ⟨g2, o2 + k, none⟩) l2).trans f2⟩, hbw⟩)
    obtain ⟨s1, m1, rfl, _⟩ := r1
    obtain ⟨s2, m2, rfl, _⟩ := r2
    clear e1 e2 q1 q2 y1 y2 hp H1 H2
    go_upto_region 6 with fail
    go_cut [26] from 17 to 27 (fun r wx => r = .bool false ∧ Hid (Below w.heap.size w wx))
    case first =>
      go_wp2_with fail
      go_region_held3 (fun w' => w'.cell? ⟨g1, o1 + k, none⟩ = some (.slice s1 p.length m1) ∧ w'.cell? ⟨g2, o2 + k, none⟩ = some (.slice s2 p.length m2)) (first | assumption | exact ⟨f1, f2⟩ | go_keep) (first | (go_at_call 12; with_reducible refine (C.out _ ?hb).mono ?_; (case hb => (first | exact Below.refl _ _ | exact (Below.refl _ _).drew | fail)); rintro e w5 ⟨rfl, ⟨y1, y2⟩, hb5⟩) | fail)
      all_goals (go_wp2_with fail; go_meet; exact ⟨rfl, hB.out.trans (hb5.mono hB.out.size)⟩)
    case rest =>
      obtain ⟨rfl, hB2⟩ := hcut
      clear f1 f2 C
      go_wp2
      go_roundw
      case rel => exact ⟨k + 1, by omega, by go_num, hB2⟩
      case measure => simp [intOf]; omega
  · obtain rfl : k = n := by omega
    go_wp2
    go_ret
    exact ⟨rfl, hB.out⟩
end Rc
end Go.Proofs.Ytjnodkjeiogloaa
