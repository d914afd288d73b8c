/- SameTexts tells whether two lists of texts are the same. -/
import Derived.Test.YtjnodkjeiogloaaUnder
namespace Go.Proofs.Ytjnodkjeiogloaa
open Go.RowKit
namespace Nm

/-- The value v reads, in w, as the list of texts ps. -/
def Rd (w : World) (v : Value) (ps : List (List UInt8)) : Prop :=
  ∃ a cap, v = .slice a ps.length cap ∧ ps.length ≤ cap ∧ cap ≤ maxLen ∧ (0 < ps.length → ∃ g o, a = some ⟨g, o, none⟩ ∧ g < w.heap.size ∧ ∀ j (hj : j < ps.length), w.cell? ⟨g, o + j, none⟩ = some (.string (B ps[j])))

theorem rd_own {w : World} {base : Nat} {v : Value} {ps : List (List UInt8)} (h : w.ownsRow base 9 1 v ps.length (ps.map txt)) : Rd w v ps := by
  obtain ⟨a, cap, h1, h2, h3, h4⟩ := own_slice h
  refine ⟨a, cap, h1, h2, h3, fun h0 => ?_⟩
  obtain ⟨g, e1, _, e2, e3⟩ := h4 h0
  exact ⟨g, 0, e1, e2, fun j hj => by rw [Nat.zero_add]; exact e3 j hj⟩

theorem Rd.below {w w' : World} {v : Value} {ps : List (List UInt8)} (h : Rd w v ps) (hb : Below w.heap.size w w') : Rd w' v ps := by
  obtain ⟨a, cap, h1, h2, h3, h4⟩ := h
  refine ⟨a, cap, h1, h2, h3, fun h0 => ?_⟩
  obtain ⟨g, o, e1, e2, e3⟩ := h4 h0
  exact ⟨g, o, e1, Nat.lt_of_lt_of_le e2 hb.size, fun j hj => (hb.cell (p := ⟨g, o + j, none⟩) e2).trans (e3 j hj)⟩

theorem rd_one (w : World) (p : List UInt8) : Rd (w.alloc (.cells #[.string (B p)] 9)) (.slice (some ⟨w.heap.size, 0, none⟩) 1 1) [p] := by
  refine ⟨_, 1, rfl, Nat.le_refl _, by decide, fun _ => ⟨w.heap.size, 0, rfl, by simp, fun j hj => ?_⟩⟩
  have : j = 0 := by simpa using hj
  subst this
  simp

set_option maxRecDepth 1000000 in
set_option maxHeartbeats 1000000 in
theorem same_l (v1 v2 : Value) (ps qs : List (List UInt8)) (w : World) (h1 : Rd w v1 ps) (h2 : Rd w v2 qs) :
    Calls Try.prog 21 #[v1, v2] w fun e w' => e = .returned (.bool (decide (ps = qs))) ∧ ∃ n, w' = w.drewN n := by
  obtain ⟨a1, cap1, rfl, hc1, hm1, hcell1⟩ := h1
  obtain ⟨a2, cap2, rfl, hc2, hm2, hcell2⟩ := h2
  unfold maxLen at hm1 hm2
  by_cases hlen : ps.length = qs.length
  · have hlb : ((ps.length : Int) != (qs.length : Int)) = false := by rw [bne_eq_false_iff_eq]; omega
    have HLEN : Hid (ps.length = qs.length) := hlen
    clear hlen
    have HC1 : Hid (0 < ps.length → ∃ g o, a1 = some ⟨g, o, none⟩ ∧ g < w.heap.size ∧ ∀ j (hj : j < ps.length), w.cell? ⟨g, o + j, none⟩ = some (.string (B ps[j]))) := hcell1
    have HC2 : Hid (0 < qs.length → ∃ g o, a2 = some ⟨g, o, none⟩ ∧ g < w.heap.size ∧ ∀ j (hj : j < qs.length), w.cell? ⟨g, o + j, none⟩ = some (.string (B qs[j]))) := hcell2
    clear hcell1 hcell2
    go_enter Try.func21, Try.ntmps21
    go_wp2
    go_loopw [5] (fun i wr => ∃ k n : Nat, k ≤ ps.length ∧ i = .int .i64 k ∧ Hid (wr = w.drewN n) ∧ Hid (∀ j (hj : j < ps.length) (hj2 : j < qs.length), j < k → ps[j] = qs[j])) (fun i _ => ps.length - (intOf i).toNat)
    case atStart => exact ⟨0, 0, Nat.zero_le _, rfl, rfl, fun j _ _ h => by omega⟩
    case round =>
      obtain ⟨k, n, hk, rfl, hwr, hok⟩ := hrel
      by_cases hp : k < ps.length
      · have hp2 : k < qs.length := by have := HLEN.out; omega
        obtain ⟨g1, o1, rfl, _, hx1⟩ := HC1.out (by omega)
        obtain ⟨g2, o2, rfl, _, hx2⟩ := HC2.out (by omega)
        have hcx1 : wr.cell? ⟨g1, o1 + k, none⟩ = some (.string (B ps[k])) := by rw [hwr.out]; exact hx1 k hp
        have hcx2 : wr.cell? ⟨g2, o2 + k, none⟩ = some (.string (B qs[k])) := by rw [hwr.out]; exact hx2 k hp2
        clear hx1 hx2 HC1 HC2
        by_cases he : ps[k] = qs[k]
        · rw [← he] at hcx2
          have HE : Hid (ps[k] = qs[k]) := he
          clear he
          generalize hgx : B ps[k] = x at hcx1 hcx2
          clear hgx
          go_wp2
          go_quiet (fail)
          go_wp2
          go_roundw
          case rel =>
            refine ⟨k + 1, _, by omega, by go_num, by rw [hwr.out, World.drewN_drewN]; exact rfl, fun j hj hj2 h => ?_⟩
            rcases Nat.lt_or_ge j k with h' | h'
            · exact hok.out j hj hj2 h'
            · have : j = k := by omega
              subst this; exact HE.out
          case measure => simp [intOf]; omega
        · have hne : ((B ps[k]).toList == (B qs[k]).toList) = false := by
            rw [beq_eq_false_iff_ne, ByteArray.toList_eq, ByteArray.toList_eq]; exact he
          have HF : Hid (decide (ps = qs) = false) := by
            show decide (ps = qs) = false
            rw [decide_eq_false_iff_not]
            rintro rfl; exact he rfl
          clear he
          generalize B ps[k] = x at *
          generalize B qs[k] = y at *
          go_wp2
          go_quiet (fail)
          go_wp2
          go_ret
          exact ⟨ret_bool HF.out.symm, _, by rw [hwr.out, World.drewN_drewN]⟩
      · have HF : Hid (decide (ps = qs) = true) := by
          show decide (ps = qs) = true
          rw [decide_eq_true_eq]
          have hl := HLEN.out
          exact List.ext_getElem hl (fun i h1 h2 => hok.out i h1 h2 (by omega))
        clear HC1 HC2
        go_wp2
        go_ret
        exact ⟨ret_bool HF.out.symm, _, hwr.out⟩
  · have hlb : ((ps.length : Int) != (qs.length : Int)) = true := by rw [bne_iff_ne]; omega
    have HF : Hid (decide (ps = qs) = false) := by
      show decide (ps = qs) = false
      rw [decide_eq_false_iff_not]
      rintro rfl; exact hlen rfl
    clear hcell1 hcell2 hlen
    go_enter Try.func21, Try.ntmps21
    go_wp2
    go_ret
    exact ⟨ret_bool HF.out.symm, 0, rfl⟩
end Nm
end Go.Proofs.Ytjnodkjeiogloaa
