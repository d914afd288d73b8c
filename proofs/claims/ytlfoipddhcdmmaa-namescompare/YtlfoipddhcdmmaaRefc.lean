/- The document's answer: Compare, as the same plain function of the texts' bytes. -/
import Derived.Test.YtlfoipddhcdmmaaRefu
namespace Go.Proofs.Ytlfoipddhcdmmaa
open Go.RowKit
namespace Nm

theorem cmpP_drop (p q : List (List UInt8)) (k : Nat) (hp : k < p.length) (hq : k < q.length) (h : Lib.compareBytes p[k] q[k] = 0) : cmpP (p.drop k) (q.drop k) = cmpP (p.drop (k + 1)) (q.drop (k + 1)) := by
  rw [List.drop_eq_getElem_cons hp, List.drop_eq_getElem_cons hq, cmpP, if_pos h]
theorem cmpP_at (p q : List (List UInt8)) (k : Nat) (hp : k < p.length) (hq : k < q.length) (h : Lib.compareBytes p[k] q[k] ≠ 0) : cmpP (p.drop k) (q.drop k) = Lib.compareBytes p[k] q[k] := by
  rw [List.drop_eq_getElem_cons hp, List.drop_eq_getElem_cons hq, cmpP, if_neg h]
theorem cmpP_end (p q : List (List UInt8)) (k : Nat) (h : k = p.length ∨ k = q.length) (hp : k ≤ p.length) (hq : k ≤ q.length) :
    cmpP (p.drop k) (q.drop k) = if p.length = q.length then 0 else if p.length < q.length then -1 else 1 := by
  rcases Nat.lt_or_ge k p.length with h1 | h1
  · have : k = q.length := by omega
    subst this
    rw [List.drop_length, List.drop_eq_getElem_cons h1, if_neg (by omega), if_neg (by omega)]
    rfl
  · rw [List.drop_of_length_le h1]
    rcases Nat.lt_or_ge k q.length with h2 | h2
    · rw [List.drop_eq_getElem_cons h2, if_neg (by omega), if_pos (by omega)]; rfl
    · rw [List.drop_of_length_le h2, if_pos (by omega)]; rfl

set_option maxRecDepth 1000000 in
set_option maxHeartbeats 1000000 in
theorem rcmp_l (a b : List UInt8) (w : World) (ha : a.length ≤ 16777216) (hb : b.length ≤ 16777216) :
    Calls Try.prog 20 #[.string (B a), .string (B b)] w fun e w' => e = .returned (.int .i64 (cmpT a b)) ∧ Below w.heap.size w w' := by
  have HA : Hid (a.length ≤ 16777216) := ha
  have HB : Hid (b.length ≤ 16777216) := hb
  have HPA : Hid (0 < (pieces a).length) := pieces_pos a
  have HPB : Hid (0 < (pieces b).length) := pieces_pos b
  have HQA : Hid (∀ p ∈ pieces a, p.length ≤ maxLen) := fun p hp => Nat.le_trans (piece_le a p hp) (Nat.le_trans ha (by decide))
  have HQB : Hid (∀ p ∈ pieces b, p.length ≤ maxLen) := fun p hp => Nat.le_trans (piece_le b p hp) (Nat.le_trans hb (by decide))
  clear ha hb
  go_enter Try.func20, Try.ntmps20
  go_wp2_with fail
  refine (pieces_l _ _ HA.out).mono ?_
  rintro e w3 ⟨v3, rfl, hown3, hb3⟩
  go_wp2_with fail
  refine (pieces_l _ _ HB.out).mono ?_
  rintro e w4 ⟨v4, rfl, hown4, hb4⟩
  have hown3' := own_below hown3 hb4
  obtain ⟨a1, cap1, rfl, hc1, hm1, hcell1⟩ := own_slice hown3'
  obtain ⟨a2, cap2, rfl, hc2, hm2, hcell2⟩ := own_slice hown4
  obtain ⟨g1, rfl, _, hg1, hx1⟩ := hcell1 HPA.out
  obtain ⟨g2, rfl, _, hg2, hx2⟩ := hcell2 HPB.out
  have hbel : Below w.heap.size w w4 := below_then hb3 hb4
  have HT : Hid (cmpT a b = cmpP (pieces a) (pieces b)) := rfl
  clear hb3 hb4 hown3 hown3' hown4 hcell1 hcell2
  generalize pieces a = pa at *
  generalize pieces b = pb at *
  have HX1 : Hid (∀ j (hj : j < pa.length), w4.cell? ⟨g1, j, none⟩ = some (.string (B pa[j]))) := hx1
  have HX2 : Hid (∀ j (hj : j < pb.length), w4.cell? ⟨g2, j, none⟩ = some (.string (B pb[j]))) := hx2
  clear hx1 hx2
  unfold maxLen at hm1 hm2
  go_wp2
  go_loopw [7] (fun i wr => ∃ k n : Nat, k ≤ pa.length ∧ k ≤ pb.length ∧ i = .int .i64 k ∧ Hid (wr = w4.drewN n) ∧ Hid (cmpP (pa.drop k) (pb.drop k) = cmpT a b)) (fun i _ => pa.length - (intOf i).toNat)
  case atStart => exact ⟨0, 0, Nat.zero_le _, Nat.zero_le _, rfl, rfl, HT.out.symm⟩
  case round =>
    obtain ⟨k, n, hka, hkb, rfl, hwr, hcb⟩ := hrel
    have hbr : Below w.heap.size w wr := by rw [hwr.out]; exact below_drewN hbel n
    by_cases hpa : k < pa.length
    · by_cases hpb : k < pb.length
      · have hcx1 : wr.cell? ⟨g1, k, none⟩ = some (.string (B pa[k])) := by rw [hwr.out]; exact HX1.out k hpa
        have hcx2 : wr.cell? ⟨g2, k, none⟩ = some (.string (B pb[k])) := by rw [hwr.out]; exact HX2.out k hpb
        have B1 : Hid ((pa[k]).length ≤ maxLen) := HQA.out _ (List.getElem_mem _)
        have B2 : Hid ((pb[k]).length ≤ maxLen) := HQB.out _ (List.getElem_mem _)
        have HZ : Hid (Lib.compareBytes pa[k] pb[k] = 0 → cmpP (pa.drop (k + 1)) (pb.drop (k + 1)) = cmpT a b) := fun h => by rw [← hcb.out]; exact (cmpP_drop pa pb k hpa hpb h).symm
        have HY : Hid (Lib.compareBytes pa[k] pb[k] ≠ 0 → cmpT a b = Lib.compareBytes pa[k] pb[k]) := fun h => by rw [← hcb.out]; exact cmpP_at pa pb k hpa hpb h
        generalize pa[k] = x at *
        generalize pb[k] = y at *
        have hcall : ∀ W, Calls Try.prog 30 #[.string (B x), .string (B y)] W fun e w' => e = .returned (.int .i64 (Lib.compareBytes x y)) ∧ ∃ n, w' = W.drewN n := fun W => bytewise_l x y W B1.out B2.out
        have HCALL : Hid (∀ W, Calls Try.prog 30 #[.string (B x), .string (B y)] W fun e w' => e = .returned (.int .i64 (Lib.compareBytes x y)) ∧ ∃ n, w' = W.drewN n) := hcall
        clear hcall
        generalize Lib.compareBytes x y = r at *
        by_cases h0 : r = 0
        · have HF : Hid (cmpP (pa.drop (k + 1)) (pb.drop (k + 1)) = cmpT a b) := HZ.out h0
          subst h0
          clear HZ HY
          go_wp2
          go_quiet ((go_at_call 30; exact Calls.quiet_of (HCALL.out _)))
          go_wp2
          go_roundw
          case rel => exact ⟨k + 1, _, by omega, by omega, by go_num, by rw [hwr.out, World.drewN_drewN]; exact rfl, HF⟩
          case measure => simp [intOf]; omega
        · have HF : Hid (cmpT a b = r) := HY.out h0
          have h0b : (r != 0) = true := by simp [h0]
          clear HZ HY h0
          go_wp2
          go_quiet ((go_at_call 30; exact Calls.quiet_of (HCALL.out _)))
          go_wp2
          go_ret
          exact ⟨ret_int HF.out.symm, below_drewN hbr _⟩
      · have HE : Hid (cmpT a b = if pa.length = pb.length then 0 else if pa.length < pb.length then -1 else 1) := by
          rw [← hcb.out]; exact cmpP_end pa pb k (Or.inr (by omega)) hka hkb
        have hlt : pb.length < pa.length := by omega
        have HF : Hid (cmpT a b = 1) := by
          rw [HE.out, if_neg (by omega), if_neg (by omega)]; exact rfl
        have e1 : ((pa.length : Int) == (pb.length : Int)) = false := by rw [beq_eq_false_iff_ne]; omega
        go_wp2
        go_ret
        exact ⟨ret_int HF.out.symm, hbr⟩
    · have HE : Hid (cmpT a b = if pa.length = pb.length then 0 else if pa.length < pb.length then -1 else 1) := by
        rw [← hcb.out]; exact cmpP_end pa pb k (Or.inl (by omega)) hka hkb
      by_cases hq : pa.length = pb.length
      · have HF : Hid (cmpT a b = 0) := by
          rw [HE.out, if_pos hq]; exact rfl
        have e1 : ((pa.length : Int) == (pb.length : Int)) = true := by rw [beq_iff_eq]; omega
        clear hq
        go_wp2
        go_ret
        exact ⟨ret_int HF.out.symm, hbr⟩
      · have hlt : pa.length < pb.length := by omega
        have HF : Hid (cmpT a b = -1) := by
          rw [HE.out, if_neg hq, if_pos hlt]; exact rfl
        have e1 : ((pa.length : Int) == (pb.length : Int)) = false := by rw [beq_eq_false_iff_ne]; omega
        go_wp2
        go_ret
        exact ⟨ret_int HF.out.symm, hbr⟩
end Nm
end Go.Proofs.Ytlfoipddhcdmmaa
