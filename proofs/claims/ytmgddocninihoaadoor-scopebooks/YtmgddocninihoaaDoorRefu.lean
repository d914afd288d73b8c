/- The document's answer: Under and Compare, each as the same plain function of the texts' bytes. -/
import Derived.Test.YtmgddocninihoaaDoorRefs
namespace Go.Proofs.YtmgddocninihoaaDoor
open Go.RowKit
namespace Nm

theorem parts_of {l : List UInt8} (h : dottedB l = true) : partsL l = pieces l := by unfold partsL; rw [h]; rfl
theorem parts_not {l : List UInt8} (h : dottedB l = false) : partsL l = [] := by unfold partsL; rw [h]; rfl

theorem under_no1 {a b : List UInt8} (h : dottedB a = false) : underB a b = false := by
  unfold underB; rw [parts_not h]
  cases hp : partsL b with
  | nil => rfl
  | cons x y => simp
theorem under_no2 {a b : List UInt8} (h : dottedB b = false) : underB a b = false := by
  unfold underB; rw [parts_not h]; rfl

theorem eqs_take {pa pb : List (List UInt8)} (hl : pb.length ≤ pa.length) (h : ∀ j (hj : j < pb.length), pa[j]'(by omega) = pb[j]) : pa.take pb.length = pb := by
  apply List.ext_getElem
  · simp; omega
  · intro i h1 h2
    rw [List.getElem_take]
    exact h i h2

theorem under_yes {a b : List UInt8} (ha : dottedB a = true) (hb : dottedB b = true) (hl : (pieces b).length ≤ (pieces a).length) (h : ∀ j (hj : j < (pieces b).length), (pieces a)[j]'(by omega) = (pieces b)[j]) : underB a b = true := by
  unfold underB
  rw [parts_of ha, parts_of hb, eqs_take hl h]
  have := pieces_pos b
  simp; omega

theorem under_miss {a b : List UInt8} (ha : dottedB a = true) (hb : dottedB b = true) (j : Nat) (hj : j < (pieces b).length) (hj2 : j < (pieces a).length) (h : (pieces a)[j] ≠ (pieces b)[j]) : underB a b = false := by
  unfold underB
  rw [parts_of ha, parts_of hb, Bool.and_eq_false_iff]
  right
  rw [beq_eq_false_iff_ne]
  intro e
  apply h
  have : (List.take (pieces b).length (pieces a))[j]? = (pieces b)[j]? := by rw [e]
  rw [List.getElem?_take_of_lt hj, List.getElem?_eq_getElem hj2, List.getElem?_eq_getElem hj] at this
  exact Option.some.inj this

set_option maxRecDepth 1000000 in
set_option maxHeartbeats 1000000 in
theorem runder_l (a b : List UInt8) (w : World) (ha : a.length ≤ maxLen) (hb : b.length ≤ maxLen) :
    Calls Tryd.prog 56 #[.string (B a), .string (B b)] w fun e w' => e = .returned (.bool (underB a b)) ∧ Below w.heap.size w w' := by
  have HA : Hid (a.length ≤ maxLen) := ha
  have HB : Hid (b.length ≤ maxLen) := hb
  clear ha hb
  cases hda : dottedB a with
  | false =>
    have HF : Hid (underB a b = false) := under_no1 hda
    go_enter Tryd.func56, Tryd.ntmps56
    go_wp2_with (go_at_call 30; refine (rdotted_l _ _ HA.out).mono ?_; rintro e w1 ⟨rfl, hb1⟩)
    go_ret
    exact ⟨ret_bool HF.out.symm, hb1⟩
  | true =>
    cases hdb : dottedB b with
    | false =>
      have HF : Hid (underB a b = false) := under_no2 hdb
      go_enter Tryd.func56, Tryd.ntmps56
      go_wp2_with fail
      refine (rdotted_l _ _ HA.out).mono ?_
      rintro e w1 ⟨rfl, hb1⟩
      go_wp2_with fail
      refine (rdotted_l _ _ HB.out).mono ?_
      rintro e w2 ⟨rfl, hb2⟩
      go_wp2
      go_ret
      exact ⟨ret_bool HF.out.symm, below_then hb1 hb2⟩
    | true =>
      have HLA : Hid (a.length ≤ 16777216) := Nat.le_trans (dotted_len hda) (by decide)
      have HLB : Hid (b.length ≤ 16777216) := Nat.le_trans (dotted_len hdb) (by decide)
      have HDA : Hid (dottedB a = true) := hda
      have HDB : Hid (dottedB b = true) := hdb
      have HPA : Hid (0 < (pieces a).length) := pieces_pos a
      have HPB : Hid (0 < (pieces b).length) := pieces_pos b
      go_enter Tryd.func56, Tryd.ntmps56
      go_wp2_with fail
      refine (rdotted_l _ _ HA.out).mono ?_
      rintro e w1 ⟨rfl, hb1⟩
      go_wp2_with fail
      refine (rdotted_l _ _ HB.out).mono ?_
      rintro e w2 ⟨rfl, hb2⟩
      go_wp2_with fail
      refine (pieces_l _ _ HLA.out).mono ?_
      rintro e w3 ⟨v3, rfl, hown3, hb3⟩
      go_wp2_with fail
      refine (pieces_l _ _ HLB.out).mono ?_
      rintro e w4 ⟨v4, rfl, hown4, hb4⟩
      have hown3' := own_below hown3 hb4
      obtain ⟨a1, cap1, rfl, hc1, hm1, hcell1⟩ := own_slice hown3'
      obtain ⟨a2, cap2, rfl, hc2, hm2, hcell2⟩ := own_slice hown4
      obtain ⟨g1, rfl, _, hg1, hx1⟩ := hcell1 HPA.out
      obtain ⟨g2, rfl, _, hg2, hx2⟩ := hcell2 HPB.out
      have hbel : Below w.heap.size w w4 := below_then (below_then (below_then hb1 hb2) hb3) hb4
      have HU1 : Hid (∀ (j : Nat) (hj : j < (pieces b).length) (hj2 : j < (pieces a).length) (_ : (pieces a)[j] ≠ (pieces b)[j]), underB a b = false) := fun j hj hj2 h => under_miss hda hdb j hj hj2 h
      have HU2 : Hid (∀ (hl : (pieces b).length ≤ (pieces a).length) (_ : ∀ j (hj : j < (pieces b).length) (hj2 : j < (pieces a).length), (pieces a)[j] = (pieces b)[j]), underB a b = true) := fun hl h => under_yes hda hdb hl (fun j hj => h j hj (by omega))
      have HU3 : Hid ((pieces a).length < (pieces b).length → underB a b = false) := by
        intro h; unfold underB; rw [parts_of hda, parts_of hdb]; simp; omega
      clear hb1 hb2 hb3 hb4 hown3 hown3' hown4 hcell1 hcell2 hda hdb
      generalize pieces a = pa at *
      generalize pieces b = pb at *
      have HX1 : Hid (∀ j (hj : j < pa.length), w4.cell? ⟨g1, j, none⟩ = some (.string (B pa[j]))) := hx1
      have HX2 : Hid (∀ j (hj : j < pb.length), w4.cell? ⟨g2, j, none⟩ = some (.string (B pb[j]))) := hx2
      clear hx1 hx2
      unfold maxLen at hm1 hm2
      by_cases hlt : pa.length < pb.length
      · have HF := HU3.out hlt
        have HF' : Hid (underB a b = false) := HF
        clear HF
        go_wp2
        go_ret
        exact ⟨ret_bool HF'.out.symm, hbel⟩
      · go_wp2
        go_loopw [7] (fun i wr => ∃ k n : Nat, k ≤ pb.length ∧ i = .int .i64 k ∧ wr = w4.drewN n ∧ Hid (∀ j (hj : j < pb.length) (hj2 : j < pa.length), j < k → pa[j] = pb[j])) (fun i _ => pb.length - (intOf i).toNat)
        case atStart => exact ⟨0, 0, Nat.zero_le _, rfl, rfl, fun j _ _ h => by omega⟩
        case round =>
          obtain ⟨k, n, hk, rfl, rfl, hok⟩ := hrel
          by_cases hp : k < pb.length
          · have hp2 : k < pa.length := by omega
            have hcx1 := HX1.out k hp2
            have hcx2 := HX2.out k hp
            by_cases he : pa[k] = pb[k]
            · rw [← he] at hcx2
              have HE : Hid (pa[k] = pb[k]) := he
              clear he
              generalize hgx : B pa[k] = x at hcx1 hcx2
              clear hgx
              go_wp2
              go_quiet (fail)
              go_wp2
              go_roundw
              case rel =>
                refine ⟨k + 1, _, by omega, by go_num, rfl, fun j hj hj2 h => ?_⟩
                rcases Nat.lt_or_ge j k with h' | h'
                · exact hok.out j hj hj2 h'
                · have : j = k := by omega
                  subst this; exact HE.out
              case measure => simp [intOf]; omega
            · have hne : ((B pa[k]).toList == (B pb[k]).toList) = false := by
                rw [beq_eq_false_iff_ne, ByteArray.toList_eq, ByteArray.toList_eq]; exact he
              have HF : Hid (underB a b = false) := HU1.out k hp hp2 he
              clear he
              generalize B pa[k] = x at *
              generalize B pb[k] = y at *
              go_wp2
              go_quiet (fail)
              go_wp2
              go_ret
              exact ⟨ret_bool HF.out.symm, below_drewN (below_drewN hbel _) _⟩
          · have HF : Hid (underB a b = true) := HU2.out (by omega) (fun j hj hj2 => hok.out j hj hj2 (by omega))
            go_wp2
            go_ret
            exact ⟨ret_bool HF.out.symm, below_drewN hbel _⟩

/-! bytewise -/
theorem cb_drop (a b : List UInt8) (k : Nat) (ha : k < a.length) (hb : k < b.length) (he : a[k] = b[k]) : Lib.compareBytes (a.drop k) (b.drop k) = Lib.compareBytes (a.drop (k + 1)) (b.drop (k + 1)) := by
  rw [List.drop_eq_getElem_cons ha, List.drop_eq_getElem_cons hb, Lib.compareBytes, he]
  simp
theorem cb_less (a b : List UInt8) (k : Nat) (ha : k < a.length) (hb : k < b.length) (he : a[k].toNat < b[k].toNat) : Lib.compareBytes (a.drop k) (b.drop k) = -1 := by
  rw [List.drop_eq_getElem_cons ha, List.drop_eq_getElem_cons hb, Lib.compareBytes, if_pos (UInt8.lt_iff_toNat_lt.2 he)]
theorem cb_more (a b : List UInt8) (k : Nat) (ha : k < a.length) (hb : k < b.length) (he : b[k].toNat < a[k].toNat) : Lib.compareBytes (a.drop k) (b.drop k) = 1 := by
  rw [List.drop_eq_getElem_cons ha, List.drop_eq_getElem_cons hb, Lib.compareBytes, if_neg (by rw [UInt8.lt_iff_toNat_lt]; omega), if_pos (UInt8.lt_iff_toNat_lt.2 he)]
theorem cb_end (a b : List UInt8) (k : Nat) (h : k = a.length ∨ k = b.length) (ha : k ≤ a.length) (hb : k ≤ b.length) :
    Lib.compareBytes (a.drop k) (b.drop k) = if a.length = b.length then 0 else if a.length < b.length then -1 else 1 := by
  rcases Nat.lt_or_ge k a.length with h1 | h1
  · have : k = b.length := by omega
    subst this
    rw [List.drop_length, List.drop_eq_getElem_cons h1, if_neg (by omega), if_neg (by omega)]
    rfl
  · rw [List.drop_of_length_le h1]
    rcases Nat.lt_or_ge k b.length with h2 | h2
    · rw [List.drop_eq_getElem_cons h2, if_neg (by omega), if_pos (by omega)]; rfl
    · rw [List.drop_of_length_le h2, if_pos (by omega)]; rfl

end Nm
end Go.Proofs.YtmgddocninihoaaDoor
