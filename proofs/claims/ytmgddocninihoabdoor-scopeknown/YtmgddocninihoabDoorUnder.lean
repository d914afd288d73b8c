/- The calls Under and Compare of package names, each as a plain function of the texts' bytes. -/
import Derived.Test.YtmgddocninihoabDoorParts
namespace Go.Proofs.YtmgddocninihoabDoor
open Go.RowKit
namespace Nm

/-- An owned row of texts, as a slice value with its cells. -/
theorem own_slice {w : World} {base : Nat} {v : Value} {ps : List (List UInt8)} (h : w.ownsRow base 9 1 v ps.length (ps.map txt)) :
    ∃ a cap, v = .slice a ps.length cap ∧ ps.length ≤ cap ∧ cap ≤ maxLen ∧ (0 < ps.length → ∃ g, a = some ⟨g, 0, none⟩ ∧ base ≤ g ∧ g < w.heap.size ∧ ∀ j (hj : j < ps.length), w.cell? ⟨g, j, none⟩ = some (.string (B ps[j]))) := by
  rcases h.2 with ⟨rfl, hn⟩ | ⟨g, cap, cur, rfl, hbg, hgg, h1, h2, h3, h4⟩
  · exact ⟨none, 0, by rw [hn], by omega, by decide, fun h => by omega⟩
  · refine ⟨_, cap, rfl, h1, h2, fun _ => ⟨g, rfl, hbg, (Array.getElem?_eq_some_iff.1 hgg).1, fun j hj => ?_⟩⟩
    have e : cur.toList[j]? = some (txt ps[j]) := by
      have := congrArg (fun l => l[j]?) h4
      simp only [Nat.mul_one] at this
      rw [List.getElem?_take_of_lt hj] at this
      rw [this]
      simp [hj]
    have e2 : cur[j]? = some (txt ps[j]) := by rw [← Array.getElem?_toList]; exact e
    simp [World.cell?, hgg, e2, txt]

theorem B_inj {a b : List UInt8} (h : B a = B b) : a = b := by
  have := congrArg (fun s => s.data.toList) h
  exact this

theorem mapB_inj {a b : List (List UInt8)} : a.map B = b.map B ↔ a = b := by
  constructor
  · intro h
    induction a generalizing b with
    | nil => cases b with
      | nil => rfl
      | cons y b => simp at h
    | cons x a ih => cases b with
      | nil => simp at h
      | cons y b =>
        simp only [List.map_cons, List.cons.injEq] at h
        rw [B_inj h.1, ih h.2]
  · rintro rfl; rfl

theorem getD_map (ps : List (List UInt8)) (j : Nat) (hj : j < (ps.map B).length) : (ps.map B).getD j ByteArray.empty = B (ps[j]'(by simpa using hj)) := by
  have hj' : j < ps.length := by simpa using hj
  simp [List.getD, hj']

theorem under_is {a b : List UInt8} {pa pb : List (List UInt8)} (h1 : partsL a = pa) (h2 : partsL b = pb) (h3 : 0 < pb.length) (h4 : pb.length ≤ pa.length) :
    decide (List.take pb.length (List.map B pa) = List.take pb.length (List.map B pb)) = underB a b := by
  have e : (List.take pb.length (List.map B pa) = List.take pb.length (List.map B pb)) ↔ (pa.take pb.length = pb) := by
    rw [← List.map_take, ← List.map_take, mapB_inj, List.take_length]
  rw [Bool.eq_iff_iff, decide_eq_true_eq, e]
  unfold underB
  rw [h1, h2]
  simp [h3, h4]

set_option maxRecDepth 1000000 in
set_option maxHeartbeats 1000000 in
theorem under_l (a b : List UInt8) (w : World) (ha : a.length ≤ maxLen) (hb : b.length ≤ maxLen) :
    Calls Tryd.prog 49 #[.string (B a), .string (B b)] w fun e w' => e = .returned (.bool (underB a b)) ∧ Below w.heap.size w w' := by
  have HA : Hid (a.length ≤ maxLen) := ha
  have HB : Hid (b.length ≤ maxLen) := hb
  have ca : Hid ((partsL a).length ≤ 4) := parts_count a
  have cb : Hid ((partsL b).length ≤ 4) := parts_count b
  clear ha hb
  go_enter Tryd.func49, Tryd.ntmps49
  go_wp2_with fail
  refine (parts_l _ _ HA.out).mono ?_
  rintro e w1 ⟨v1, rfl, hown1, hb1⟩
  go_wp2_with fail
  refine (parts_l _ _ HB.out).mono ?_
  rintro e w2 ⟨v2, rfl, hown2, hb2⟩
  have hown1' := own_below hown1 hb2
  have hbel := below_then hb1 hb2
  obtain ⟨a1, cap1, rfl, hc1, hm1, hcell1⟩ := own_slice hown1'
  obtain ⟨a2, cap2, rfl, hc2, hm2, hcell2⟩ := own_slice hown2
  clear hown1 hown1' hown2 hb1 hb2
  generalize hpa : partsL a = pa at *
  generalize hpb : partsL b = pb at *
  have HPA : Hid (partsL a = pa) := hpa
  have HPB : Hid (partsL b = pb) := hpb
  clear hpa hpb
  unfold maxLen at hm1 hm2
  by_cases h0 : pb.length = 0
  · have h0b : ((pb.length : Int) == 0) = true := by rw [beq_iff_eq]; omega
    have HF : Hid (underB a b = false) := by
      show underB a b = false
      unfold underB; rw [HPB.out, h0]; rfl
    clear h0 hcell1 hcell2
    go_wp2
    go_ret
    exact ⟨ret_bool HF.out.symm, hbel⟩
  · have h0b : ((pb.length : Int) == 0) = false := by rw [beq_eq_false_iff_ne]; omega
    by_cases hlt : pa.length < pb.length
    · have HF : Hid (underB a b = false) := by
        show underB a b = false
        unfold underB; rw [HPA.out, HPB.out]; simp; omega
      clear hcell1 hcell2
      go_wp2
      go_ret
      exact ⟨ret_bool HF.out.symm, hbel⟩
    · obtain ⟨g1, rfl, _, hg1, hx1⟩ := hcell1 (by omega)
      obtain ⟨g2, rfl, _, hg2, hx2⟩ := hcell2 (by omega)
      clear hcell1 hcell2
      have HX1 : Hid (∀ j (hj : j < pa.length), w2.cell? ⟨g1, j, none⟩ = some (.string (B pa[j]))) := hx1
      have HX2 : Hid (∀ j (hj : j < pb.length), w2.cell? ⟨g2, j, none⟩ = some (.string (B pb[j]))) := hx2
      clear hx1 hx2
      go_wp2_with fail
      refine (Tryd.slices_Equal_string g1 0 pb.length cap1 g2 0 pb.length cap2 (pa.map B) (pb.map B) w2 (by simp; omega) (by simp) (by have := cb.out; omega) (by have := cb.out; omega)
        (fun j hj => by rw [getD_map pa j hj, Nat.zero_add]; exact HX1.out j (by simpa using hj)) (fun j hj => by rw [getD_map pb j hj, Nat.zero_add]; exact HX2.out j (by simpa using hj))).mono ?_
      rintro e w3 ⟨rfl, q, rfl⟩
      have HE : Hid (decide (List.take pb.length (List.map B pa) = List.take pb.length (List.map B pb)) = underB a b) := by
        exact under_is HPA.out HPB.out (by omega) (by omega)
      generalize decide (List.take pb.length (List.map B pa) = List.take pb.length (List.map B pb)) = r at *
      go_wp2
      go_ret
      exact ⟨ret_bool HE.out, below_drewN hbel _⟩

/-! Compare -/
theorem ret_int {k : IntKind} {a b : Int} (h : a = b) : Ending.returned (.int k a) = .returned (.int k b) := by rw [h]

theorem cmp_neq (a b : List UInt8) (h : Lib.compareBytes (hd a) (hd b) ≠ 0) : cmpT a b = Lib.compareBytes (hd a) (hd b) := by
  unfold cmpT; rw [pieces_eq a, pieces_eq b]; simp [cmpP, h]
theorem cmp_eq (a b : List UInt8) (h : Lib.compareBytes (hd a) (hd b) = 0) : cmpT a b = cmpP (if dotB a then pieces (tl a) else []) (if dotB b then pieces (tl b) else []) := by
  unfold cmpT; rw [pieces_eq a, pieces_eq b]; simp [cmpP, h]
theorem cmp_ff (a b : List UInt8) (h : Lib.compareBytes (hd a) (hd b) = 0) (ha : dotB a = false) (hb : dotB b = false) : cmpT a b = 0 := by
  rw [cmp_eq a b h, ha, hb]; rfl
theorem cmp_ft (a b : List UInt8) (h : Lib.compareBytes (hd a) (hd b) = 0) (ha : dotB a = false) (hb : dotB b = true) : cmpT a b = -1 := by
  rw [cmp_eq a b h, ha, hb]
  have := pieces_ne (tl b)
  cases hp : pieces (tl b) with
  | nil => exact absurd hp this
  | cons x y => rfl
theorem cmp_tf (a b : List UInt8) (h : Lib.compareBytes (hd a) (hd b) = 0) (ha : dotB a = true) (hb : dotB b = false) : cmpT a b = 1 := by
  rw [cmp_eq a b h, ha, hb]
  have := pieces_ne (tl a)
  cases hp : pieces (tl a) with
  | nil => exact absurd hp this
  | cons x y => rfl
theorem cmp_tt (a b : List UInt8) (h : Lib.compareBytes (hd a) (hd b) = 0) (ha : dotB a = true) (hb : dotB b = true) : cmpT a b = cmpT (tl a) (tl b) := by
  rw [cmp_eq a b h, ha, hb]; rfl

end Nm
end Go.Proofs.YtmgddocninihoabDoor
