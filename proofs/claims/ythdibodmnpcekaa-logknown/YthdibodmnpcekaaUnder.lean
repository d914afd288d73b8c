/- The calls Under and Compare of package names, each as a plain function of the texts' bytes. -/
import Derived.Test.YthdibodmnpcekaaParts
namespace Go.Proofs.Ythdibodmnpcekaa
open Go.RowKit
namespace Nm

/-- An owned row of texts, as a slice value with its cells. -/
theorem own_slice {w : World} {base : Nat} {v : Value} {ps : List (List UInt8)} (h : w.ownsRow base 9 1 v ps.length (ps.map txt)) :
    ∃ a cap, v = .slice a ps.length cap ∧ ps.length ≤ cap ∧ cap ≤ maxLen ∧ (0 < ps.length → ∃ g, a = some ⟨g, 0, none⟩ ∧ base ≤ g ∧ g < w.heap.size ∧ ∀ j (hj : j < ps.length), w.cell? ⟨g, j, none⟩ = some (.string (B ps[j]))) := by
  rcases h.2 with ⟨rfl, hn⟩ | ⟨g, cap, cur, rfl, hbg, hgg, h1, h2, h3, h4⟩
  · exact ⟨none, 0, by rw [hn], by omega, by decide, fun h => by omega⟩
  · refine ⟨_, cap, rfl, h1, h2, fun _ => ⟨g, rfl, hbg, (Array.getElem?_eq_some_iff.1 hgg).1, fun j hj => ?_⟩⟩
    have e : cur.toList[j]? = some (txt ps[j]) := by
      have := congrArg (fun l => l[j]?) h4
      simp only [Nat.mul_one] at this
      rw [List.getElem?_take_of_lt hj] at this
      rw [this]
      simp [hj]
    have e2 : cur[j]? = some (txt ps[j]) := by rw [← Array.getElem?_toList]; exact e
    simp [World.cell?, hgg, e2, txt]

theorem B_inj {a b : List UInt8} (h : B a = B b) : a = b := by
  have := congrArg (fun s => s.data.toList) h
  exact this

theorem mapB_inj {a b : List (List UInt8)} : a.map B = b.map B ↔ a = b := by
  constructor
  · intro h
    induction a generalizing b with
    | nil => cases b with
      | nil => rfl
      | cons y b => simp at h
    | cons x a ih => cases b with
      | nil => simp at h
      | cons y b =>
        simp only [List.map_cons, List.cons.injEq] at h
        rw [B_inj h.1, ih h.2]
  · rintro rfl; rfl

theorem getD_map (ps : List (List UInt8)) (j : Nat) (hj : j < (ps.map B).length) : (ps.map B).getD j ByteArray.empty = B (ps[j]'(by simpa using hj)) := by
  have hj' : j < ps.length := by simpa using hj
  simp [List.getD, hj']

theorem under_is {a b : List UInt8} {pa pb : List (List UInt8)} (h1 : partsL a = pa) (h2 : partsL b = pb) (h3 : 0 < pb.length) (h4 : pb.length ≤ pa.length) :
    decide (List.take pb.length (List.map B pa) = List.take pb.length (List.map B pb)) = underB a b := by
  have e : (List.take pb.length (List.map B pa) = List.take pb.length (List.map B pb)) ↔ (pa.take pb.length = pb) := by
    rw [← List.map_take, ← List.map_take, mapB_inj, List.take_length]
  rw [Bool.eq_iff_iff, decide_eq_true_eq, e]
  unfold underB
  rw [h1, h2]
  simp [h3, h4]

/-! Compare -/
theorem ret_int {k : IntKind} {a b : Int} (h : a = b) : Ending.returned (.int k a) = .returned (.int k b) := by rw [h]

theorem cmp_neq (a b : List UInt8) (h : Lib.compareBytes (hd a) (hd b) ≠ 0) : cmpT a b = Lib.compareBytes (hd a) (hd b) := by
  unfold cmpT; rw [pieces_eq a, pieces_eq b]; simp [cmpP, h]
theorem cmp_eq (a b : List UInt8) (h : Lib.compareBytes (hd a) (hd b) = 0) : cmpT a b = cmpP (if dotB a then pieces (tl a) else []) (if dotB b then pieces (tl b) else []) := by
  unfold cmpT; rw [pieces_eq a, pieces_eq b]; simp [cmpP, h]
theorem cmp_ff (a b : List UInt8) (h : Lib.compareBytes (hd a) (hd b) = 0) (ha : dotB a = false) (hb : dotB b = false) : cmpT a b = 0 := by
  rw [cmp_eq a b h, ha, hb]; rfl
theorem cmp_ft (a b : List UInt8) (h : Lib.compareBytes (hd a) (hd b) = 0) (ha : dotB a = false) (hb : dotB b = true) : cmpT a b = -1 := by
  rw [cmp_eq a b h, ha, hb]
  have := pieces_ne (tl b)
  cases hp : pieces (tl b) with
  | nil => exact absurd hp this
  | cons x y => rfl
theorem cmp_tf (a b : List UInt8) (h : Lib.compareBytes (hd a) (hd b) = 0) (ha : dotB a = true) (hb : dotB b = false) : cmpT a b = 1 := by
  rw [cmp_eq a b h, ha, hb]
  have := pieces_ne (tl a)
  cases hp : pieces (tl a) with
  | nil => exact absurd hp this
  | cons x y => rfl
theorem cmp_tt (a b : List UInt8) (h : Lib.compareBytes (hd a) (hd b) = 0) (ha : dotB a = true) (hb : dotB b = true) : cmpT a b = cmpT (tl a) (tl b) := by
  rw [cmp_eq a b h, ha, hb]; rfl

end Nm
end Go.Proofs.Ythdibodmnpcekaa
