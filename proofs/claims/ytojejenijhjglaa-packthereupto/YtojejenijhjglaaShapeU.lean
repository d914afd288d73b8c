/- Lists of plain data that came in, where all is of bulk at most 1048576: how long their texts are together. -/
import Derived.Test.YtojejenijhjglaaShape
import Derived.Test.YtojejenijhjglaaRows
namespace Go.Proofs.Ytojejenijhjglaa
namespace Fl

/-- How many letters the texts among some cells have. -/
def letters : List Value → Nat
  | [] => 0
  | .string x :: r => x.size + letters r
  | _ :: r => letters r

theorem letters_append : ∀ (a b : List Value), letters (a ++ b) = letters a + letters b
  | [], b => by simp [letters]
  | v :: a, b => by
    have := letters_append a b
    cases v <;> simp [letters, this] <;> omega

mutual
theorem flat_letters {H : Type} : ∀ (d : DataW H), letters (flat d) + 1 ≤ Rows.uptoBulk d
  | .lit (.int k n) => by simp [flat, letters, Rows.uptoBulk]
  | .lit (.bool b) => by simp [flat, letters, Rows.uptoBulk]
  | .lit (.string s) => by simp [flat, letters, Rows.uptoBulk, ByteArray.size]
  | .agg ds => by
    have := flatAll_letters ds
    simp only [flat, Rows.uptoBulk]
    omega
  | .nil => by simp [flat, letters, Rows.uptoBulk]
  | .ptr d => by simp [flat, letters, Rows.uptoBulk]
  | .slice a b => by simp [flat, letters, Rows.uptoBulk]
  | .iface t d => by simp [flat, letters, Rows.uptoBulk]
  | .map e => by simp [flat, letters, Rows.uptoBulk]
  | .held h => by simp [flat, letters, Rows.uptoBulk]
  | .lit (.float k x) => by simp [flat, letters, Rows.uptoBulk]
  | .lit .nil => by simp [flat, letters, Rows.uptoBulk]
theorem flatAll_letters {H : Type} : ∀ (ds : List (DataW H)), letters (flatAll ds) ≤ Rows.uptoBulkAll ds
  | [] => by simp [flatAll, letters]
  | d :: r => by
    have h1 := flat_letters d
    have h2 := flatAll_letters r
    simp only [flatAll, Rows.uptoBulkAll, letters_append]
    omega
end

theorem map_letters {H : Type} (D : Nat → DataW H) : ∀ (is : List Nat), (is.map fun i => letters (flat (D i)) + 1).sum ≤ Rows.uptoBulkAll (is.map D)
  | [] => by simp
  | i :: is => by
    have h1 := flat_letters (D i)
    have h2 := map_letters D is
    simp only [List.map_cons, List.sum_cons, Rows.uptoBulkAll]
    omega

theorem rows_of_upto {H : Type} {enc : TypeId × Value → H} {P : Program} {W : World} {base : Nat} {sp : Nat → Bool} {held : Bool} {v : Value} {d : DataW H} {p : List MemPlace} {t e : TypeId} (k : Nat) (ho : okT P k e = true) (hpos : 0 < P.cellsOf e) (hu : P.underlying t = some (.slice e))
    (hv : ∃ a len cap, v = .slice a len cap) (h : ∃ fuel, DataW.trod enc P W base sp held fuel t v.cells.toList = some (d, p)) :
    ∃ a len cap, v = .slice a len cap ∧ len ≤ cap ∧ cap ≤ maxLen ∧ ∃ C : Nat → List Value, ((List.range len).map fun i => letters (C i) + 1).sum ≤ Rows.uptoBulk d ∧ (0 < len → ∃ g o, a = some ⟨g, o, none⟩ ∧ ∀ i, i < len → W.rangeAt g (o + i * P.cellsOf e) (C i) ∧ (C i).length = P.cellsOf e ∧ M2 (shape P k e) (C i)) := by
  obtain ⟨a0, len0, cap0, rfl⟩ := hv
  obtain ⟨fuel, hf⟩ := h
  rcases Go.Deep.open_slice hu hf with ⟨hcs, hx⟩ | ⟨a, len, cap, m, n, D, Pl, hcs, hb, hl, hm, hme, hx, hel⟩
  · simp [Value.cells] at hcs
    obtain ⟨rfl, rfl, rfl⟩ := hcs
    exact ⟨_, _, _, rfl, Nat.le_refl _, by unfold maxLen; omega, fun _ => [], by simp, fun h => by simp at h⟩
  · simp [Value.cells] at hcs
    obtain ⟨rfl, rfl, rfl⟩ := hcs
    have hlm : len0 ≤ m := by rw [hme]; split <;> omega
    have e1 : d = .slice ((List.range len0).map D) ((List.range (m - len0)).map fun j => D (len0 + j)) := (Prod.mk.inj hx).1
    refine ⟨_, _, _, rfl, hl, hm, fun i => flat (D i), ?_, fun h0 => ?_⟩
    · rw [e1]
      have := map_letters D (List.range len0)
      simp only [Rows.uptoBulk]
      omega
    · have part : ∀ i, i < len0 → W.cells? base (a.add (i * P.cellsOf e)) (P.cellsOf e) = some (flat (D i)) ∧ M2 (shape P k e) (flat (D i)) := fun i hi => by
        obtain ⟨cs, h1, h2⟩ := hel i (by omega)
        have e2 := flat_of k e _ _ _ _ ho h2
        exact ⟨by rw [← e2]; exact h1, shape_of k e _ _ _ _ ho h2⟩
      obtain ⟨h1, _⟩ := part 0 h0
      obtain ⟨_, hl1, hc1⟩ := World.cells?_some h1
      have z0 := hc1 0 hpos
      rw [Nat.zero_mul] at z0
      obtain ⟨g, o, spt⟩ := a
      have hsp : spt = none := by
        rw [show ((⟨g, o, spt⟩ : Addr).add 0).add 0 = ⟨g, o, spt⟩ by simp [Addr.add]] at z0
        rw [List.getElem?_eq_getElem (by omega)] at z0
        unfold World.cell? at z0
        split at z0
        · cases spt with
          | none => rfl
          | some x => simp at z0
        · cases z0
      subst hsp
      refine ⟨g, o, rfl, fun i hi => ?_⟩
      obtain ⟨h2, h3⟩ := part i hi
      obtain ⟨_, hl2, hc2⟩ := World.cells?_some h2
      refine ⟨fun c v hv => ?_, hl2, h3⟩
      have hc : c < P.cellsOf e := by
        have h5 : c < (flat (D i)).length := (List.getElem?_eq_some_iff.1 hv).1
        omega
      have := hc2 c hc
      rw [Addr.add_mid, Addr.add_mid] at this
      rw [this, hv]
end Fl
end Go.Proofs.Ytojejenijhjglaa
