import Derived.Test.YtcleeidfiaafcaaDoorTreV
import Derived.Test.YtcleeidfiaafcaaDoorTreI
/- The outright law's own rows of children and of all below. -/
namespace Go.Proofs.YtcleeidfiaafcaaDoor
set_option linter.ambiguousOpen false
open Go.RowKit
namespace Tr
open An Rg Ft Lv
set_option linter.unusedSimpArgs false
set_option linter.unusedVariables false
attribute [local go_sem] Oper.semAt_some

/-- Ints that lie there. -/
def RdJ (w : World) (v : Value) (l : List Int) : Prop :=
  ∃ a cap, v = .slice a l.length cap ∧ l.length ≤ cap ∧ cap ≤ maxLen ∧ (0 < l.length → ∃ g o, a = some ⟨g, o, none⟩ ∧ g < w.heap.size ∧ ∀ k i, l[k]? = some i → w.cell? ⟨g, o + k, none⟩ = some (nu i))

theorem rdJ_own {w : World} {base n : Nat} {v : Value} {l : List Int} (h : w.ownsRow base 3 1 v n (l.map nu)) : RdJ w v l := by
  have hl := h.1
  simp only [List.length_map, Nat.mul_one] at hl
  subst hl
  obtain ⟨a, cap, hv, h1, h2, h3⟩ := Nm.own_shape h
  refine ⟨a, cap, hv, h1, h2, fun h0 => ?_⟩
  obtain ⟨g, rfl⟩ := h3 h0
  subst hv
  refine ⟨g, 0, rfl, (h.lt g rfl).2, fun k i hk => ?_⟩
  have hkl := (List.getElem?_eq_some_iff.1 hk).1
  have := h.cellAt (g := g) (cap := cap) k (by omega)
  rw [Nat.zero_add, this, List.getElem?_map, hk]
  rfl

theorem RdJ.below {w w' : World} {v : Value} {l : List Int} (h : RdJ w v l) (hb : Below w.heap.size w w') : RdJ w' v l := by
  obtain ⟨a, cap, rfl, h1, h2, h3⟩ := h
  refine ⟨a, cap, rfl, h1, h2, fun h0 => ?_⟩
  obtain ⟨g, o, rfl, hg, hc⟩ := h3 h0
  exact ⟨g, o, rfl, Nat.lt_of_lt_of_le hg hb.size, fun k i hk => (hb.cell (p := ⟨g, o + k, none⟩) hg).trans (hc k i hk)⟩

theorem kidsU_take {up : List Int} {k : Nat} {x : Int} (hx : up[k]? = some x) (i cut : Int) : kidsU (up.take (k + 1)) i cut = kidsU (up.take k) i cut ++ (if x = i ∧ (k : Int) ≠ cut then [k] else []) := by
  have hk := (List.getElem?_eq_some_iff.1 hx).1
  have h1 : up.take (k + 1) = up.take k ++ [x] := by
    rw [List.take_add_one, hx]
    rfl
  rw [h1, kidsU_snoc, List.length_take, Nat.min_eq_left (Nat.le_of_lt hk)]

theorem kidsU_le (up : List Int) (i cut : Int) : (kidsU up i cut).length ≤ up.length := by
  unfold kidsU
  have := List.length_filter_le (fun k => decide (up.getD k 0 = i ∧ (k : Int) ≠ cut)) (List.range up.length)
  rwa [List.length_range] at this

theorem pre_len {ch : Nat → List Nat} {n : Nat} (hnd : ∀ i, i < n → (ch i).Nodup) (hlt : ∀ i k, i < n → k ∈ ch i → i < k ∧ k < n) (hun : ∀ i j k, i < n → j < n → k ∈ ch i → k ∈ ch j → i = j) : ∀ (f i : Nat), i < n → (pre ch f i).Nodup
  | 0, i, _ => by simp [pre]
  | f + 1, i, hi => by
    unfold pre
    refine List.nodup_cons.2 ⟨fun hm => ?_, ?_⟩
    · obtain ⟨k, hk, hx⟩ := List.mem_flatMap.1 hm
      have h1 := hlt i k hi hk
      have h2 := pre_ge hlt f k h1.2 i hx
      omega
    · have key : ∀ l : List Nat, (∀ k ∈ l, k ∈ ch i) → l.Nodup → (l.flatMap (pre ch f)).Nodup := by
        intro l
        induction l with
        | nil => intro _ _; simp
        | cons k r ih =>
          intro h1 h2
          obtain ⟨hkr, hr⟩ := List.nodup_cons.1 h2
          rw [List.flatMap_cons]
          refine List.nodup_append.2 ⟨pre_len hnd hlt hun f k (hlt i k hi (h1 k (by simp))).2, ih (fun y hy => h1 y (List.mem_cons_of_mem _ hy)) hr, fun x hx y hy e => ?_⟩
          subst e
          obtain ⟨z, hz, hxz⟩ := List.mem_flatMap.1 hy
          exact pre_apart hlt hun hi (h1 k (by simp)) (h1 z (List.mem_cons_of_mem _ hz)) (fun e => hkr (e ▸ hz)) f (x + 1) x (by omega) hx hxz
      exact key _ (fun k hk => hk) (hnd i hi)

/-- All below a slot: each once. -/
theorem preU_ok {up : List Int} (hu : Ups up) (hup : up.length ≤ 32) (cut : Int) (f i : Nat) (hi : i < up.length) : (pre (fun j => kidsU up j cut) f i).Nodup ∧ ∀ x ∈ pre (fun j => kidsU up j cut) f i, x < 32 := by
  have hlt : ∀ i k, i < up.length → k ∈ kidsU up i cut → i < k ∧ k < up.length := fun i k _ hk => kidsU_lt hu hk
  refine ⟨pre_len (fun i _ => kidsU_nd up i cut) hlt (fun i j k _ _ h1 h2 => ?_) f i hi, fun x hx => ?_⟩
  · have a := (mem_kidsU.1 h1).2.1
    have b := (mem_kidsU.1 h2).2.1
    omega
  · have := pre_ge hlt f i hi x hx
    omega
end Tr
end Go.Proofs.YtcleeidfiaafcaaDoor
