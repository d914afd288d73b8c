/- Rows of numbers that lie there; the law's loop: both heaps, an iterator that was got, and what it must hand out. -/
import Derived.Test.YteclbmmhidmklaaHepD
namespace Go.Proofs.Yteclbmmhidmklaa
set_option linter.ambiguousOpen false
open Go.RowKit
namespace Hh
open Ft
set_option linter.unusedSimpArgs false
set_option linter.unusedVariables false
attribute [local go_sem] Oper.semAt_some

/-- Numbers that lie there. -/
def RdZ (w : World) (v : Value) (l : List Int) : Prop :=
  ∃ a cap, v = .slice a l.length cap ∧ l.length ≤ cap ∧ cap ≤ maxLen ∧ (0 < l.length → ∃ g, a = some ⟨g, 0, none⟩ ∧ g < w.heap.size ∧ ∀ k i, l[k]? = some i → w.cell? ⟨g, k, none⟩ = some (nu i))

theorem own_rdZ {w : World} {base n : Nat} {v : Value} {l : List Int} (h : w.ownsRow base 3 1 v n (l.map nu)) : RdZ w v l := by
  have hn := h.1
  rw [List.length_map, Nat.mul_one] at hn
  subst hn
  rcases h.2 with ⟨rfl, h1⟩ | ⟨b, cap, cur, rfl, hb, hc, h3, h4, h5, h6⟩
  · exact ⟨none, 0, by rw [h1], by omega, by decide, fun h => by omega⟩
  · refine ⟨_, cap, rfl, h3, h4, fun _ => ⟨b, rfl, (Array.getElem?_eq_some_iff.1 hc).1, fun k i hi => ?_⟩⟩
    have hk : k < l.length := (List.getElem?_eq_some_iff.1 hi).1
    have := h.cellAt (g := b) (cap := cap) k (by omega)
    rw [this, List.getElem?_map, hi]
    rfl

theorem RdZ.below {w w' : World} {v : Value} {l : List Int} (h : RdZ w v l) (hb : Below w.heap.size w w') : RdZ w' v l := by
  obtain ⟨a, cap, h1, h2, h3, h4⟩ := h
  refine ⟨a, cap, h1, h2, h3, fun h0 => ?_⟩
  obtain ⟨g, e1, e2, e3⟩ := h4 h0
  exact ⟨g, e1, Nat.lt_of_lt_of_le e2 hb.size, fun k i hi => (hb.cell (p := ⟨g, k, none⟩) e2).trans (e3 k i hi)⟩

set_option maxRecDepth 100000 in
set_option maxHeartbeats 1000000 in
theorem sameZ (v1 v2 : Value) (l : List Int) (w : World) (h1 : RdZ w v1 l) (h2 : RdZ w v2 l) :
    Calls Try.prog 14 #[v1, v2] w fun e w' => e = .returned (.bool true) ∧ Below w.heap.size w w' := by
  obtain ⟨a1, cap1, rfl, hc1, hm1, hcell1⟩ := h1
  obtain ⟨a2, cap2, rfl, hc2, hm2, hcell2⟩ := h2
  unfold maxLen at hm1 hm2
  obtain ⟨n, hn⟩ : ∃ n, l.length = n := ⟨_, rfl⟩
  rw [hn] at hc1 hc2 hcell1 hcell2 ⊢
  have HN := Hid.mk' hn
  have HC1 := Hid.mk' hcell1
  have HC2 := Hid.mk' hcell2
  have hnn : ((n : Int) == (n : Int)) = true := by simp
  clear hcell1 hcell2 hn
  go_enter Try.func14, Try.ntmps14
  go_wp2
  go_loopw [5] (fun iv wr => ∃ k m : Nat, k ≤ n ∧ iv = nun k ∧ Hid (wr = w.drewN m)) (fun iv _ => n - (intOf iv).toNat)
  case atStart => exact ⟨0, 0, Nat.zero_le _, rfl, rfl⟩
  case round =>
    obtain ⟨k, m, hk, rfl, hwr⟩ := hrel
    by_cases hp : k < n
    · obtain ⟨g1, rfl, _, hx1⟩ := HC1.out (by omega)
      obtain ⟨g2, rfl, _, hx2⟩ := HC2.out (by omega)
      obtain ⟨x, hx⟩ : ∃ x, l[k]? = some x := ⟨_, List.getElem?_eq_getElem (by rw [HN.out]; exact hp)⟩
      have q1 : wr.cell? ⟨g1, k, none⟩ = some (nu x) := by rw [hwr.out]; exact hx1 k x hx
      have q2 : wr.cell? ⟨g2, k, none⟩ = some (nu x) := by rw [hwr.out]; exact hx2 k x hx
      have hxx : (x == x) = true := by simp
      have hkI : (k : Int) < (n : Int) := by omega
      clear hx1 hx2 HC1 HC2 hx
      go_wp2
      go_quiet (fail)
      go_wp2
      go_roundw
      case rel => exact ⟨k + 1, _, by omega, by go_num, by rw [hwr.out, World.drewN_drewN]; exact rfl⟩
      case measure => simp [intOf]; omega
    · obtain rfl : k = n := by omega
      have hkI : ¬ (k : Int) < (k : Int) := by omega
      go_wp2
      go_ret
      exact ⟨rfl, by rw [hwr.out]; exact ⟨rfl, rfl, rfl, Nat.le_refl _, fun _ _ => rfl⟩⟩

theorem RdZ.take {w : World} {a : Option Addr} {cap : Nat} {l : List Int} (h : RdZ w (.slice a l.length cap) l) (m : Nat) (hm : m ≤ l.length) : RdZ w (.slice a m cap) (l.take m) := by
  obtain ⟨a', cap', e, h1, h2, h3⟩ := h
  simp only [Value.slice.injEq, true_and] at e
  obtain ⟨rfl, rfl⟩ := e
  have hl : (l.take m).length = m := by rw [List.length_take]; omega
  refine ⟨a, cap, by rw [hl], by omega, h2, fun h0 => ?_⟩
  obtain ⟨g, rfl, hg, hc⟩ := h3 (by omega)
  refine ⟨g, rfl, hg, fun k i hk => hc k i ?_⟩
  rw [List.getElem?_take] at hk
  split at hk
  · exact hk
  · simp at hk

theorem slice_toZ (a : Option Addr) (len cap k : Nat) (h : k ≤ cap) (w : World) : (Instr.slice 26 (.slice a len cap) none (some (.int .i64 (k : Int))) none).run Try.prog w = .ok (.slice a k cap) w := by
  have h1 : (0 : Int) ≤ (k : Int) ∧ (k : Int) ≤ (cap : Int) := by omega
  have hu := Try.underlying26
  cases a with
  | none =>
    simp [Instr.slice, Instr.sliceBounds, Instr.sliceBound, asIntOf, run_underlying hu]
    intro hh; omega
  | some ad =>
    simp [Instr.slice, Instr.sliceBounds, Instr.sliceBound, asIntOf, run_underlying hu, Addr.add]
    intro hh; omega

theorem min_twoZ (a b : Int) (w : World) : (Builtin.min_ #[3, 3] 3 #[.int .i64 a, .int .i64 b]).run Try.prog w = .ok (.int .i64 (if b < a then b else a)) w := run_min_int2 ..

section
variable {R : RepHT} {base : Nat} {w0 w w' : World} {p t : Nat} {N : Int} {k : Nat} {fv wv : Value} {M : List It}

end
end Hh
end Go.Proofs.Yteclbmmhidmklaa
