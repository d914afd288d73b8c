/- Layer 22: the document's below. -/
import Derived.Test.YtbgggekkkcefcabDoorGrA
namespace Go.Proofs.YtbgggekkkcefcabDoor
set_option linter.ambiguousOpen false
open Go.RowKit
namespace Gr
set_option linter.unusedVariables false
set_option linter.unusedSimpArgs false

theorem wrap_small {n : Int} (h1 : 0 ≤ n) (h2 : n ≤ 1048576) : wrap64 n = n := by
  unfold wrap64
  omega
theorem three_below (w : World) (a b c : Obj) : Below w.heap.size w (((w.alloc a).alloc b).alloc c) := (two_below w a b).alloc (by simp; omega) _

theorem three_at (w : World) (a b c : Obj) : (((w.alloc a).alloc b).alloc c).heap[w.heap.size + 2]? = some c := by
  have := heap_alloc_new ((w.alloc a).alloc b) c
  simpa using this

set_option maxRecDepth 100000 in
set_option maxHeartbeats 1000000 in
theorem rbelow_any (p : Sn) (r : Rq) (now births : Int) (w : World) (hr : r.fit) :
    Calls Tryd.prog 49 #[p.v, r.v, nu now, nu births] w fun e w' => (∃ B, (0 ≤ births → births < 1048576 → B = births + 1) ∧ e = .returned (.tuple #[(orS (belowE p r now) { belowS p r now births with birth := B }).v, nu (belowE p r now)])) ∧ Below w.heap.size w w' := by
  obtain ⟨h1, h2, h3, h4, h5⟩ := hr
  have cU := runtil_any now r.life p.deadline
  have cN := fun w => rname_c r.label w h2
  have hv : r.v = .agg #[.string r.user, .string r.label, su r.scopes, nu r.level, nu r.life] := rfl
  have hp : p.v = .agg #[nu p.slot, nu p.birth, nu p.us, nu p.ub, nu p.kind, .string p.user, .string p.label, su p.scopes, nu p.level, nu p.born, nu p.deadline, nu p.depth] := rfl
  rw [hv, hp]
  unfold belowE
  clear hv hp
  by_cases hu : nmB r.label = false
  · rw [hu] at cN
    simp only [hu, if_true]
    generalize (if Ck.untilB now r.life p.deadline = true then Ck.untilI now r.life p.deadline else 0) = D at cU
    generalize (if Ck.untilB now r.life p.deadline = true then (0 : Int) else 12) = U at cU
    clear hu
    go_enter Tryd.func49, Tryd.ntmps49
    go_wp2_with (first | (go_at_call 44; refine (cU _).mono ?_; rintro e w1 ⟨rfl, rfl⟩) | (go_at_call 45; refine (cN _).mono ?_; rintro e w1 ⟨rfl, rfl⟩))
    refine bodyPost_ret (results_sn rfl _ _ (w.heap.size + 2) zeroS rfl (three_at _ _ _ _)) rfl ⟨⟨births + 1, fun _ _ => rfl, rfl⟩, three_below _ _ _ _⟩
  rw [Bool.not_eq_false] at hu
  rw [hu] at cN
  simp only [hu, Bool.true_eq_false, if_false]
  by_cases hU : Ck.untilB now r.life p.deadline = false
  · simp only [hU, if_true, Bool.false_eq_true, if_false] at cU ⊢
    clear hu hU
    go_enter Tryd.func49, Tryd.ntmps49
    go_wp2_with (first | (go_at_call 44; refine (cU _).mono ?_; rintro e w1 ⟨rfl, rfl⟩) | (go_at_call 45; refine (cN _).mono ?_; rintro e w1 ⟨rfl, rfl⟩))
    refine bodyPost_ret (results_sn rfl _ _ (w.heap.size + 2) zeroS rfl (three_at _ _ _ _)) rfl ⟨⟨births + 1, fun _ _ => rfl, rfl⟩, three_below _ _ _ _⟩
  rw [Bool.not_eq_false] at hU
  simp only [hU, if_true, Bool.true_eq_false, if_false] at cU ⊢
  generalize hD : Ck.untilI now r.life p.deadline = D at cU
  clear hu hU
  by_cases d1 : p.depth < 0
  · simp only [d1, true_or, if_true]
    go_enter Tryd.func49, Tryd.ntmps49
    go_wp2_with (first | (go_at_call 44; refine (cU _).mono ?_; rintro e w1 ⟨rfl, rfl⟩) | (go_at_call 45; refine (cN _).mono ?_; rintro e w1 ⟨rfl, rfl⟩))
    refine bodyPost_ret (results_sn rfl _ _ (w.heap.size + 2) zeroS rfl (three_at _ _ _ _)) rfl ⟨⟨births + 1, fun _ _ => rfl, rfl⟩, three_below _ _ _ _⟩
  by_cases d2 : 6 ≤ p.depth
  · simp only [d2, or_true, if_true]
    go_enter Tryd.func49, Tryd.ntmps49
    go_wp2_with (first | (go_at_call 44; refine (cU _).mono ?_; rintro e w1 ⟨rfl, rfl⟩) | (go_at_call 45; refine (cN _).mono ?_; rintro e w1 ⟨rfl, rfl⟩))
    refine bodyPost_ret (results_sn rfl _ _ (w.heap.size + 2) zeroS rfl (three_at _ _ _ _)) rfl ⟨⟨births + 1, fun _ _ => rfl, rfl⟩, three_below _ _ _ _⟩
  simp only [d1, d2, false_or, if_false]
  have d3 : 0 ≤ p.depth := by omega
  have d4 : p.depth < 6 := by omega
  go_enter Tryd.func49, Tryd.ntmps49
  go_wp2_with (first | (go_at_call 44; refine (cU _).mono ?_; rintro e w1 ⟨rfl, rfl⟩) | (go_at_call 45; refine (cN _).mono ?_; rintro e w1 ⟨rfl, rfl⟩))
  refine bodyPost_ret (results_sn rfl _ _ (w.heap.size + 2) ⟨0, wrap64 (births + 1), p.slot, p.birth, 0, p.user, r.label, 0, 0, now, D, p.depth + 1⟩ rfl (three_at _ _ _ _)) rfl ⟨⟨wrap64 (births + 1), fun a b => ?_, ?_⟩, three_below _ _ _ _⟩
  · exact wrap_small (by omega) (by omega)
  · rw [orS, if_pos rfl, belowS, hD]
    rfl
end Gr
end Go.Proofs.YtbgggekkkcefcabDoor
