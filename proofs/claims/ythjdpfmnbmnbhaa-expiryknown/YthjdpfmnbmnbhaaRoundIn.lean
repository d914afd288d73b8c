/- A region that draws its order, within a round of a loop over an iterator: at the wide fence a round changes nothing for operations that defer nothing; so such a region goes by the laws outside of rounds. No program is named here. -/
import Derived.Test.YthjdpfmnbmnbhaaRange
import Derived.OrdersIn
import Derived.Deep.RegionHeld
namespace Go.Proofs.Ythjdpfmnbmnbhaa
open Go.RowKit
namespace Rn
set_option linter.unusedVariables false

/-- No operation defers. -/
def calm (ops : Array Oper) : Bool := ops.all (fun o => match o.op with | .defer _ => false | _ => true)

theorem calm_at {ops : Array Oper} (h : calm ops = true) (i : Nat) (o : Oper) (ho : ops[i]? = some o) : ∀ c, o.op ≠ .defer c := fun c e => by
  obtain ⟨hi, rfl⟩ := Array.getElem?_eq_some_iff.1 ho
  have := Array.all_eq_true.1 h i hi
  rw [e] at this
  cases this

section
variable {n l : Nat} {P : Program} {ops : Array Oper} {Q : Exit → Act → World → Prop}

theorem op_round {o : Oper} {a : Act} {w : World} {K : Act → World → Prop} (hd : ∀ c, o.op ≠ .defer c) (h : o.wpIn Fence.wide n P a w K Q) : o.wpIn (Fence.wide.inRound l) n P a w K Q := by
  unfold Oper.wpIn at h ⊢
  refine ⟨h.1, ?_⟩
  have h2 := h.2
  rw [show (Fence.wide).round = none from rfl, Oper.semAt_none] at h2
  rw [show (Fence.wide.inRound l).round = some l from rfl, Oper.semAt_some l _ _ hd]
  exact h2

theorem ops_round (hd : calm ops = true) : ∀ (is : List Nat) (a : Act) (w : World), wpOpsIn Fence.wide n P ops Q is a w → wpOpsIn (Fence.wide.inRound l) n P ops Q is a w
  | [], _, _, h => h
  | i :: rest, a, w, h => by
    unfold wpOpsIn at h ⊢
    cases ho : ops[i]? with
    | none =>
      simp only [ho] at h ⊢
      exact ops_round hd rest a w h
    | some o =>
      simp only [ho] at h ⊢
      split
      · rename_i hw
        rw [if_pos hw] at h
        exact op_round (calm_at hd i o ho) (Oper.wpIn_mono (fun a w => ops_round hd rest a w) h)
      · rename_i hw
        rw [if_neg hw] at h
        exact ⟨h.1, ops_round hd rest _ _ h.2⟩

/-- A region in a round, by the laws outside of rounds. -/
theorem region_round {id : Nat} {a : Act} {w : World} (hd : calm ops = true) (hm : P.follows .mixedOrders = true)
    (h : wpAnyIn Fence.wide n P .any ops Q ops.size (Array.replicate ops.size false) a w.drew) : (Code.region id ops true).wpIn (Fence.wide.inRound l) n P Q a w :=
  wpIn_region_draw fun t => by
    simp only [Region.schedule, hm, Bool.true_or, if_true]
    exact ops_round hd _ _ _ (wpAnyIn_sound ops.size t _ a _ h)

theorem op_wide {o : Oper} {a : Act} {w : World} {K : Act → World → Prop} (h : o.wp P a w K Q) : o.wpIn Fence.wide n P a w K Q := by
  unfold Oper.wp at h
  unfold Oper.wpIn
  refine ⟨fun _ _ => trivial, ?_⟩
  rw [show (Fence.wide).round = none from rfl, Oper.semAt_none]
  generalize (execOp a.eval o).run P w = r at h ⊢
  cases r with
  | ok x w' =>
    cases x
    case value v => exact h
    case skip => exact h
    case defer d => exact h
    case enter f args => exact ⟨(fun e => by cases e), callsIn_wide.2 h⟩
    case row row args =>
      refine ⟨(fun e => by cases e), fun c cs _ => ?_⟩
      obtain ⟨v, w2, h1, h2⟩ := h c cs
      exact ⟨v, w2, h1, stepsIn_wide.2 h2⟩
    all_goals exact h.elim
  | halt x w' =>
    cases x
    case panic v => exact h
    all_goals exact h.elim

theorem any_wide {md : Region.Mode} (hQ : ∀ a w, ¬ Q .outgrown a w) : ∀ (f : Nat) (dn : Array Bool) (a : Act) (w : World), wpAny P md ops Q f dn a w → wpAnyIn Fence.wide n P md ops Q f dn a w
  | 0, _, _, _, h => h
  | f + 1, dn, a, w, h => ⟨h.1, fun i hi => by
      have h1 := h.2 i hi
      unfold wpOp at h1
      unfold wpOpIn
      cases ho : ops[i]? with
      | none =>
        simp only [ho] at h1 ⊢
        exact any_wide hQ f _ a w h1
      | some o =>
        simp only [ho] at h1 ⊢
        split
        · rename_i hw
          rw [if_pos hw] at h1
          rcases h1 with h1 | ⟨_, a', w', h1⟩
          · exact Oper.wpIn_mono (fun a w => any_wide hQ f _ a w) (op_wide h1)
          · exact (hQ a' w' h1).elim
        · rename_i hw
          rw [if_neg hw] at h1
          exact ⟨fun _ _ => trivial, any_wide hQ f _ _ _ h1⟩⟩

/-- A region in a round that hands out nothing. -/
theorem region_calls {id : Nat} {a : Act} {w : World} {S : World → Prop} (hQ : ∀ a w, ¬ Q .outgrown a w) (hd : calm ops = true) (hm : P.follows .mixedOrders = true) (hS : S w.drew)
    (h : S w.drew → wpAnyH P .any ops Q S ops.size (Array.replicate ops.size false) a w.drew) : (Code.region id ops true).wpIn (Fence.wide.inRound l) n P Q a w :=
  region_round hd hm (any_wide hQ _ _ _ _ (wpAny_of_held _ _ _ _ (h hS)))

/-- One operation, at the wide fence. -/
theorem op_value {o : Oper} {a : Act} {w w' : World} {v : Value} {K : Act → World → Prop} {p : Prop} [Decidable p] {p' : Prop} (hp : p) (hr : (execOp a.eval o).run P w = .ok (.value v) w') (h : K (a.put o.dst v) w') : if p then o.wpIn Fence.wide n P a w K Q else p' := by
  rw [if_pos hp]
  unfold Oper.wpIn
  refine ⟨fun _ _ => trivial, ?_⟩
  rw [show (Fence.wide).round = none from rfl, Oper.semAt_none, hr]
  exact h

theorem op_call {o : Oper} {a : Act} {w w' : World} {f : FuncId} {args : Array Value} {R : Ending → World → Prop} {K : Act → World → Prop} {p : Prop} [Decidable p] {p' : Prop} (hp : p) (hr : (execOp a.eval o).run P w = .ok (.enter f args) w') (hc : Calls P f args w' R) (h : ∀ e w2, R e w2 → ∃ v, e = .returned v ∧ K (a.put o.dst v) w2) : if p then o.wpIn Fence.wide n P a w K Q else p' := by
  rw [if_pos hp]
  unfold Oper.wpIn
  refine ⟨fun _ _ => trivial, ?_⟩
  rw [show (Fence.wide).round = none from rfl, Oper.semAt_none, hr]
  refine ⟨(fun e => by cases e), CallsIn.mono (callsIn_wide.2 hc) ?_⟩
  intro e w2 hR
  obtain ⟨v, rfl, hk⟩ := h e w2 hR
  exact hk

theorem op_yield {o : Oper} {a : Act} {w : World} {l : Nat} {args : Array Value} {R : Ending → World → Prop} {K : Act → World → Prop} {p : Prop} [Decidable p] {p' : Prop} (hp : p) (hy : YieldAt Fence.wide (n - 1) P l args w R) (hr : (execOp a.eval o).run P w = (Instr.yield l args).run P w) (h : ∀ e w2, R e w2 → ∃ v, e = .returned v ∧ K (a.put o.dst v) w2) : if p then o.wpIn Fence.wide n P a w K Q else p' := by
  obtain ⟨fn, tmps, assign, body, h1, h2⟩ := hy
  rw [if_pos hp]
  unfold Oper.wpIn
  refine ⟨fun _ _ => trivial, ?_⟩
  rw [show (Fence.wide).round = none from rfl, Oper.semAt_none, hr, h1]
  refine ⟨(fun e => by cases e), RoundIn.mono h2 ?_⟩
  intro e w2 hR
  obtain ⟨v, rfl, hk⟩ := h e w2 hR
  exact hk
end
end Rn
end Go.Proofs.Ythjdpfmnbmnbhaa
