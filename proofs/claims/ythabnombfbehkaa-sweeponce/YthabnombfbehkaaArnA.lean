import Derived.Test.YthabnombfbehkaaArnC
import Derived.Test.YthabnombfbehkaaArM
import Derived.Test.YthabnombfbehkaaPlace
/- The law's own look at an arena: what it holds and has free, against the document's. -/
namespace Go.Proofs.Ythabnombfbehkaa
set_option linter.ambiguousOpen false
open Go.RowKit
namespace An
open Ft Lv
set_option linter.unusedSimpArgs false
set_option linter.unusedVariables false
attribute [local go_sem] Oper.semAt_some

set_option maxRecDepth 100000 in
set_option maxHeartbeats 1000000 in
theorem eql_self (x : Slt) (w : World) : (binOp .eql 49 x.v x.v).run Try.prog w = .ok (.bool true) w := by
  unfold Slt.v Slt.cells
  go_simp

set_option maxRecDepth 100000 in
set_option maxHeartbeats 1000000 in
theorem neq_self (x : Slt) (w : World) : (binOp .neq 49 x.v x.v).run Try.prog w = .ok (.bool false) w := by
  unfold Slt.v Slt.cells
  go_simp

theorem eq_func_nil (gf : Nat) (lb : Array Value) (w : World) : (binOp BinOp.eql 40 (.func (.func gf) #[] lb) .nilFunc).run Try.prog w = .ok (.bool false) w := by kernel_rfl

/-- A load that hangs on a test that came out so. -/
theorem wpList_load_when {ops : Array Oper} {rest : List Oper} {op : Oper} {a : Act} {w : World} {Q : Exit → Act → World → Prop} (hw : Region.wanted op (yielded ops a.tmps) = true) (x : Operand) (ho : op.op = .load 49 x)
    (b : Nat) (hx : a.eval x = .pointer (some ⟨b, 0, none⟩)) (s : Slt) (hr : Lone w b s)
    (h : wpList Try.prog ops Q rest (a.put op.dst (.agg s.cells.toArray)) w) : wpList Try.prog ops Q (op :: rest) a w := by
  refine wpList_step fun K hK => ?_
  rw [if_pos hw]
  exact wp_load_mid 49 x ho b 0 hx s.cells _ hr.range Try.underlying49 rfl size_slt (hK _ _ h)

theorem Lone.below {w w' : World} {b : Nat} {x : Slt} (h : Lone w b x) (hb : Below w.heap.size w w') : Lone w' b x := (hb.block b (Array.getElem?_eq_some_iff.1 h).1).trans h

theorem Lone.grown {w w' : World} {b : Nat} {x : Slt} (h : Lone w b x) {r : Nat} (hg : w.grownBy w' (some r)) (hn : r ≠ b) : Lone w' b x := (hg.block b (Array.getElem?_eq_some_iff.1 h).1 (fun e => hn (Option.some.inj e).symm)).trans h

theorem results_bool {fn : Func} {p : Tmp} (h : fn.results = #[.cell p 4]) (tmps : Array Value) (w : World) (g : Nat) (b : Bool) (hp : tmps.getD p undef = .pointer (some ⟨g, 0, none⟩)) (hg : w.cell? ⟨g, 0, none⟩ = some (.bool b)) :
    (results fn tmps).run Try.prog w = .ok (.bool b) w := by
  have hl : (loadVar 4 ⟨g, 0, none⟩).run Try.prog w = .ok (.bool b) w := by
    simp [loadVar, go_sem, hg]
  have hp' : tmps[p]?.getD undef = .pointer (some ⟨g, 0, none⟩) := by simpa using hp
  simp [results, h, hp', asAddr, hl]

/-- A row of slots' numbers reads as l. -/
def RdN (w : World) (v : Value) (l : List Nat) : Prop :=
  ∃ a cap, v = .slice a l.length cap ∧ l.length ≤ cap ∧ cap ≤ maxLen ∧ (0 < l.length → ∃ g, a = some ⟨g, 0, none⟩ ∧ g < w.heap.size ∧ ∀ k i, l[k]? = some i → w.cell? ⟨g, k, none⟩ = some (nun i))

theorem own_rdN {w : World} {base n : Nat} {v : Value} {l : List Nat} (h : w.ownsRow base 3 1 v n (l.map nun)) : RdN w v l := by
  have hn := h.1
  rw [List.length_map, Nat.mul_one] at hn
  subst hn
  rcases h.2 with ⟨rfl, h1⟩ | ⟨b, cap, cur, rfl, hb, hc, h3, h4, h5, h6⟩
  · exact ⟨none, 0, by rw [h1], by omega, by decide, fun h => by omega⟩
  · refine ⟨_, cap, rfl, h3, h4, fun _ => ⟨b, rfl, (Array.getElem?_eq_some_iff.1 hc).1, fun k i hi => ?_⟩⟩
    have hk : k < l.length := (List.getElem?_eq_some_iff.1 hi).1
    have := h.cellAt (g := b) (cap := cap) k (by omega)
    rw [this, List.getElem?_map, hi]
    rfl

theorem RdN.below {w w' : World} {v : Value} {l : List Nat} (h : RdN w v l) (hb : Below w.heap.size w w') : RdN w' v l := by
  obtain ⟨a, cap, h1, h2, h3, h4⟩ := h
  refine ⟨a, cap, h1, h2, h3, fun h0 => ?_⟩
  obtain ⟨g, e1, e2, e3⟩ := h4 h0
  exact ⟨g, e1, Nat.lt_of_lt_of_le e2 hb.size, fun k i hi => (hb.cell (p := ⟨g, k, none⟩) e2).trans (e3 k i hi)⟩

end An
end Go.Proofs.Ythabnombfbehkaa
