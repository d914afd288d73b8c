import Derived.Test.YthabnombfbehkaaDoorArnC
import Derived.Test.YthabnombfbehkaaDoorArM
import Derived.Test.YthabnombfbehkaaDoorPlace
/- The law's own look at an arena: what it holds and has free, against the document's. -/
namespace Go.Proofs.YthabnombfbehkaaDoor
set_option linter.ambiguousOpen false
open Go.RowKit
namespace An
open Ft Lv
set_option linter.unusedSimpArgs false
set_option linter.unusedVariables false
attribute [local go_sem] Oper.semAt_some

set_option maxRecDepth 100000 in
set_option maxHeartbeats 1000000 in
theorem eql_self (x : Slt) (w : World) : (binOp .eql 54 x.v x.v).run Tryd.prog w = .ok (.bool true) w := by
  unfold Slt.v Slt.cells
  go_simp

set_option maxRecDepth 100000 in
set_option maxHeartbeats 1000000 in
theorem neq_self (x : Slt) (w : World) : (binOp .neq 54 x.v x.v).run Tryd.prog w = .ok (.bool false) w := by
  unfold Slt.v Slt.cells
  go_simp

theorem eq_func_nil (gf : Nat) (lb : Array Value) (w : World) : (binOp BinOp.eql 40 (.func (.func gf) #[] lb) .nilFunc).run Tryd.prog w = .ok (.bool false) w := by kernel_rfl

/-- A load that hangs on a test that came out so. -/
theorem wpList_load_when {ops : Array Oper} {rest : List Oper} {op : Oper} {a : Act} {w : World} {Q : Exit → Act → World → Prop} (hw : Region.wanted op (yielded ops a.tmps) = true) (x : Operand) (ho : op.op = .load 54 x)
    (b : Nat) (hx : a.eval x = .pointer (some ⟨b, 0, none⟩)) (s : Slt) (hr : Lone w b s)
    (h : wpList Tryd.prog ops Q rest (a.put op.dst (.agg s.cells.toArray)) w) : wpList Tryd.prog ops Q (op :: rest) a w := by
  refine wpList_step fun K hK => ?_
  rw [if_pos hw]
  exact wp_load_mid 54 x ho b 0 hx s.cells _ hr.range Tryd.underlying54 rfl size_slt (hK _ _ h)

theorem Lone.below {w w' : World} {b : Nat} {x : Slt} (h : Lone w b x) (hb : Below w.heap.size w w') : Lone w' b x := (hb.block b (Array.getElem?_eq_some_iff.1 h).1).trans h

theorem Lone.grown {w w' : World} {b : Nat} {x : Slt} (h : Lone w b x) {r : Nat} (hg : w.grownBy w' (some r)) (hn : r ≠ b) : Lone w' b x := (hg.block b (Array.getElem?_eq_some_iff.1 h).1 (fun e => hn (Option.some.inj e).symm)).trans h

theorem plainA (n : Nat) (h : n ≤ 24) (w : World) (hg : Er.Handle w) : Calls Tryd.prog 35 #[errE n, nu n] w fun e w' => e = .returned (.bool true) ∧ Below w.heap.size w w' := by
  cases n with
  | zero => exact Er.plain_nil 0 w
  | succ n =>
    have := Er.plain_no (n + 1) ((n + 1 : Nat) : Int) (by omega) h w hg
    rw [decide_eq_true rfl] at this
    exact this

theorem results_bool {fn : Func} {p : Tmp} (h : fn.results = #[.cell p 4]) (tmps : Array Value) (w : World) (g : Nat) (b : Bool) (hp : tmps.getD p undef = .pointer (some ⟨g, 0, none⟩)) (hg : w.cell? ⟨g, 0, none⟩ = some (.bool b)) :
    (results fn tmps).run Tryd.prog w = .ok (.bool b) w := by
  have hl : (loadVar 4 ⟨g, 0, none⟩).run Tryd.prog w = .ok (.bool b) w := by
    simp [loadVar, go_sem, hg]
  have hp' : tmps[p]?.getD undef = .pointer (some ⟨g, 0, none⟩) := by simpa using hp
  simp [results, h, hp', asAddr, hl]

/-- A row of slots' numbers reads as l. -/
def RdN (w : World) (v : Value) (l : List Nat) : Prop :=
  ∃ a cap, v = .slice a l.length cap ∧ l.length ≤ cap ∧ cap ≤ maxLen ∧ (0 < l.length → ∃ g, a = some ⟨g, 0, none⟩ ∧ g < w.heap.size ∧ ∀ k i, l[k]? = some i → w.cell? ⟨g, k, none⟩ = some (nun i))

theorem own_rdN {w : World} {base n : Nat} {v : Value} {l : List Nat} (h : w.ownsRow base 3 1 v n (l.map nun)) : RdN w v l := by
  have hn := h.1
  rw [List.length_map, Nat.mul_one] at hn
  subst hn
  rcases h.2 with ⟨rfl, h1⟩ | ⟨b, cap, cur, rfl, hb, hc, h3, h4, h5, h6⟩
  · exact ⟨none, 0, by rw [h1], by omega, by decide, fun h => by omega⟩
  · refine ⟨_, cap, rfl, h3, h4, fun _ => ⟨b, rfl, (Array.getElem?_eq_some_iff.1 hc).1, fun k i hi => ?_⟩⟩
    have hk : k < l.length := (List.getElem?_eq_some_iff.1 hi).1
    have := h.cellAt (g := b) (cap := cap) k (by omega)
    rw [this, List.getElem?_map, hi]
    rfl

theorem RdN.below {w w' : World} {v : Value} {l : List Nat} (h : RdN w v l) (hb : Below w.heap.size w w') : RdN w' v l := by
  obtain ⟨a, cap, h1, h2, h3, h4⟩ := h
  refine ⟨a, cap, h1, h2, h3, fun h0 => ?_⟩
  obtain ⟨g, e1, e2, e3⟩ := h4 h0
  exact ⟨g, e1, Nat.lt_of_lt_of_le e2 hb.size, fun k i hi => (hb.cell (p := ⟨g, k, none⟩) e2).trans (e3 k i hi)⟩

set_option maxRecDepth 100000 in
set_option maxHeartbeats 1000000 in
theorem sameN (v1 v2 : Value) (l : List Nat) (w : World) (h1 : RdN w v1 l) (h2 : RdN w v2 l) :
    Calls Tryd.prog 12 #[v1, v2] w fun e w' => e = .returned (.bool true) ∧ Below w.heap.size w w' := by
  obtain ⟨a1, cap1, rfl, hc1, hm1, hcell1⟩ := h1
  obtain ⟨a2, cap2, rfl, hc2, hm2, hcell2⟩ := h2
  unfold maxLen at hm1 hm2
  obtain ⟨n, hn⟩ : ∃ n, l.length = n := ⟨_, rfl⟩
  rw [hn] at hc1 hc2 hcell1 hcell2 ⊢
  have HN := Hid.mk' hn
  have HC1 := Hid.mk' hcell1
  have HC2 := Hid.mk' hcell2
  have hnn : ((n : Int) == (n : Int)) = true := by simp
  clear hcell1 hcell2 hn
  go_enter Tryd.func12, Tryd.ntmps12
  go_wp2
  go_loopw [5] (fun iv wr => ∃ k m : Nat, k ≤ n ∧ iv = nun k ∧ Hid (wr = w.drewN m)) (fun iv _ => n - (intOf iv).toNat)
  case atStart => exact ⟨0, 0, Nat.zero_le _, rfl, rfl⟩
  case round =>
    obtain ⟨k, m, hk, rfl, hwr⟩ := hrel
    by_cases hp : k < n
    · obtain ⟨g1, rfl, _, hx1⟩ := HC1.out (by omega)
      obtain ⟨g2, rfl, _, hx2⟩ := HC2.out (by omega)
      obtain ⟨x, hx⟩ : ∃ x, l[k]? = some x := ⟨_, List.getElem?_eq_getElem (by rw [HN.out]; exact hp)⟩
      have q1 : wr.cell? ⟨g1, k, none⟩ = some (nun x) := by rw [hwr.out]; exact hx1 k x hx
      have q2 : wr.cell? ⟨g2, k, none⟩ = some (nun x) := by rw [hwr.out]; exact hx2 k x hx
      have hxx : ((x : Int) == (x : Int)) = true := by simp
      have hkI : (k : Int) < (n : Int) := by omega
      clear hx1 hx2 HC1 HC2 hx
      go_wp2
      go_quiet (fail)
      go_wp2
      go_roundw
      case rel => exact ⟨k + 1, _, by omega, by go_num, by rw [hwr.out, World.drewN_drewN]; exact rfl⟩
      case measure => simp [intOf]; omega
    · obtain rfl : k = n := by omega
      have hkI : ¬ (k : Int) < (k : Int) := by omega
      go_wp2
      go_ret
      exact ⟨rfl, by rw [hwr.out]; exact ⟨rfl, rfl, rfl, Nat.le_refl _, fun _ _ => rfl⟩⟩

end An
end Go.Proofs.YthabnombfbehkaaDoor
