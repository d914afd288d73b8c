/- What each law without the document's answer asks first; who has what, kept by counting. -/
import Derived.Test.YtalpbciceogjlaaArnK
namespace Go.Proofs.Ytalpbciceogjlaa
set_option linter.ambiguousOpen false
open Go.RowKit
namespace An
open Ft Lv
set_option linter.unusedSimpArgs false
set_option linter.unusedVariables false

theorem Left.below {Rep : World → Nat → (Nat → Prop) → Arn → Prop} {w w' : World} {p B : Nat} {F : Nat → Prop} {A : Arn} (h : Left Rep w w' p F A) (hF : ∀ k, F k → B ≤ k) (hB : B ≤ w.heap.size) : ∃ G, Rep w' p G A ∧ (∀ k, G k → B ≤ k) ∧ Below B w w' := by
  obtain ⟨G, h1, h2, h3⟩ := h
  exact ⟨G, h1, fun k hk => (h3 k hk).elim (hF k) (fun h => Nat.le_trans hB h), h2.below (fun k hk hc => by have := hF k hc; omega) hB⟩

theorem neq_func_nil (gf : Nat) (lb : Array Value) (w : World) : (binOp BinOp.neq 45 (.func (.func gf) #[] lb) .nilFunc).run Try.prog w = .ok (.bool true) w := by kernel_rfl

set_option maxRecDepth 100000 in
set_option maxHeartbeats 1000000 in
theorem works_any {Rep : World → Nat → (Nat → Prop) → Arn → Prop} (CN : NewC Rep) (CT : TakeC Rep) (CX : FreeC Rep) (CF : FreesC Rep) (w : World) :
    Calls Try.prog 6 #[] w fun e w' => e = .returned (.bool true) ∧ Below w.heap.size w w' := by
  have c1 := Hid.mk' (CN w)
  have cT : Hid (∀ wx p F A, Rep wx p F A → Good A → (∀ k, F k → w.heap.size ≤ k) → Below w.heap.size w wx → Calls Try.prog 10 #[ptr p] wx fun e w' => e = .returned (.tuple #[nun A.take.2.1, errE A.take.1]) ∧ Hid (∃ G, Rep w' p G A.take.2.2 ∧ Good A.take.2.2 ∧ (∀ k, G k → w.heap.size ≤ k) ∧ Below w.heap.size w w')) := fun wx p F A h1 h2 h3 h4 => by
    refine (CT wx p F A h1 h2).mono ?_
    rintro e w' ⟨rfl, hl⟩
    obtain ⟨G, g1, g2, g3⟩ := hl.below h3 h4.size
    exact ⟨rfl, G, g1, h2.take, g2, h4.trans g3⟩
  have cX : Hid (∀ wx p F A i, Rep wx p F A → Good A → A.wr ≤ 1000000000 → (∀ k, F k → w.heap.size ≤ k) → Below w.heap.size w wx → (-9223372036854775808 ≤ i ∧ i ≤ 9223372036854775807) → Calls Try.prog 12 #[ptr p, nu i] wx fun e w' => e = .returned (errE (A.free i).1) ∧ Hid (∃ G, Rep w' p G (A.free i).2 ∧ Good (A.free i).2 ∧ (∀ k, G k → w.heap.size ≤ k) ∧ Below w.heap.size w w')) := fun wx p F A i h1 h2 h0 h3 h4 h5 => by
    refine (CX wx p F A i h1 h2 h0 h5).mono ?_
    rintro e w' ⟨rfl, hl⟩
    obtain ⟨G, g1, g2, g3⟩ := hl.below h3 h4.size
    exact ⟨rfl, G, g1, h2.free i, g2, h4.trans g3⟩
  have cF : Hid (∀ wx p F A, Rep wx p F A → Good A → Below w.heap.size w wx → Calls Try.prog 13 #[ptr p] wx fun e w' => ∃ gf lb, e = .returned (.func (.func gf) #[] lb) ∧ Below w.heap.size w w') := fun wx p F A h1 h2 h3 => by
    refine (CF wx p F A h1 h2).mono ?_
    rintro e w' ⟨fv, X, rfl, ⟨gf, lb, _, rfl, _⟩, _, hb⟩
    exact ⟨gf, lb, rfl, h3.trans (hb.mono h3.size)⟩
  have e1 : arn0.take = (0, 0, ⟨List.replicate 32 bare, (List.range 32).tail, 0⟩) := by kernel_rfl
  have e2 : (⟨List.replicate 32 bare, (List.range 32).tail, 0⟩ : Arn).take = (0, 1, ⟨List.replicate 32 bare, (List.range 32).tail.tail, 0⟩) := by kernel_rfl
  have e3 : ((⟨List.replicate 32 bare, (List.range 32).tail.tail, 0⟩ : Arn).free 0).1 = 0 := by kernel_rfl
  clear CN CT CX CF
  go_enter Try.func6, Try.ntmps6
  go_wp2_with fail
  refine c1.out.mono ?_
  rintro e w1 ⟨p, F, rfl, hr, hf, hb⟩
  have C2 := cT.out w1 p F arn0 hr good0 hf hb
  have g1 := good0.take
  rw [e1] at C2 g1
  simp only [show errE 0 = .nilIface from rfl] at C2
  generalize (⟨List.replicate 32 bare, (List.range 32).tail, 0⟩ : Arn) = A1 at *
  have HC2 := Hid.mk' C2
  clear hr hf hb c1 C2
  go_wp2_with fail
  refine HC2.out.mono ?_
  rintro e w2 ⟨rfl, hq2⟩
  obtain ⟨G2, y1, y2, y3, y4⟩ := hq2.out
  have C3 := cT.out w2 p G2 A1 y1 y2 y3 y4
  rw [e2] at C3
  simp only [show errE 0 = .nilIface from rfl] at C3
  generalize hA2 : (⟨List.replicate 32 bare, (List.range 32).tail.tail, 0⟩ : Arn) = A2 at *
  have hw2 : A2.wr ≤ 1000000000 := by rw [← hA2]; decide
  have HC3 := Hid.mk' C3
  clear y1 y2 y3 y4 hq2 C3 HC2 hA2 e1 e2
  go_wp2_with fail
  refine HC3.out.mono ?_
  rintro e w3 ⟨rfl, hq3⟩
  obtain ⟨G3, y1, y2, y3, y4⟩ := hq3.out
  have C4 := cX.out w3 p G3 A2 0 y1 y2 hw2 y3 y4 (by decide)
  rw [e3] at C4
  simp only [show errE 0 = .nilIface from rfl] at C4
  have HC4 := Hid.mk' C4
  clear y1 y2 y3 y4 hq3 C4 HC3 e3
  go_wp2_with fail
  refine HC4.out.mono ?_
  rintro e w4 ⟨rfl, hq4⟩
  obtain ⟨G4, y1, y2, y3, y4⟩ := hq4.out
  have HC5 := Hid.mk' (cF.out w4 p G4 _ y1 y2 y4)
  clear y1 y2 y3 y4 hq4 HC4
  go_wp2_with fail
  refine HC5.out.mono ?_
  rintro e w5 ⟨gf, lb, rfl, hb5⟩
  have HB5 := Hid.mk' hb5
  have hnn := neq_func_nil gf lb
  clear hb5 HC5
  go_wp2
  go_ret
  exact ⟨rfl, HB5.out⟩

/-- Which slots are taken. -/
def tk (fr : List Nat) : List Value := (List.range 32).map fun i => .bool (decide (i ∉ fr))

theorem tk_at (fr : List Nat) (i : Nat) (h : i < 32) : (tk fr)[i]? = some (.bool (decide (i ∉ fr))) := by
  unfold tk
  rw [List.getElem?_map, List.getElem?_range h]
  rfl

theorem tk_len (fr : List Nat) : (tk fr).length = 32 := by simp [tk]

theorem tk_set (fr fr' : List Nat) (k : Nat) (b : Bool) (hb : b = decide (k ∉ fr')) (h : ∀ i, i < 32 → i ≠ k → (i ∈ fr' ↔ i ∈ fr)) : (tk fr).set k (.bool b) = tk fr' := by
  apply List.ext_getElem?
  intro i
  rcases Nat.lt_or_ge i 32 with hi | hi
  · rw [tk_at fr' i hi]
    by_cases e : k = i
    · subst e
      rw [List.getElem?_set_self (by rw [tk_len]; exact hi), hb]
    · rw [List.getElem?_set_ne e, tk_at fr i hi]
      congr 2
      exact decide_eq_decide.2 (by rw [h i hi (fun h => e h.symm)])
  · rw [List.getElem?_eq_none (by rw [List.length_set, tk_len]; exact hi), List.getElem?_eq_none (by rw [tk_len]; exact hi)]

theorem tk_new : tk (List.range 32) = List.replicate 32 (.bool false) := by kernel_rfl

/-- The law's own table. -/
def Tab (w : World) (b : Nat) (fr : List Nat) : Prop := w.heap[b]? = some (.cells (tk fr).toArray 26)

theorem Tab.cell {w : World} {b : Nat} {fr : List Nat} (h : Tab w b fr) (i : Nat) (hi : i < 32) : w.cell? ⟨b, i, none⟩ = some (.bool (decide (i ∉ fr))) := by
  rw [cell_of_row w b i _ _ _ h]
  have := tk_at fr i hi
  simpa using this

theorem Tab.free {w : World} {b : Nat} {fr : List Nat} (h : Tab w b fr) (i : Nat) : w.frozen? ⟨b, i, none⟩ = false := by
  unfold Tab at h
  simp [World.frozen?, h]

theorem Tab.set {w : World} {b : Nat} {fr fr' : List Nat} (h : Tab w b fr) (k : Nat) (c : Bool) (hc : c = decide (k ∉ fr')) (hk : ∀ i, i < 32 → i ≠ k → (i ∈ fr' ↔ i ∈ fr)) : Tab (w.setCell ⟨b, k, none⟩ (.bool c)) b fr' := by
  have := heap_setCell_same w b k _ _ (.bool c) h
  unfold Tab
  rw [← tk_set fr fr' k c hc hk, this]
  simp

/-- An act in a variable of its own. -/
@[reducible] def actZ0 : Array Value := #[nu 0, nu 0, .bool false, .bool false, nu 0, nu 0, nu 0, nu 0, nu 0, nu 0, nu 0, nu 0, .string ⟨#[]⟩, .string ⟨#[]⟩, .int .u64 0, nu 0, nu 0, nu 0, nu 0]

set_option maxRecDepth 100000 in
theorem wpList_store_act {ops : Array Oper} {rest : List Oper} {op : Oper} {a : Act} {w : World} {Q : Exit → Act → World → Prop} (hgd : op.guard = none) (x y : Operand) (ho : op.op = .store 36 x y)
    (b : Nat) (hx : a.eval x = .pointer (some ⟨b, 0, none⟩)) (k n : Int) (s : Slt) (hy : a.eval y = .agg (actL k n s).toArray) (k' n' : Int) (s' : Slt) (hz : LoneA w b k' n' s')
    (h : ∀ w', LoneA w' b k n s → w.grownBy w' (some b) → w'.heap.size = w.heap.size → wpList Try.prog ops Q rest (a.put op.dst undef) w') : wpList Try.prog ops Q (op :: rest) a w := by
  refine wpList_plain hgd fun K hK => ?_
  have hone : (actL k n s).toArray.all (·.oneCell') = true := all_oneCell_toArray (by
    intro u hu
    simp [actL] at hu
    rcases hu with rfl | rfl | rfl | rfl | rfl | rfl | rfl | rfl | rfl | rfl | rfl | rfl | rfl | rfl | rfl | rfl | rfl | rfl | rfl <;> rfl)
  have hrun := run_storeVar_row (P := Try.prog) w b _ 36 (actL k' n' s').toArray (actL k n s).toArray hz size_act rfl hone
  have hk := hK _ _ (h (w.setRow b (actL k n s).toArray) (setRow_heap w b _ _ _ _ hz) ⟨rfl, rfl, rfl, by simp, fun k hk hn => setRow_other _ _ _ _ (fun e => hn (by rw [e]))⟩ (by simp))
  unfold Oper.wp execOp
  simp only [ho, hx, hy, Instr.storeAt, Instr.sureAddr, Sem.run_bind, Sem.run_pure, Result.andThen_ok, hrun]
  exact hk

theorem loneA_zero (w : World) : LoneA (w.alloc (.cells actZ0 36)) w.heap.size 0 0 slt0 := heap_alloc_new _ _

theorem LoneA.range {w : World} {b : Nat} {k n : Int} {x : Slt} (h : LoneA w b k n x) : w.rangeAt b 2 x.cells := fun j v hv => by
  rw [cell_of_row w b (2 + j) _ _ _ h]
  have : (actL k n x)[2 + j]? = x.cells[j]? := by
    rw [Nat.add_comm]
    rfl
  simpa [this] using hv

theorem LoneA.below {w w' : World} {b : Nat} {k n : Int} {x : Slt} (h : LoneA w b k n x) (hb : Below w.heap.size w w') : LoneA w' b k n x := (hb.block b (Array.getElem?_eq_some_iff.1 h).1).trans h
end An
end Go.Proofs.Ytalpbciceogjlaa
