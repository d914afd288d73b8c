import Derived.Test.YthabnombfbehkaaRange
/- A loop over an iterator that makes new memory in each round, and that may go on for ever where no round says stop: what the iterator promises, and the loop's law, at the wide fence. No program is named here. -/
namespace Go.Proofs.Ythabnombfbehkaa
open Go.RowKit
namespace Rf
set_option linter.unusedVariables false

/-- An iterator hands out the list L, in its order, and stops where a round says so; behind L it ends just if Fin, so a loop over it must have stopped there, or know Fin. In each round it may make new memory; all that lay is left as it lay. It leans on X. -/
def SeqS {α : Type} (P : Program) (g : Nat) (lb : Array Value) (enc : α → Array Value) (X : Nat → Prop) (L : List α) (Fin : Prop) (w : World) : Prop :=
  ∀ (l : Nat) (J Jx : List α → World → Prop) (W : World), Below w.heap.size w W → (∀ W0, J L W0 → Fin) →
    (∀ pre x W0 W1, pre ++ [x] <+: L → W.heap.size ≤ W0.heap.size → J pre W0 → Below W0.heap.size W0 W1 → YieldAt Fence.wide 7 P l (enc x) W1 fun e W' =>
      (e = .returned (.bool true) ∧ J (pre ++ [x]) W' ∧ Leaves X W.heap.size W.heap.size W1 W') ∨ (e = .returned (.bool false) ∧ Jx (pre ++ [x]) W' ∧ Leaves X W.heap.size W.heap.size W1 W')) →
    J [] W →
    CallsIn Fence.wide 8 P g (#[.func (.yield l) #[] #[]] ++ lb) W fun e W' => (∃ v, e = .returned v) ∧ ∃ W0, Below W0.heap.size W0 W' ∧ (J L W0 ∨ ∃ pre, pre <+: L ∧ Jx pre W0)

theorem below_grown {A B : World} (h : Below A.heap.size A B) : A.grownBy B none := ⟨h.os, h.tape, h.output, h.size, fun k hk _ => h.block k hk⟩

theorem Rests.new {β : Type} {lo hi : Nat} {J : β → World → Prop} (h : Rests lo hi J) {s : β} {A B : World} (hb : Below A.heap.size A B) (hs : J s A) : J s B := h s A B none hs (below_grown hb) (fun r e => by cases e)

theorem below_put {A B : World} {n l : Nat} (h : Below n A B) (hA : l < A.heap.size) (hB : l < B.heap.size) (o : Obj) : Below n (A.putObj l o) (B.putObj l o) := by
  refine ⟨h.os, h.tape, h.output, by simpa using h.size, fun k hk => ?_⟩
  by_cases e : k = l
  · subst e
    rw [World.putObj_heap_same hA, World.putObj_heap_same hB]
  · rw [World.putObj_heap_other e, World.putObj_heap_other e]
    exact h.block k hk

/-- The loop's law. -/
theorem wp_rangeS {α : Type} {P : Program} {g : Operand} {ps : Array Tmp} {assign body : Code} {Q : Exit → Act → World → Prop} {a : Act} {w : World} {gf : Nat} {lb : Array Value}
    (hg : a.eval g = .func (.func gf) #[] lb) (eg : ∀ args w, (callFunc gf args).run P w = .ok (.enter gf args) w)
    {enc : α → Array Value} {X : Nat → Prop} {L : List α} {Fin : Prop} {w0 : World} (hseq : SeqS P gf lb enc X L Fin w0) (hb0 : Below w0.heap.size w0 w) (hps : ∀ x, (enc x).size = ps.size) (hX : ∀ b, X b → b < w.heap.size)
    (I : List α → World → Prop) (Ix : Code → List α → World → Prop) (hI : Rests w.heap.size (w.heap.size + 2) I) (hIx : ∀ c, Rests w.heap.size (w.heap.size + 2) (Ix c)) (h0 : I [] w) (hfin : ∀ W, I L W → Fin) (a₁ : α → Act)
    (hassign : ∀ (l : Nat) (x : α) (W : World) (K : Act → World → Prop), K (a₁ x) W →
      assign.wpIn (Fence.wide.inRound l) 7 P (Exit.then K (fun _ _ _ => False)) { tmps := (ps.zip (enc x)).foldl (fun t (p, v) => t.setIfInBounds p v) a.tmps, defers := [] } W)
    (hbody : ∀ (l : Nat) (pre : List α) (x : α) (W0 W : World), pre ++ [x] <+: L → w.heap.size + 2 ≤ W0.heap.size → I pre W0 → Below W0.heap.size W0 W →
      body.wpIn (Fence.wide.inRound l) 7 P (after X w.heap.size (w.heap.size + 2) I Ix (pre ++ [x]) W) (a₁ x) W)
    (hdone : ∀ (W : World), I L W → W.heap[w.heap.size]? = some (.deferred (some [])) → Q .normal { a with defers := { target := .collected w.heap.size, args := #[] } :: a.defers } W)
    (hstop : ∀ (c : Code) (pre : List α) (W : World), pre <+: L → Ix c pre W → W.heap[w.heap.size]? = some (.deferred (some [])) → c.wp P Q { a with defers := { target := .collected w.heap.size, args := #[] } :: a.defers } W) :
    (Code.rangeFunc g ps assign body).wp P Q a w := by
  refine wpIn_wide.1 (wpIn_rangeFunc (F := Fence.wide) (n := 9) fun fn hfn => ?_)
  let rec' : LoopState → Option Code → Loop := fun st pe => { state := st, pending := pe, fn, tmps := a.tmps, params := ps, assign, body, defers := w.heap.size }
  let W1 : World := (w.alloc (.deferred (some []))).alloc (.loop (rec' .ready none))
  have s1 : W1.heap.size = w.heap.size + 2 := by simp [W1]
  have hL1 : W1.heap[w.heap.size + 1]? = some (.loop (rec' .ready none)) := by
    have := World.alloc_heap_new (w.alloc (.deferred (some []))) (.loop (rec' .ready none))
    rwa [World.size_alloc] at this
  have hD1 : W1.heap[w.heap.size]? = some (.deferred (some [])) := (Below.heap_alloc _ _ _ (by simp)).trans (World.alloc_heap_new w _)
  have hI1 : I [] W1 := hI.alloc _ (hI.alloc _ h0)
  have hb1 : Below w0.heap.size w0 W1 := hb0.trans ((((Below.refl _ w).alloc (Nat.le_refl _) _).alloc (by simp) _).mono hb0.size)
  refine ⟨w.heap.size + 1, [{ target := .collected w.heap.size, args := #[] }], W1, { target := .fn (.func gf) lb, args := #[.func (.yield (w.heap.size + 1)) #[] #[]] }, W1, gf,
    #[.func (.yield (w.heap.size + 1)) #[] #[]] ++ lb, W1, run_enterLoop_outer _ _ _ _ _, ?_, fun _ _ => trivial, ?_, fun _ => by omega, ?_⟩
  · simp only [resolve, hg]
    simp [go_sem]
  · simp [invoke, go_sem, eg]
  refine (hseq (w.heap.size + 1)
    (fun pre W => I pre W ∧ W.heap[w.heap.size + 1]? = some (.loop (rec' .ready none)) ∧ W.heap[w.heap.size]? = some (.deferred (some [])))
    (fun pre W => ∃ c, Ix c pre W ∧ W.heap[w.heap.size + 1]? = some (.loop (rec' .done (some c))) ∧ W.heap[w.heap.size]? = some (.deferred (some [])))
    W1 hb1 (fun W0 h => hfin W0 h.1) ?_ ⟨hI1, hL1, hD1⟩).mono ?_
  · -- one round
    rintro pre x W0 W hpre hsz ⟨hi, hl0, hd0⟩ hbel
    have hlt0 : w.heap.size + 1 < W0.heap.size := (Array.getElem?_eq_some_iff.1 hl0).1
    have hl := (hbel.block _ hlt0).trans hl0
    have hd := (hbel.block _ (by omega)).trans hd0
    have hy := run_yield (P := P) (args := enc x) hl (hps x)
    refine ⟨fn, _, assign, body, hy, roundIn_of_wpIn hfn (hassign _ x W _ ?_)⟩
    have hlt : w.heap.size + 1 < W.heap.size := (Array.getElem?_eq_some_iff.1 hl).1
    refine ⟨_, run_beginRound hl rfl, ?_⟩
    have hl2 : (W.putObj (w.heap.size + 1) (.loop (rec' .busy none))).heap[w.heap.size + 1]? = some (.loop (rec' .busy none)) := World.putObj_heap_same hlt
    have hd2 : (W.putObj (w.heap.size + 1) (.loop (rec' .busy none))).heap[w.heap.size]? = some (.deferred (some [])) := (World.putObj_heap_other (by omega)).trans hd
    have out : ∀ (st : LoopState) (pe : Option Code) (A : World), Leaves X W1.heap.size W1.heap.size A (A.putObj (w.heap.size + 1) (.loop (rec' st pe))) := fun st pe A =>
      Leaves.grown (grownBy_putObj' _ _ _) (fun r e => by
        cases e
        exact ⟨fun h => by have := hX _ h; omega, .inl (by omega)⟩)
    have inner : ∀ (W3 : World), Leaves X w.heap.size (w.heap.size + 2) (W.putObj (w.heap.size + 1) (.loop (rec' .busy none))) W3 → Leaves X W1.heap.size W1.heap.size (W.putObj (w.heap.size + 1) (.loop (rec' .busy none))) W3 :=
      fun W3 hk => ⟨hk.size, fun b o ho hx => hk.same b o ho (hx.imp id (fun h => ⟨by omega, h.2.imp (fun h => by omega) id⟩))⟩
    have fin : ∀ (jump : Option Code) (W3 : World), Leaves X w.heap.size (w.heap.size + 2) (W.putObj (w.heap.size + 1) (.loop (rec' .busy none))) W3 →
        (Instr.endRound (w.heap.size + 1) jump).run P W3 = .ok (.bool jump.isNone) (W3.putObj (w.heap.size + 1) (.loop (rec' (if jump.isNone then .ready else .done) jump))) ∧
        W3.heap[w.heap.size + 1]? = some (.loop (rec' .busy none)) ∧
        (W3.putObj (w.heap.size + 1) (.loop (rec' (if jump.isNone then .ready else .done) jump))).heap[w.heap.size + 1]? = some (.loop (rec' (if jump.isNone then .ready else .done) jump)) ∧
        (W3.putObj (w.heap.size + 1) (.loop (rec' (if jump.isNone then .ready else .done) jump))).heap[w.heap.size]? = some (.deferred (some [])) := fun jump W3 hk => by
      have h3 := hk.same _ _ hl2 (.inr ⟨by omega, .inr rfl⟩)
      have h4 := hk.same _ _ hd2 (.inr ⟨by omega, .inr rfl⟩)
      exact ⟨run_endRound (P := P) jump h3, h3, World.putObj_heap_same (Array.getElem?_eq_some_iff.1 h3).1, (World.putObj_heap_other (by omega)).trans h4⟩
    have leave : ∀ (c : Code) (W3 : World), Leaves X w.heap.size (w.heap.size + 2) (W.putObj (w.heap.size + 1) (.loop (rec' .busy none))) W3 → Ix c (pre ++ [x]) W3 →
        ∃ v W4, (Instr.endRound (w.heap.size + 1) (some c)).run P W3 = .ok v W4 ∧
          ((Ending.returned v = .returned (.bool true) ∧ (I (pre ++ [x]) W4 ∧ W4.heap[w.heap.size + 1]? = some (.loop (rec' .ready none)) ∧ W4.heap[w.heap.size]? = some (.deferred (some []))) ∧ Leaves X W1.heap.size W1.heap.size W W4) ∨
           (Ending.returned v = .returned (.bool false) ∧ (∃ c, Ix c (pre ++ [x]) W4 ∧ W4.heap[w.heap.size + 1]? = some (.loop (rec' .done (some c))) ∧ W4.heap[w.heap.size]? = some (.deferred (some []))) ∧ Leaves X W1.heap.size W1.heap.size W W4)) := fun c W3 hk hi3 => by
      obtain ⟨hr, h3, h4, h5⟩ := fin (some c) W3 hk
      exact ⟨_, _, hr, .inr ⟨rfl, ⟨c, (hIx c).putObj _ hi3 (by omega) h3 rfl, h4, h5⟩, ((out _ _ _).trans (inner W3 hk)).trans (out _ _ _)⟩⟩
    have hbel2 := below_put hbel hlt0 hlt (.loop (rec' .busy none))
    have hsz2 : (W0.putObj (w.heap.size + 1) (.loop (rec' .busy none))).heap.size = W0.heap.size := by simp
    refine wpIn_mono (hbody _ pre x (W0.putObj (w.heap.size + 1) (.loop (rec' .busy none))) _ hpre (by rw [hsz2]; omega) (hI.putObj _ hi (by omega) hl0 rfl) (by rw [hsz2]; exact hbel2)) ?_
    rintro e a3 W3 hp
    cases e with
    | normal =>
      obtain ⟨hr, h3, h4, h5⟩ := fin none W3 hp.1
      exact ⟨_, _, hr, .inl ⟨rfl, ⟨hI.putObj _ hp.2 (by omega) h3 rfl, h4, h5⟩, ((out _ _ _).trans (inner W3 hp.1)).trans (out _ _ _)⟩⟩
    | ret => exact leave _ W3 hp.1 hp.2
    | exit id => exact leave _ W3 hp.1 hp.2
    | goto t => exact leave _ W3 hp.1 hp.2
    | panic ch => exact hp.elim
    | outgrown => exact hp.elim
  · -- behind the iterator
    rintro e W2 ⟨⟨v, rfl⟩, W0, hbel, (⟨hi, hl0, hd0⟩ | ⟨pre, hpre, c, hi, hl0, hd0⟩)⟩
    · have hlt0 : w.heap.size + 1 < W0.heap.size := (Array.getElem?_eq_some_iff.1 hl0).1
      have hl := (hbel.block _ hlt0).trans hl0
      have hd := (hbel.block _ (by omega)).trans hd0
      exact ⟨none, _, run_endLoop (P := P) hl (by simp [rec']), hdone _ (hI.putObj _ (hI.new hbel hi) (by omega) hl rfl) ((World.putObj_heap_other (by omega)).trans hd)⟩
    · have hlt0 : w.heap.size + 1 < W0.heap.size := (Array.getElem?_eq_some_iff.1 hl0).1
      have hl := (hbel.block _ hlt0).trans hl0
      have hd := (hbel.block _ (by omega)).trans hd0
      exact ⟨some c, _, run_endLoop (P := P) hl (by simp [rec']), wpIn_wide.2 (hstop c pre _ hpre ((hIx c).putObj _ ((hIx c).new hbel hi) (by omega) hl rfl) ((World.putObj_heap_other (by omega)).trans hd))⟩
end Rf
end Go.Proofs.Ythabnombfbehkaa
