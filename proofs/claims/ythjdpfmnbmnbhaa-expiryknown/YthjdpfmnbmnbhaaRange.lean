/- A loop over an iterator that may keep variables of its own: what the iterator promises, what the loop's body owes, and the loop's law, at the wide fence. No program is named here. -/
import Derived.RangeFuncNested
import Derived.RangeFuncBound
import Derived.RangeFuncCalls
import Derived.RangeFuncLeaves
import Derived.Shelf.Abstract
import Derived.WalkKit
import Derived.OwnWalkIn
import Derived.TacticsInMore
import Derived.LoopNIn
import Derived.LoopIn
import Derived.Maps.AppendAt
namespace Go.Proofs.Ythjdpfmnbmnbhaa
open Go.RowKit
namespace Rf
set_option linter.unusedVariables false

/-- One step in the heap: blocks are laid, and at most one block turns, which lies in [lo, hi), or from lo on and holds no cells. -/
def Away (lo hi : Nat) (W : World) (row : Option Nat) : Prop := ∀ r, row = some r → lo ≤ r ∧ (r < hi ∨ ∃ o : Obj, W.heap[r]? = some o ∧ o.isCells = false)

/-- What is said stays true through such steps. -/
def Rests {β : Type} (lo hi : Nat) (J : β → World → Prop) : Prop := ∀ s W W' row, J s W → W.grownBy W' row → Away lo hi W row → J s W'

/-- The blocks of X, those in [lo, hi), and those from lo on that hold no cells, lie as they lay. -/
structure Leaves (X : Nat → Prop) (lo hi : Nat) (W W' : World) : Prop where
  size : W.heap.size ≤ W'.heap.size
  same : ∀ (k : Nat) (o : Obj), W.heap[k]? = some o → (X k ∨ (lo ≤ k ∧ (k < hi ∨ o.isCells = false))) → W'.heap[k]? = some o

section
variable {X : Nat → Prop} {lo hi : Nat} {A B C : World}
theorem Leaves.refl (X : Nat → Prop) (lo hi : Nat) (A : World) : Leaves X lo hi A A := ⟨Nat.le_refl _, fun _ _ h _ => h⟩
theorem Leaves.trans (h : Leaves X lo hi A B) (k : Leaves X lo hi B C) : Leaves X lo hi A C := ⟨Nat.le_trans h.size k.size, fun i o hi hx => k.same i o (h.same i o hi hx) hx⟩
theorem Leaves.grown {row : Option Nat} (hg : A.grownBy B row) (h : ∀ r, row = some r → ¬ X r ∧ (r < lo ∨ (hi ≤ r ∧ ∃ o : Obj, A.heap[r]? = some o ∧ o.isCells = true))) : Leaves X lo hi A B :=
  ⟨hg.size, fun k o hk hx => by
    refine (hg.block k (Array.getElem?_eq_some_iff.1 hk).1 (fun e => ?_)).trans hk
    obtain ⟨h1, h2⟩ := h k e.symm
    rcases hx with hx | ⟨h3, h4⟩
    · exact h1 hx
    · rcases h2 with h2 | ⟨h5, o', ho, hc⟩
      · omega
      · rcases h4 with h4 | h4
        · omega
        · rw [hk] at ho; cases ho; rw [h4] at hc; cases hc⟩
theorem Leaves.alloc (X : Nat → Prop) (lo hi : Nat) (A : World) (o : Obj) : Leaves X lo hi A (A.alloc o) := Leaves.grown (World.grownBy_alloc A o none) (fun r e => by cases e)
theorem Leaves.sub {X' : Nat → Prop} {lo' hi' : Nat} (h : Leaves X' lo' hi' A B) (hX : ∀ b, X b → X' b) (h1 : lo' ≤ lo) (h2 : hi ≤ hi') : Leaves X lo hi A B :=
  ⟨h.size, fun k o hk hx => h.same k o hk (hx.imp (hX k) (fun q => ⟨by omega, q.2.imp (fun q => by omega) id⟩))⟩
theorem Leaves.cell (h : Leaves X lo hi A B) {a : Addr} {v : Value} (hx : X a.block ∨ (lo ≤ a.block ∧ a.block < hi)) (hc : A.cell? a = some v) : B.cell? a = some v := by
  obtain ⟨o, ho, _⟩ := cells_of_cell hc
  have := h.same _ o ho (hx.imp id (fun h => ⟨h.1, .inl h.2⟩))
  unfold World.cell? at hc ⊢
  rw [ho] at hc; rw [this]; exact hc
theorem Leaves.boxed (h : Leaves X lo hi A B) {b : Nat} {t : TypeId} {v : Value} (hx : X b ∨ (lo ≤ b ∧ b < hi)) (hc : Boxed A b t v) : Boxed B b t v :=
  h.same _ _ hc (hx.imp id (fun h => ⟨h.1, .inl h.2⟩))
end

section
variable {β : Type} {lo hi : Nat} {J J' : β → World → Prop}
theorem Rests.alloc (h : Rests lo hi J) {s : β} {W : World} (o : Obj) (hs : J s W) : J s (W.alloc o) := h s W _ none hs (World.grownBy_alloc W o none) (fun r e => by cases e)
theorem Rests.putObj (h : Rests lo hi J) {s : β} {W : World} {l : Nat} {o : Obj} (o' : Obj) (hs : J s W) (hl : lo ≤ l) (ho : W.heap[l]? = some o) (hc : o.isCells = false) : J s (W.putObj l o') :=
  h s W _ (some l) hs (grownBy_putObj' W l o') (fun r e => by cases e; exact ⟨hl, .inr ⟨o, ho, hc⟩⟩)
theorem Rests.setCell (h : Rests lo hi J) {s : β} {W : World} {b : Nat} (v : Value) (hs : J s W) (hl : lo ≤ b) (hh : b < hi) : J s (W.setCell ⟨b, 0, none⟩ v) :=
  h s W _ (some b) hs (grownBy_setCell' W b v) (fun r e => by cases e; exact ⟨hl, .inl hh⟩)
theorem Rests.and (h : Rests lo hi J) (h' : Rests lo hi J') : Rests lo hi (fun s W => J s W ∧ J' s W) := fun s W W' row hs hg hr => ⟨h s W W' row hs.1 hg hr, h' s W W' row hs.2 hg hr⟩
theorem Away.wider {lo' hi' : Nat} {W : World} {row : Option Nat} (h : Away lo hi W row) (h1 : lo' ≤ lo) (h2 : hi ≤ hi') : Away lo' hi' W row := fun r e => by
  obtain ⟨h3, h4⟩ := h r e
  exact ⟨by omega, h4.imp (fun h => by omega) id⟩
theorem Rests.narrower {lo' hi' : Nat} (h : Rests lo' hi' J) (h1 : lo' ≤ lo) (h2 : hi ≤ hi') : Rests lo hi J := fun s W W' row hs hg hr => h s W W' row hs hg (hr.wider h1 h2)
theorem Rests.pure (p : β → Prop) : Rests lo hi (fun s (_ : World) => p s) := fun _ _ _ _ hs _ _ => hs
theorem Rests.sized (n : β → Nat) : Rests lo hi (fun s (W : World) => n s ≤ W.heap.size) := fun s W W' row hs hg _ => Nat.le_trans hs hg.size
theorem Rests.boxed {b : Nat} {t : TypeId} (f : β → Value) (hb : b < lo) : Rests lo hi (fun s W => Boxed W b t (f s)) := fun s W W' row hs hg hr =>
  hs.kept hg (fun e => by have := (hr b e.symm).1; omega)
theorem Rests.below {n : Nat} {w : World} (hw : n ≤ w.heap.size) (hn : n ≤ lo) : Rests lo hi (fun (_ : β) W => Below n w W) := fun s W W' row hs hg hr =>
  hs.grown hg (Nat.le_trans hw hs.size) (fun r e => by have := (hr r e).1; omega)
end

/-- A row that lies behind hi stays as it lay. -/
theorem Away.row {lo hi : Nat} {W W' : World} {row : Option Nat} {base : Nat} {e : TypeId} {size : Nat} {v : Value} {k : Nat} {xs : List Value} (h : W.ownsRow base e size v k xs) (hb : hi ≤ base) (hg : W.grownBy W' row) (hr : Away lo hi W row) : W'.ownsRow base e size v k xs := by
  refine h.kept hg ?_
  rcases h.2 with ⟨rfl, _⟩ | ⟨g, cap, cur, rfl, hbg, hgb, _⟩
  · exact .inl rfl
  · refine .inr fun e' => ?_
    obtain ⟨h1, h2⟩ := hr g (by simpa [Value.ownBlock] using e'.symm)
    rcases h2 with h2 | ⟨o, ho, hc⟩
    · omega
    · rw [hgb] at ho; cases ho; cases hc

/-- A call of yield at the wide fence asks for no depth. -/
theorem yieldAt_any {m m' : Nat} {P : Program} {l : Nat} {args : Array Value} {W : World} {R : Ending → World → Prop} (h : YieldAt Fence.wide m P l args W R) : YieldAt Fence.wide m' P l args W R := by
  obtain ⟨fn, tmps, assign, body, hy, hR⟩ := h
  exact ⟨fn, tmps, assign, body, hy, hR.1, fun c cs _ => hR.2 c cs (room_wide _)⟩

/-- An iterator hands out the list L, in its order, and stops where a round says so. It lays at most its own k blocks ahead of the first round, and leans on X and on these. -/
def Seq {α : Type} (P : Program) (g : Nat) (lb : Array Value) (encs : α → Array Value) (X : Nat → Prop) (k : Nat) (L : List α) (w : World) : Prop :=
  ∀ (l : Nat) (J Jx : List α → World → Prop) (W : World), Below w.heap.size w W → Rests W.heap.size (W.heap.size + k) J → Rests W.heap.size (W.heap.size + k) Jx →
    (∀ pre x W1, pre ++ [x] <+: L → W.heap.size + k ≤ W1.heap.size → J pre W1 → YieldAt Fence.wide 7 P l (encs x) W1 fun e W' =>
      (e = .returned (.bool true) ∧ J (pre ++ [x]) W' ∧ Leaves X W.heap.size (W.heap.size + k) W1 W') ∨ (e = .returned (.bool false) ∧ Jx (pre ++ [x]) W' ∧ Leaves X W.heap.size (W.heap.size + k) W1 W')) →
    J [] W →
    CallsIn Fence.wide 8 P g (#[.func (.yield l) #[] #[]] ++ lb) W fun e W' => (∃ v, e = .returned v) ∧ (J L W' ∨ ∃ pre, pre <+: L ∧ Jx pre W')

/-- How a round's body may be left. -/
def after {α : Type} (X : Nat → Prop) (lo hi : Nat) (I : List α → World → Prop) (Ix : Code → List α → World → Prop) (xs : List α) (W : World) : Exit → Act → World → Prop
  | .normal, _, W' => Leaves X lo hi W W' ∧ I xs W'
  | .ret, _, W' => Leaves X lo hi W W' ∧ Ix .ret xs W'
  | .exit id, _, W' => Leaves X lo hi W W' ∧ Ix (.exit id) xs W'
  | .goto t, _, W' => Leaves X lo hi W W' ∧ Ix (.goto t) xs W'
  | .panic _, _, _ => False
  | .outgrown, _, _ => False

/-- The loop's law. -/
theorem wp_range {α : Type} {P : Program} {g : Operand} {ps : Array Tmp} {assign body : Code} {Q : Exit → Act → World → Prop} {a : Act} {w : World} {gf : Nat} {lb : Array Value}
    (hg : a.eval g = .func (.func gf) #[] lb) (eg : ∀ args w, (callFunc gf args).run P w = .ok (.enter gf args) w)
    {encs : α → Array Value} {X : Nat → Prop} {k : Nat} {L : List α} {w0 : World} (hseq : Seq P gf lb encs X k L w0) (hb0 : Below w0.heap.size w0 w) (hps : ∀ x, (encs x).size = ps.size) (hX : ∀ b, X b → b < w.heap.size)
    (I : List α → World → Prop) (Ix : Code → List α → World → Prop) (hI : Rests w.heap.size (w.heap.size + 2 + k) I) (hIx : ∀ c, Rests w.heap.size (w.heap.size + 2 + k) (Ix c)) (h0 : I [] w) (a₁ : α → Act)
    (hassign : ∀ (l : Nat) (x : α) (W : World) (K : Act → World → Prop), K (a₁ x) W →
      assign.wpIn (Fence.wide.inRound l) 7 P (Exit.then K (fun _ _ _ => False)) { tmps := (ps.zip (encs x)).foldl (fun t (p, v) => t.setIfInBounds p v) a.tmps, defers := [] } W)
    (hbody : ∀ (l : Nat) (pre : List α) (x : α) (W : World), pre ++ [x] <+: L → w.heap.size + 2 + k ≤ W.heap.size → I pre W →
      body.wpIn (Fence.wide.inRound l) 7 P (after X w.heap.size (w.heap.size + 2 + k) I Ix (pre ++ [x]) W) (a₁ x) W)
    (hdone : ∀ (W : World), I L W → W.heap[w.heap.size]? = some (.deferred (some [])) → Q .normal { a with defers := { target := .collected w.heap.size, args := #[] } :: a.defers } W)
    (hstop : ∀ (c : Code) (pre : List α) (W : World), pre <+: L → Ix c pre W → W.heap[w.heap.size]? = some (.deferred (some [])) → c.wp P Q { a with defers := { target := .collected w.heap.size, args := #[] } :: a.defers } W) :
    (Code.rangeFunc g ps assign body).wp P Q a w := by
  refine wpIn_wide.1 (wpIn_rangeFunc (F := Fence.wide) (n := 9) fun fn hfn => ?_)
  let rec' : LoopState → Option Code → Loop := fun st pe => { state := st, pending := pe, fn, tmps := a.tmps, params := ps, assign, body, defers := w.heap.size }
  let W1 : World := (w.alloc (.deferred (some []))).alloc (.loop (rec' .ready none))
  have s1 : W1.heap.size = w.heap.size + 2 := by simp [W1]
  have hL1 : W1.heap[w.heap.size + 1]? = some (.loop (rec' .ready none)) := by
    have := World.alloc_heap_new (w.alloc (.deferred (some []))) (.loop (rec' .ready none))
    rwa [World.size_alloc] at this
  have hD1 : W1.heap[w.heap.size]? = some (.deferred (some [])) := (Below.heap_alloc _ _ _ (by simp)).trans (World.alloc_heap_new w _)
  have hI1 : I [] W1 := hI.alloc _ (hI.alloc _ h0)
  have hb1 : Below w0.heap.size w0 W1 := hb0.trans ((((Below.refl _ w).alloc (Nat.le_refl _) _).alloc (by simp) _).mono hb0.size)
  refine ⟨w.heap.size + 1, [{ target := .collected w.heap.size, args := #[] }], W1, { target := .fn (.func gf) lb, args := #[.func (.yield (w.heap.size + 1)) #[] #[]] }, W1, gf,
    #[.func (.yield (w.heap.size + 1)) #[] #[]] ++ lb, W1, run_enterLoop_outer _ _ _ _ _, ?_, fun _ _ => trivial, ?_, fun _ => by omega, ?_⟩
  · simp only [resolve, hg]
    simp [go_sem]
  · simp [invoke, go_sem, eg]
  -- the two blocks that the loop has laid lie as they lay through the iterator's steps
  have keep : ∀ {A B : World} {row : Option Nat} {b : Nat} {o : Obj}, A.grownBy B row → Away W1.heap.size (W1.heap.size + k) A row → b < w.heap.size + 2 → A.heap[b]? = some o → B.heap[b]? = some o := fun hg' hr hb ho => by
    refine (hg'.block _ (Array.getElem?_eq_some_iff.1 ho).1 (fun e => ?_)).trans ho
    have := (hr _ e.symm).1
    omega
  have wide : ∀ {A : World} {row : Option Nat}, Away W1.heap.size (W1.heap.size + k) A row → Away w.heap.size (w.heap.size + 2 + k) A row := fun hr => hr.wider (by omega) (by omega)
  refine (hseq (w.heap.size + 1)
    (fun pre W => I pre W ∧ W.heap[w.heap.size + 1]? = some (.loop (rec' .ready none)) ∧ W.heap[w.heap.size]? = some (.deferred (some [])))
    (fun pre W => ∃ c, Ix c pre W ∧ W.heap[w.heap.size + 1]? = some (.loop (rec' .done (some c))) ∧ W.heap[w.heap.size]? = some (.deferred (some [])))
    W1 hb1 (fun s A B row hs hg' hr => ⟨hI s A B row hs.1 hg' (wide hr), keep hg' hr (by omega) hs.2.1, keep hg' hr (by omega) hs.2.2⟩)
    (fun s A B row ⟨c, hc, h1, h2⟩ hg' hr => ⟨c, hIx c s A B row hc hg' (wide hr), keep hg' hr (by omega) h1, keep hg' hr (by omega) h2⟩) ?_ ⟨hI1, hL1, hD1⟩).mono ?_
  · -- one round
    rintro pre x W hpre hsz ⟨hi, hl, hd⟩
    have hy := run_yield (P := P) (args := encs x) hl (hps x)
    refine ⟨fn, _, assign, body, hy, roundIn_of_wpIn hfn (hassign _ x W _ ?_)⟩
    have hlt : w.heap.size + 1 < W.heap.size := (Array.getElem?_eq_some_iff.1 hl).1
    refine ⟨_, run_beginRound hl rfl, ?_⟩
    have hl2 : (W.putObj (w.heap.size + 1) (.loop (rec' .busy none))).heap[w.heap.size + 1]? = some (.loop (rec' .busy none)) := World.putObj_heap_same hlt
    have hd2 : (W.putObj (w.heap.size + 1) (.loop (rec' .busy none))).heap[w.heap.size]? = some (.deferred (some [])) := (World.putObj_heap_other (by omega)).trans hd
    have out : ∀ (st : LoopState) (pe : Option Code) (A : World), Leaves X W1.heap.size (W1.heap.size + k) A (A.putObj (w.heap.size + 1) (.loop (rec' st pe))) := fun st pe A =>
      Leaves.grown (grownBy_putObj' _ _ _) (fun r e => by
        cases e
        exact ⟨fun h => by have := hX _ h; omega, .inl (by omega)⟩)
    have inner : ∀ (W3 : World), Leaves X w.heap.size (w.heap.size + 2 + k) (W.putObj (w.heap.size + 1) (.loop (rec' .busy none))) W3 → Leaves X W1.heap.size (W1.heap.size + k) (W.putObj (w.heap.size + 1) (.loop (rec' .busy none))) W3 :=
      fun W3 hk => ⟨hk.size, fun b o ho hx => hk.same b o ho (hx.imp id (fun h => ⟨by omega, h.2.imp (fun h => by omega) id⟩))⟩
    have fin : ∀ (jump : Option Code) (W3 : World), Leaves X w.heap.size (w.heap.size + 2 + k) (W.putObj (w.heap.size + 1) (.loop (rec' .busy none))) W3 →
        (Instr.endRound (w.heap.size + 1) jump).run P W3 = .ok (.bool jump.isNone) (W3.putObj (w.heap.size + 1) (.loop (rec' (if jump.isNone then .ready else .done) jump))) ∧
        W3.heap[w.heap.size + 1]? = some (.loop (rec' .busy none)) ∧
        (W3.putObj (w.heap.size + 1) (.loop (rec' (if jump.isNone then .ready else .done) jump))).heap[w.heap.size + 1]? = some (.loop (rec' (if jump.isNone then .ready else .done) jump)) ∧
        (W3.putObj (w.heap.size + 1) (.loop (rec' (if jump.isNone then .ready else .done) jump))).heap[w.heap.size]? = some (.deferred (some [])) := fun jump W3 hk => by
      have h3 := hk.same _ _ hl2 (.inr ⟨by omega, .inr rfl⟩)
      have h4 := hk.same _ _ hd2 (.inr ⟨by omega, .inr rfl⟩)
      exact ⟨run_endRound (P := P) jump h3, h3, World.putObj_heap_same (Array.getElem?_eq_some_iff.1 h3).1, (World.putObj_heap_other (by omega)).trans h4⟩
    have leave : ∀ (c : Code) (W3 : World), Leaves X w.heap.size (w.heap.size + 2 + k) (W.putObj (w.heap.size + 1) (.loop (rec' .busy none))) W3 → Ix c (pre ++ [x]) W3 →
        ∃ v W4, (Instr.endRound (w.heap.size + 1) (some c)).run P W3 = .ok v W4 ∧
          ((Ending.returned v = .returned (.bool true) ∧ (I (pre ++ [x]) W4 ∧ W4.heap[w.heap.size + 1]? = some (.loop (rec' .ready none)) ∧ W4.heap[w.heap.size]? = some (.deferred (some []))) ∧ Leaves X W1.heap.size (W1.heap.size + k) W W4) ∨
           (Ending.returned v = .returned (.bool false) ∧ (∃ c, Ix c (pre ++ [x]) W4 ∧ W4.heap[w.heap.size + 1]? = some (.loop (rec' .done (some c))) ∧ W4.heap[w.heap.size]? = some (.deferred (some []))) ∧ Leaves X W1.heap.size (W1.heap.size + k) W W4)) := fun c W3 hk hi3 => by
      obtain ⟨hr, h3, h4, h5⟩ := fin (some c) W3 hk
      exact ⟨_, _, hr, .inr ⟨rfl, ⟨c, (hIx c).putObj _ hi3 (by omega) h3 rfl, h4, h5⟩, ((out _ _ _).trans (inner W3 hk)).trans (out _ _ _)⟩⟩
    refine wpIn_mono (hbody _ pre x _ hpre (by simp; omega) (hI.putObj _ hi (by omega) hl rfl)) ?_
    rintro e a3 W3 hp
    cases e with
    | normal =>
      obtain ⟨hr, h3, h4, h5⟩ := fin none W3 hp.1
      exact ⟨_, _, hr, .inl ⟨rfl, ⟨hI.putObj _ hp.2 (by omega) h3 rfl, h4, h5⟩, ((out _ _ _).trans (inner W3 hp.1)).trans (out _ _ _)⟩⟩
    | ret => exact leave _ W3 hp.1 hp.2
    | exit id => exact leave _ W3 hp.1 hp.2
    | goto t => exact leave _ W3 hp.1 hp.2
    | panic ch => exact hp.elim
    | outgrown => exact hp.elim
  · -- behind the iterator
    rintro e W2 ⟨⟨v, rfl⟩, (⟨hi, hl, hd⟩ | ⟨pre, hpre, c, hi, hl, hd⟩)⟩
    · exact ⟨none, _, run_endLoop (P := P) hl (by simp [rec']), hdone _ (hI.putObj _ hi (by omega) hl rfl) ((World.putObj_heap_other (by omega)).trans hd)⟩
    · exact ⟨some c, _, run_endLoop (P := P) hl (by simp [rec']), wpIn_wide.2 (hstop c pre _ hpre ((hIx c).putObj _ hi (by omega) hl rfl) ((World.putObj_heap_other (by omega)).trans hd))⟩

/-- A store into a box ahead of the row leaves the row. -/
theorem own_other {W : World} {base : Nat} {e : TypeId} {size : Nat} {v : Value} {k : Nat} {xs : List Value} (h : W.ownsRow base e size v k xs) {b : Nat} (hb : b < base) (u : Value) : (W.setCell ⟨b, 0, none⟩ u).ownsRow base e size v k xs := by
  refine h.kept (grownBy_setCell' W b u) ?_
  rcases h.2 with ⟨rfl, _⟩ | ⟨g, cap, cur, rfl, hbg, _⟩
  · exact .inl rfl
  · refine .inr fun e' => ?_
    obtain rfl : g = b := by simpa [Value.ownBlock] using e'
    omega

/-- 'out = append(out, ..)' in a round, out in a box that was made ahead of the loop, its row behind hi. -/
theorem collected {W w1 : World} {X : Nat → Prop} {lo hi n B : Nat} {t e : TypeId} {size : Nat} {v v' : Value} {k m : Nat} {xs ys : List Value} {tmp : Obj}
    (hv : Boxed W B t v) (hte : t ≠ e) (hrow : W.ownsRow hi e size v k xs) (hB : B < lo) (hXB : ¬ X B) (hX : ∀ b, X b → b < lo) (hlo : lo ≤ hi) (hsz : hi ≤ W.heap.size) (hn : n ≤ B)
    (hown' : w1.ownsRow hi e size v' m ys) (hgrow : (W.alloc tmp).grownBy w1 v.ownBlock) :
    Boxed w1 B t v ∧ Boxed (w1.setCell ⟨B, 0, none⟩ v') B t v' ∧ (w1.setCell ⟨B, 0, none⟩ v').ownsRow hi e size v' m ys ∧ Leaves X lo hi W (w1.setCell ⟨B, 0, none⟩ v') ∧ Below n W (w1.setCell ⟨B, 0, none⟩ v') ∧
      ∀ b t' u, b < lo → b ≠ B → Boxed W b t' u → Boxed (w1.setCell ⟨B, 0, none⟩ v') b t' u := by
  have hb : ∀ j, v.ownBlock = some j → hi ≤ j ∧ ∃ o : Obj, (W.alloc tmp).heap[j]? = some o ∧ o.isCells = true := fun j ej => by
    rcases (hrow.alloc tmp).2 with ⟨rfl, _⟩ | ⟨g, cap, cur, rfl, hb, hgb, _⟩
    · simp [Value.ownBlock] at ej
    · obtain rfl : g = j := by simpa [Value.ownBlock] using ej
      exact ⟨hb, _, hgb, rfl⟩
  have hv1 : Boxed w1 B t v := (hv.alloc tmp).kept hgrow (hv.not_row hte hrow)
  refine ⟨hv1, hv1.set v', hown'.kept (grownBy_setCell' w1 B v') (.inr (hv1.not_row hte hown').symm), ?_, ?_, ?_⟩
  · refine ((Leaves.alloc X lo hi W tmp).trans (Leaves.grown hgrow fun j ej => ?_)).trans (Leaves.grown (grownBy_setCell' w1 B v') fun j ej => ?_)
    · obtain ⟨h1, h2⟩ := hb j ej
      exact ⟨fun h => by have := hX j h; omega, .inr ⟨h1, h2⟩⟩
    · cases ej
      exact ⟨hXB, .inl hB⟩
  · refine (((Below.refl n W).alloc (by omega) tmp).grown hgrow (by simp; omega) fun j ej => ?_).setCell (p := ⟨B, 0, none⟩) hn v'
    have := (hb j ej).1
    omega
  · intro b t' u hb1 hb2 hbx
    refine ((hbx.alloc tmp).kept hgrow (fun e' => ?_)).other hb2 v'
    have := (hb b e'.symm).1
    omega

/-- The marks that loops have left among the deferred calls. -/
def marks (Ds : List Nat) : List Deferred := Ds.map (fun D => { target := .collected D, args := #[] })
/-- The marks' blocks lie at B or behind it, and each is open. -/
def Open (B : Nat) (Ds : List Nat) (W : World) : Prop := Ds.Nodup ∧ ∀ D ∈ Ds, B ≤ D ∧ W.heap[D]? = some (.deferred (some []))
theorem Open.lt {B : Nat} {Ds : List Nat} {W : World} (h : Open B Ds W) : ∀ D ∈ Ds, D < W.heap.size := fun D hD => (Array.getElem?_eq_some_iff.1 (h.2 D hD).2).1
theorem Open.kept {B : Nat} {Ds : List Nat} {W W' : World} (h : Open B Ds W) (hk : ∀ D ∈ Ds, W'.heap[D]? = W.heap[D]?) : Open B Ds W' := ⟨h.1, fun D hD => ⟨(h.2 D hD).1, (hk D hD).trans (h.2 D hD).2⟩⟩
theorem Open.below {B n : Nat} {Ds : List Nat} {W W' : World} (h : Open B Ds W) (hb : Below n W W') (hn : W.heap.size ≤ n) : Open B Ds W' := h.kept fun D hD => hb.block D (by have := h.lt D hD; omega)
theorem Open.cons {B D : Nat} {Ds : List Nat} {W : World} (h : Open B Ds W) (hB : B ≤ D) (hD : W.heap[D]? = some (.deferred (some []))) (hn : D ∉ Ds) : Open B (D :: Ds) W :=
  ⟨List.nodup_cons.2 ⟨hn, h.1⟩, fun E hE => by
    rcases List.mem_cons.1 hE with rfl | hE
    · exact ⟨hB, hD⟩
    · exact h.2 E hE⟩
theorem leaves_marks {F : Fence} {n : Nat} {P : Program} {fn : Func} {tmps : Array Value} {R : Ending → World → Prop} {B : Nat} : ∀ {Ds : List Nat} {W : World}, Open B Ds W → B ≤ W.heap.size → (∀ W', Below B W W' → LeavesInM F n P fn tmps R [] .returning W') → LeavesInM F n P fn tmps R (marks Ds) .returning W
  | [], W, _, _, h => h W (Below.refl _ _)
  | D :: Ds, W, ho, hB, h => by
    obtain ⟨h1, h2⟩ := ho.2 D (by simp)
    have hnd := List.nodup_cons.1 ho.1
    refine ⟨by simp, .inl ⟨D, _, rfl, run_takeDeferred h2, ?_⟩⟩
    have hb : Below B W (W.putObj D (.deferred none)) := (Below.refl B W).grown (grownBy_putObj' _ _ _) hB (fun r e => by cases e; exact h1)
    refine leaves_marks (B := B) ⟨hnd.2, fun E hE => ⟨(ho.2 E (by simp [hE])).1, ?_⟩⟩ (by simpa using hB) (fun W' hW' => h W' (hb.trans hW'))
    rw [World.putObj_heap_other (show E ≠ D from fun e => hnd.1 (e ▸ hE))]
    exact (ho.2 E (by simp [hE])).2

/-- All that lay, but the box Bl, lies as it lay. -/
def But (Bl : Nat) (W W' : World) : Prop := Below Bl W W' ∧ ∀ b, b < W.heap.size → b ≠ Bl → W'.heap[b]? = W.heap[b]?
theorem But.refl (Bl : Nat) (W : World) : But Bl W W := ⟨Below.refl _ _, fun _ _ _ => rfl⟩
theorem But.rest {Bl hi : Nat} {W A B : World} {row : Option Nat} (h : But Bl W A) (hb : Bl ≤ W.heap.size) (hg : A.grownBy B row) (hr : Away W.heap.size hi A row) : But Bl W B :=
  ⟨h.1.grown hg (Nat.le_trans hb h.1.size) (fun r e => by have := (hr r e).1; omega), fun b hb2 hne => (hg.block b (by have := h.1.size; omega) (fun e => by have := (hr b e.symm).1; omega)).trans (h.2 b hb2 hne)⟩
theorem But.step {Bl : Nat} {W A w1 : World} {e : TypeId} {size hi k : Nat} {v v' : Value} {xs : List Value} {tmp : Obj} (h : But Bl W A) (hrow : A.ownsRow hi e size v k xs) (hlo : W.heap.size ≤ hi) (hsz : hi ≤ A.heap.size) (hBl : Bl < W.heap.size)
    (hgrow : (A.alloc tmp).grownBy w1 v.ownBlock) : But Bl W (w1.setCell ⟨Bl, 0, none⟩ v') := by
  have hb : ∀ j, v.ownBlock = some j → hi ≤ j := fun j ej => by
    rcases hrow.2 with ⟨rfl, _⟩ | ⟨g, cap, cur, rfl, hb, hgb, _⟩
    · simp [Value.ownBlock] at ej
    · obtain rfl : g = j := by simpa [Value.ownBlock] using ej
      exact hb
  have hs := h.1.size
  refine ⟨((h.1.alloc (by omega) tmp).grown hgrow (by simp; omega) fun j ej => by have := hb j ej; omega).setCell (p := ⟨Bl, 0, none⟩) (Nat.le_refl _) v', fun b hb2 hne => ?_⟩
  rw [Below.heap_setCell _ _ _ b hne, hgrow.block b (by simp; omega) (fun e' => by have := hb b e'.symm; omega), Below.heap_alloc _ _ _ (by omega)]
  exact h.2 b hb2 hne
theorem But.boxed {Bl b : Nat} {W A : World} {t : TypeId} {v : Value} (h : But Bl W A) (hb : Boxed W b t v) (hne : b ≠ Bl) : Boxed A b t v := (h.2 b hb.lt hne).trans hb
theorem But.own {Bl base : Nat} {W A : World} {e : TypeId} {size : Nat} {v : Value} {k : Nat} {xs : List Value} (h : But Bl W A) (ho : W.ownsRow base e size v k xs) (hb : Bl < base) : A.ownsRow base e size v k xs := by
  refine ⟨ho.1, ?_⟩
  rcases ho.2 with hn | ⟨g, cap, cur, rfl, hbg, hgg, rest⟩
  · exact .inl hn
  · exact .inr ⟨g, cap, cur, rfl, hbg, (h.2 g (Array.getElem?_eq_some_iff.1 hgg).1 (by omega)).trans hgg, rest⟩
theorem But.open {Bl B : Nat} {Ds : List Nat} {W A : World} (h : But Bl W A) (ho : Open B Ds W) (hne : Bl ∉ Ds) : Open B Ds A := ho.kept fun D hD => h.2 D (ho.lt D hD) (fun e => hne (e ▸ hD))

end Rf
end Go.Proofs.Ythjdpfmnbmnbhaa
