/- What is due, gone over on the program's side and as the document has it. -/
import Derived.Test.YthjdpfmnbmnbhaaDoorExpD
import Derived.Test.YthjdpfmnbmnbhaaDoorRoundIn
import Derived.Deep.RegionHeld3
import Derived.Laws.StructEq
namespace Go.Proofs.YthjdpfmnbmnbhaaDoor
set_option linter.ambiguousOpen false
open Go.RowKit
namespace Ex
open Hh Ft
set_option linter.unusedSimpArgs false
set_option linter.unusedVariables false
attribute [local go_sem] Oper.semAt_some

set_option maxRecDepth 100000 in
theorem neq_link (a b : Int) (w : World) : (binOp .neq 31 (.agg #[nu a, nu b]) (.agg #[nu a, nu b])).run Tryd.prog w = .ok (.bool false) w := by
  go_simp

/-- The law's own variables amid the loop: seven blocks in a row. -/
structure Dx (W : World) (a0 b1 b2 b3 b4 b5 b6 p t : Nat) (k at1 n ls lb : Int) (most : Nat) (put : Bool) (cnt : Nat) : Prop where
  e0 : W.heap[a0]? = some (.cells #[ptr p] 23)
  e1 : W.heap[b1]? = some (.cells #[ptr t] 25)
  e2 : W.heap[b2]? = some (.cells #[nu k, nu at1, nu n, nu ls, nu lb] 33)
  e3 : W.heap[b3]? = some (.cells #[nun most] 3)
  e4 : W.heap[b4]? = some (.cells #[.bool put] 4)
  e5 : W.heap[b5]? = some (.cells #[.bool false] 4)
  e6 : W.heap[b6]? = some (.cells #[nun cnt] 3)
  eb : b1 = a0 + 1 ∧ b2 = a0 + 2 ∧ b3 = a0 + 3 ∧ b4 = a0 + 4 ∧ b5 = a0 + 5 ∧ b6 = a0 + 6

section
variable {W W' : World} {a0 b1 b2 b3 b4 b5 b6 p t most cnt : Nat} {k at1 n ls lb : Int} {put : Bool} {E : Nat → Prop}

theorem Dx.keep (h : Dx W a0 b1 b2 b3 b4 b5 b6 p t k at1 n ls lb most put cnt) (hk : Keep E W W') (hn : ∀ j, E j → ¬ (a0 ≤ j ∧ j < a0 + 7)) : Dx W' a0 b1 b2 b3 b4 b5 b6 p t k at1 n ls lb most put cnt := by
  have hb := h.eb
  have go : ∀ {j : Nat} {o : Obj}, a0 ≤ j → j < a0 + 7 → W.heap[j]? = some o → W'.heap[j]? = some o := fun h1 h2 h3 => hk.at h3 (fun e => hn _ e ⟨h1, h2⟩)
  exact ⟨go (by omega) (by omega) h.e0, go (by omega) (by omega) h.e1, go (by omega) (by omega) h.e2, go (by omega) (by omega) h.e3, go (by omega) (by omega) h.e4, go (by omega) (by omega) h.e5, go (by omega) (by omega) h.e6, hb⟩

theorem Dx.below (h : Dx W a0 b1 b2 b3 b4 b5 b6 p t k at1 n ls lb most put cnt) (hb : Below W.heap.size W W') : Dx W' a0 b1 b2 b3 b4 b5 b6 p t k at1 n ls lb most put cnt := h.keep (Keep.of_below (F := fun _ => False) hb) (fun _ e => e.elim)

theorem Dx.lt (h : Dx W a0 b1 b2 b3 b4 b5 b6 p t k at1 n ls lb most put cnt) : a0 + 7 ≤ W.heap.size := by
  have := (Array.getElem?_eq_some_iff.1 h.e6).1
  have := h.eb
  omega

theorem Dx.cells (h : Dx W a0 b1 b2 b3 b4 b5 b6 p t k at1 n ls lb most put cnt) : W.cell? ⟨a0, 0, none⟩ = some (ptr p) ∧ W.cell? ⟨b1, 0, none⟩ = some (ptr t) ∧ W.cell? ⟨b2, 1, none⟩ = some (nu at1) ∧ W.cell? ⟨b2, 2, none⟩ = some (nu n) ∧ W.cell? ⟨b3, 0, none⟩ = some (nun most) ∧ W.cell? ⟨b4, 0, none⟩ = some (.bool put) ∧ W.cell? ⟨b5, 0, none⟩ = some (.bool false) ∧ W.cell? ⟨b6, 0, none⟩ = some (nun cnt) ∧ W.frozen? ⟨b5, 0, none⟩ = false ∧ W.frozen? ⟨b6, 0, none⟩ = false :=
  ⟨by rw [cell_of_row W a0 0 _ _ _ h.e0]; rfl, by rw [cell_of_row W b1 0 _ _ _ h.e1]; rfl, by rw [cell_of_row W b2 1 _ _ _ h.e2]; rfl, by rw [cell_of_row W b2 2 _ _ _ h.e2]; rfl, by rw [cell_of_row W b3 0 _ _ _ h.e3]; rfl, by rw [cell_of_row W b4 0 _ _ _ h.e4]; rfl, by rw [cell_of_row W b5 0 _ _ _ h.e5]; rfl, by rw [cell_of_row W b6 0 _ _ _ h.e6]; rfl, by simp [World.frozen?, h.e5], by simp [World.frozen?, h.e6]⟩

theorem Dx.link (h : Dx W a0 b1 b2 b3 b4 b5 b6 p t k at1 n ls lb most put cnt) : W.rangeAt b2 3 [nu ls, nu lb] := fun j v hv => by
  rcases j with _ | _ | j
  · simp at hv
    subst hv
    rw [cell_of_row W b2 _ _ _ _ h.e2]
    rfl
  · simp at hv
    subst hv
    rw [cell_of_row W b2 _ _ _ _ h.e2]
    rfl
  · simp at hv

theorem Dx.all (h : Dx W a0 b1 b2 b3 b4 b5 b6 p t k at1 n ls lb most put cnt) : W.rangeAt b2 0 [nu k, nu at1, nu n, nu ls, nu lb] := fun j v hv => by
  rw [cell_of_row W b2 _ _ _ _ h.e2, Nat.zero_add, ← hv, List.getElem?_toArray]

/-- What region of the put hangs on. -/
theorem Dx.put9 (h : Dx W a0 b1 b2 b3 b4 b5 b6 p t k at1 n ls lb most put cnt) : W.cell? ⟨a0, 0, none⟩ = some (ptr p) ∧ W.cell? ⟨b1, 0, none⟩ = some (ptr t) ∧ W.cell? ⟨b2, 2, none⟩ = some (nu n) ∧ W.cell? ⟨b4, 0, none⟩ = some (.bool put) ∧ W.cell? ⟨b6, 0, none⟩ = some (nun cnt) ∧ W.rangeAt b2 3 [nu ls, nu lb] := by
  obtain ⟨c0, c1, c2, c3, c4, c5, c6, c7, _⟩ := h.cells
  exact ⟨c0, c1, c3, c5, c7, h.link⟩

theorem Dx.count (h : Dx W a0 b1 b2 b3 b4 b5 b6 p t k at1 n ls lb most put cnt) : Dx (W.setCell ⟨b6, 0, none⟩ (nun (cnt + 1))) a0 b1 b2 b3 b4 b5 b6 p t k at1 n ls lb most put (cnt + 1) := by
  have hb := h.eb
  have hk : Keep (fun j => j = b6) W (W.setCell ⟨b6, 0, none⟩ (nun (cnt + 1))) := (Keep.refl (fun j => j = b6) W).setCell (p := ⟨b6, 0, none⟩) (.inl rfl) _
  refine ⟨hk.at h.e0 (by omega), hk.at h.e1 (by omega), hk.at h.e2 (by omega), hk.at h.e3 (by omega), hk.at h.e4 (by omega), hk.at h.e5 (by omega), ?_, hb⟩
  rw [heap_setCell_same _ b6 0 _ _ _ h.e6]
  rfl

theorem set_one {b : Nat} {u v : Value} {ty : TypeId} (h : W.heap[b]? = some (.cells #[u] ty)) : (W.setCell ⟨b, 0, none⟩ v).heap[b]? = some (.cells #[v] ty) := by
  rw [heap_setCell_same _ b 0 _ _ _ h]
  rfl
end

/-- Seven blocks in a row. -/
theorem seven (w : World) (o1 o2 o3 o4 o5 o6 o7 : Obj) (W : World) (e : ((((((w.alloc o1).alloc o2).alloc o3).alloc o4).alloc o5).alloc o6).alloc o7 = W) : (W.heap[w.heap.size]? = some o1 ∧ W.heap[w.heap.size + 1]? = some o2 ∧ W.heap[w.heap.size + 2]? = some o3 ∧ W.heap[w.heap.size + 3]? = some o4 ∧ W.heap[w.heap.size + 4]? = some o5 ∧ W.heap[w.heap.size + 5]? = some o6 ∧ W.heap[w.heap.size + 6]? = some o7) ∧ W.heap.size = w.heap.size + 7 ∧ Below w.heap.size w W := by
  have hb : Below w.heap.size w W := by
    rw [← e]
    exact (((((((Below.refl _ _).alloc (Nat.le_refl _) _).alloc (by simp) _).alloc (by simp; omega) _).alloc (by simp; omega) _).alloc (by simp; omega) _).alloc (by simp; omega) _).alloc (by simp; omega) _
  refine ⟨?_, by rw [← e]; simp, hb⟩
  have up : ∀ {V : World} {b : Nat} {x : Obj} (o : Obj), V.heap[b]? = some x → (V.alloc o).heap[b]? = some x := fun o h => (Below.heap_alloc _ _ _ (Array.getElem?_eq_some_iff.1 h).1).trans h
  have n1 := heap_alloc_new w o1
  have n2 := heap_alloc_new (w.alloc o1) o2
  have n3 := heap_alloc_new ((w.alloc o1).alloc o2) o3
  have n4 := heap_alloc_new (((w.alloc o1).alloc o2).alloc o3) o4
  have n5 := heap_alloc_new ((((w.alloc o1).alloc o2).alloc o3).alloc o4) o5
  have n6 := heap_alloc_new (((((w.alloc o1).alloc o2).alloc o3).alloc o4).alloc o5) o6
  have n7 := heap_alloc_new ((((((w.alloc o1).alloc o2).alloc o3).alloc o4).alloc o5).alloc o6) o7
  simp only [World.size_alloc] at n1 n2 n3 n4 n5 n6 n7
  rw [← e]
  exact ⟨up _ (up _ (up _ (up _ (up _ (up _ n1))))), up _ (up _ (up _ (up _ (up _ n2)))), up _ (up _ (up _ (up _ n3))), up _ (up _ (up _ n4)), up _ (up _ n5), up _ n6, n7⟩

/-- What the memory holds amid the law's loop. -/
def Amid (R : RepXT) (base : Nat) (w0 w wi : World) (p t : Nat) (F0 G0 X : Nat → Prop) (hi : Nat) (a0 b1 b2 b3 b4 b5 b6 : Nat) (k at1 n ls lb : Int) (most : Nat) (put : Bool) (cnt : Nat) (F G : Nat → Prop) (L1 L2 : List En) (W : World) : Prop :=
  Lq R base w0 w wi p t F0 G0 X hi F G L1 L2 W ∧ Dx W a0 b1 b2 b3 b4 b5 b6 p t k at1 n ls lb most put cnt ∧ (∀ j, F j ∨ G j → ¬ (a0 ≤ j ∧ j < a0 + 7)) ∧ (∀ j, X j → a0 + 7 ≤ j) ∧ a0 + 7 ≤ wi.heap.size ∧ w.heap.size ≤ a0

section
variable {R : RepXT} {base : Nat} {w0 w wi W W' : World} {p t hi a0 b1 b2 b3 b4 b5 b6 most cnt : Nat} {F0 G0 X F G E : Nat → Prop} {L1 L2 L' : List En} {k at1 n ls lb now : Int} {put : Bool}

theorem Amid.keep (C : ExpiryC R) (h : Amid R base w0 w wi p t F0 G0 X hi a0 b1 b2 b3 b4 b5 b6 k at1 n ls lb most put cnt F G L1 L2 W) (hk : Keep E W W') (h1 : ∀ j, E j → ¬ F j ∧ ¬ G j ∧ wi.heap.size ≤ j) : Amid R base w0 w wi p t F0 G0 X hi a0 b1 b2 b3 b4 b5 b6 k at1 n ls lb most put cnt F G L1 L2 W' :=
  ⟨h.1.keep C hk (fun j he => ⟨(h1 j he).1, (h1 j he).2.1, fun hx => by have := (h.1.lp.x j hx).1; have := (h1 j he).2.2; omega, by have := (h1 j he).2.2; have := h.2.2.2.2; omega⟩), h.2.1.keep hk (fun j he e => by have := (h1 j he).2.2; have := h.2.2.2.2.1; omega), h.2.2⟩

theorem Amid.below (C : ExpiryC R) (h : Amid R base w0 w wi p t F0 G0 X hi a0 b1 b2 b3 b4 b5 b6 k at1 n ls lb most put cnt F G L1 L2 W) (hb : Below W.heap.size W W') : Amid R base w0 w wi p t F0 G0 X hi a0 b1 b2 b3 b4 b5 b6 k at1 n ls lb most put cnt F G L1 L2 W' := h.keep C (Keep.of_below (F := fun _ => False) hb) (fun _ e => e.elim)

theorem Amid.rest (C : ExpiryC R) : Rf.Rest wi.heap.size hi (Amid R base w0 w wi p t F0 G0 X hi a0 b1 b2 b3 b4 b5 b6 k at1 n ls lb most put cnt F G L1 L2) := fun A B hk h =>
  h.keep C hk (fun j hj => ⟨fun hf => (h.1.lp.off j hf).2 hj, fun hf => (h.1.goff j hf).2 hj, hj.1⟩)

theorem Amid.step (C : ExpiryC R) (h : Amid R base w0 w wi p t F0 G0 X hi a0 b1 b2 b3 b4 b5 b6 k at1 n ls lb most put cnt F G L1 L2 W) {x : En} {c' : Kn} (hs : hi ≤ W.heap.size) (hst : StepX R p now (F, L1) W (some x) c' W') :
    L1 = x :: c'.2 ∧ x.t ≤ now ∧ Amid R base w0 w wi p t F0 G0 X hi a0 b1 b2 b3 b4 b5 b6 k at1 n ls lb most put cnt c'.1 G c'.2 L2 W' ∧ Rf.Lets X wi.heap.size hi W W' := by
  obtain ⟨e1, e2, e3, e4, e5, e6⟩ := h.1.step C hs hst
  refine ⟨e1, e2, ⟨e3, h.2.1.keep e4 (fun j hf => h.2.2.1 j (.inl hf)), fun j hj => ?_, h.2.2.2⟩, e6⟩
  rcases hj with hj | hj
  · rcases e5 j hj with e | e
    · exact h.2.2.1 j (.inl e)
    · have := h.2.1.lt; omega
  · exact h.2.2.1 j (.inr hj)

theorem Amid.turn1 (C : ExpiryC R) (h : Amid R base w0 w wi p t F0 G0 X hi a0 b1 b2 b3 b4 b5 b6 k at1 n ls lb most put cnt F G L1 L2 W) (hs : hi ≤ W.heap.size) (hl : LeftX R W W' p F L') : ∃ F', Amid R base w0 w wi p t F0 G0 X hi a0 b1 b2 b3 b4 b5 b6 k at1 n ls lb most put cnt F' G L' L2 W' ∧ Keep F W W' := by
  obtain ⟨F', e3, e4, e5⟩ := h.1.turn1 C hs hl
  refine ⟨F', ⟨e3, h.2.1.keep e4 (fun j hf => h.2.2.1 j (.inl hf)), fun j hj => ?_, h.2.2.2⟩, e4⟩
  rcases hj with hj | hj
  · rcases e5 j hj with e | e
    · exact h.2.2.1 j (.inl e)
    · have := h.2.1.lt; omega
  · exact h.2.2.1 j (.inr hj)

theorem Amid.turn2 (C : ExpiryC R) (h : Amid R base w0 w wi p t F0 G0 X hi a0 b1 b2 b3 b4 b5 b6 k at1 n ls lb most put cnt F G L1 L2 W) (hs : hi ≤ W.heap.size) (hl : LeftX (RepE base) W W' t G L') : ∃ G', Amid R base w0 w wi p t F0 G0 X hi a0 b1 b2 b3 b4 b5 b6 k at1 n ls lb most put cnt F G' L1 L' W' ∧ Keep G W W' := by
  obtain ⟨G', e3, e4, e5⟩ := h.1.turn2 C hs hl
  refine ⟨G', ⟨e3, h.2.1.keep e4 (fun j hf => h.2.2.1 j (.inr hf)), fun j hj => ?_, h.2.2.2⟩, e4⟩
  rcases hj with hj | hj
  · exact h.2.2.1 j (.inl hj)
  · rcases e5 j hj with e | e
    · exact h.2.2.1 j (.inr e)
    · have := h.2.1.lt; omega

theorem Amid.ne (h : Amid R base w0 w wi p t F0 G0 X hi a0 b1 b2 b3 b4 b5 b6 k at1 n ls lb most put cnt F G L1 L2 W) {j : Nat} (hj : a0 ≤ j ∧ j < a0 + 7) : ¬ F j ∧ ¬ G j ∧ ¬ X j :=
  ⟨fun e => h.2.2.1 j (.inl e) hj, fun e => h.2.2.1 j (.inr e) hj, fun e => by have := h.2.2.2.1 j e; omega⟩

/-- One more round is counted. -/
theorem Amid.count (C : ExpiryC R) (h : Amid R base w0 w wi p t F0 G0 X hi a0 b1 b2 b3 b4 b5 b6 k at1 n ls lb most put cnt F G L1 L2 W) : Amid R base w0 w wi p t F0 G0 X hi a0 b1 b2 b3 b4 b5 b6 k at1 n ls lb most put (cnt + 1) F G L1 L2 (W.setCell ⟨b6, 0, none⟩ (nun (cnt + 1))) := by
  have hb := h.2.1.eb
  have hk : Keep (fun j => j = b6) W (W.setCell ⟨b6, 0, none⟩ (nun (cnt + 1))) := (Keep.refl (fun j => j = b6) W).setCell (p := ⟨b6, 0, none⟩) (.inl rfl) _
  have hn := h.ne (j := b6) (by omega)
  exact ⟨h.1.keep C hk (fun j e => by subst e; exact ⟨hn.1, hn.2.1, hn.2.2, by have := h.2.2.2.2.2; omega⟩), h.2.1.count, h.2.2⟩

/-- The result is told. -/
theorem Amid.told (C : ExpiryC R) (h : Amid R base w0 w wi p t F0 G0 X hi a0 b1 b2 b3 b4 b5 b6 k at1 n ls lb most put cnt F G L1 L2 W) : Lq R base w0 w wi p t F0 G0 X hi F G L1 L2 (W.setCell ⟨b5, 0, none⟩ (.bool true)) ∧ (W.setCell ⟨b5, 0, none⟩ (.bool true)).heap[b5]? = some (.cells #[.bool true] 4) := by
  have hb := h.2.1.eb
  have hk : Keep (fun j => j = b5) W (W.setCell ⟨b5, 0, none⟩ (.bool true)) := (Keep.refl (fun j => j = b5) W).setCell (p := ⟨b5, 0, none⟩) (.inl rfl) _
  have hn := h.ne (j := b5) (by omega)
  exact ⟨h.1.keep C hk (fun j e => by subst e; exact ⟨hn.1, hn.2.1, hn.2.2, by have := h.2.2.2.2.2; omega⟩), set_one h.2.1.e5⟩
end
end Ex
end Go.Proofs.YthjdpfmnbmnbhaaDoor
