/- A loop over what is due: what is known of the memory, at the head of a round and amid it; an expiry above what was there; the laws' own 'works'. -/
import Derived.Test.YthjdpfmnbmnbhaaExpC
namespace Go.Proofs.Ythjdpfmnbmnbhaa
set_option linter.ambiguousOpen false
open Go.RowKit
namespace Ex
open Hh Ft
set_option linter.unusedSimpArgs false
set_option linter.unusedVariables false
attribute [local go_sem] Oper.semAt_some

theorem wpListIn_store_lnk {Fe : Fence} {nF : Nat} {ops : Array Oper} {rest : List Oper} {op : Oper} {a : Act} {w : World} {Q : Exit → Act → World → Prop} (hgd : op.guard = none) (x y : Operand) (ho : op.op = .store 32 x y)
    (b : Nat) (hx : a.eval x = .pointer (some ⟨b, 0, none⟩)) (s u : Int) (hy : a.eval y = .agg #[nu s, nu u]) (z1 z2 : Value) (hz : w.heap[b]? = some (.cells #[z1, z2] 32))
    (h : ∀ w', w'.heap[b]? = some (.cells #[nu s, nu u] 32) → w.grownBy w' (some b) → w'.heap.size = w.heap.size → wpListIn Fe nF Try.prog ops Q rest (a.put op.dst undef) w') : wpListIn Fe nF Try.prog ops Q (op :: rest) a w := by
  refine wpListIn_plain hgd fun K hK => ?_
  have hrun := run_storeVar_row (P := Try.prog) w b _ 32 #[z1, z2] #[nu s, nu u] hz size_lk rfl (by simp [Value.oneCell'])
  have hk := hK _ _ (h (w.setRow b #[nu s, nu u]) (setRow_heap w b _ _ _ _ hz) ⟨rfl, rfl, rfl, by simp, fun k hk hn => setRow_other _ _ _ _ (fun e => hn (by rw [e]))⟩ (by simp))
  unfold Oper.wpIn
  refine ⟨by simp [Oper.about, ho], ?_⟩
  rw [Oper.semAt_plain Fe _ _ (by rw [ho]; intro c hc'; cases hc')]
  unfold execOp
  simp only [ho, hx, hy, Instr.storeAt, Instr.sureAddr, Sem.run_bind, Sem.run_pure, Result.andThen_ok, hrun]
  exact hk

/-- An expiry that lies above what was there. -/
structure Xe (R : RepXT) (w0 w : World) (p : Nat) (F : Nat → Prop) (L : List En) : Prop where
  rep : R w p F L
  lo : ∀ k, F k → w0.heap.size ≤ k
  bel : Below w0.heap.size w0 w

section
variable {R : RepXT} {w0 w w' : World} {p : Nat} {F G : Nat → Prop} {L L' : List En}

theorem Xe.below (C : ExpiryC R) (h : Xe R w0 w p F L) (hb : Below w.heap.size w w') : Xe R w0 w' p F L := ⟨C.below h.rep hb, h.lo, h.bel.trans (hb.mono h.bel.size)⟩

theorem Xe.keep (C : ExpiryC R) (h : Xe R w0 w p F L) (hk : Keep G w w') (h1 : ∀ k, F k → ¬ G k) (h2 : ∀ k, G k → w0.heap.size ≤ k) : Xe R w0 w' p F L :=
  ⟨C.keep h.rep hk h1, h.lo, h.bel.trans (hk.below (fun k hk e => by have := h2 k e; omega) h.bel.size)⟩

/-- A call that turns it, seen from the world in which it lay. -/
theorem Xe.left (h : Xe R w0 w p F L) (hl : LeftX R w w' p F L') : ∃ G, Xe R w0 w' p G L' ∧ Keep F w w' ∧ (∀ k, G k → F k ∨ w.heap.size ≤ k) := by
  obtain ⟨G, g1, g2, g3⟩ := hl
  refine ⟨G, ⟨g1, fun k hk => ?_, h.bel.trans (g2.below (fun k hk e => by have := h.lo k e; omega) h.bel.size)⟩, g2, g3⟩
  rcases g3 k hk with e | e
  · exact h.lo k e
  · exact Nat.le_trans h.bel.size e

theorem Xe.new (C : ExpiryC R) (w : World) : Calls Try.prog 6 #[] w fun e w' => ∃ p F, e = .returned (ptr p) ∧ Hid (Xe R w w' p F [] ∧ (∀ k, F k → w.heap.size ≤ k) ∧ Below w.heap.size w w') := by
  refine (C.new w).mono ?_
  rintro e w' ⟨p, F, rfl, h1, h2, h3⟩
  exact ⟨p, F, rfl, ⟨h1, h2, h3⟩, h2, h3⟩
end

/-- Amid a loop over what is due: X, what the iterator leans on, lies as it lay in wi, where the loop begins; [lo, hi) are the loop's and the iterator's own blocks. -/
structure Lp (R : RepXT) (w0 wi : World) (p : Nat) (X : Nat → Prop) (hi : Nat) (F : Nat → Prop) (L : List En) (W : World) : Prop where
  xe : Xe R w0 W p F L
  off : ∀ k, F k → ¬ X k ∧ ¬ (wi.heap.size ≤ k ∧ k < hi)
  x : ∀ b, X b → b < wi.heap.size ∧ W.heap[b]? = wi.heap[b]?
  xlo : ∀ b, X b → w0.heap.size ≤ b
  sz : wi.heap.size ≤ W.heap.size
  sz0 : w0.heap.size ≤ wi.heap.size

section
variable {R : RepXT} {w0 wi W W' : World} {p hi : Nat} {X F G : Nat → Prop} {L : List En}

theorem Lp.keep (C : ExpiryC R) (h : Lp R w0 wi p X hi F L W) (hk : Keep G W W') (h1 : ∀ k, G k → ¬ F k ∧ ¬ X k ∧ w0.heap.size ≤ k) : Lp R w0 wi p X hi F L W' :=
  ⟨h.xe.keep C hk (fun k hf hg => (h1 k hg).1 hf) (fun k hg => (h1 k hg).2.2), h.off, fun b hb => ⟨(h.x b hb).1, (hk.block b (Nat.lt_of_lt_of_le (h.x b hb).1 h.sz) (fun hg => (h1 b hg).2.1 hb)).trans (h.x b hb).2⟩, h.xlo, Nat.le_trans h.sz hk.size, h.sz0⟩

theorem Lp.below (C : ExpiryC R) (h : Lp R w0 wi p X hi F L W) (hb : Below W.heap.size W W') : Lp R w0 wi p X hi F L W' := h.keep C (Keep.of_below (F := fun _ => False) hb) (fun _ e => e.elim)

theorem Lp.rest (C : ExpiryC R) : Rf.Rest wi.heap.size hi (Lp R w0 wi p X hi F L) := fun A B hk h =>
  h.keep C hk (fun k hg => ⟨fun hf => (h.off k hf).2 hg, fun hx => by have := (h.x k hx).1; omega, by have := h.sz0; omega⟩)

theorem Lp.ready (h : Lp R w0 wi p X hi F L W) : ReadyX R wi X p (F, L) W := ⟨h.xe.rep, h.sz, fun b hb => (h.x b hb).2⟩

/-- The start. -/
theorem Lp.start (C : ExpiryC R) (h : Xe R w0 wi p F L) (hX : ∀ b, X b → b < wi.heap.size ∧ ¬ F b ∧ w0.heap.size ≤ b) : Lp R w0 wi p X hi F L wi :=
  ⟨h, fun k hk => ⟨fun hx => (hX k hx).2.1 hk, fun e => by have := C.lt h.rep k hk; omega⟩, fun b hb => ⟨(hX b hb).1, rfl⟩, fun b hb => (hX b hb).2.2, Nat.le_refl _, h.bel.size⟩

/-- One step. -/
theorem Lp.step (C : ExpiryC R) (h : Lp R w0 wi p X hi F L W) {now : Int} {x : En} {c' : Kn} (hs : hi ≤ W.heap.size) (hst : StepX R p now (F, L) W (some x) c' W') :
    L = x :: c'.2 ∧ x.t ≤ now ∧ Lp R w0 wi p X hi c'.1 c'.2 W' ∧ Keep F W W' ∧ (∀ k, c'.1 k → F k ∨ W.heap.size ≤ k) ∧ Rf.Lets X wi.heap.size hi W W' := by
  obtain ⟨e1, e2, e3, e4, e5⟩ := hst
  dsimp only at e1 e4 e5
  have hlo : ∀ k, c'.1 k → w0.heap.size ≤ k := fun k hk => by
    rcases e5 k hk with e | e
    · exact h.xe.lo k e
    · have := h.xe.bel.size; omega
  refine ⟨e1, e2, ⟨⟨e3, hlo, h.xe.bel.trans (e4.below (fun k hk e => by have := h.xe.lo k e; omega) h.xe.bel.size)⟩, fun k hk => ?_, fun b hb => ⟨(h.x b hb).1, (e4.block b (Nat.lt_of_lt_of_le (h.x b hb).1 h.sz) (fun hf => (h.off b hf).1 hb)).trans (h.x b hb).2⟩, h.xlo, Nat.le_trans h.sz e4.size, h.sz0⟩, e4, e5, Rf.Lets.keep e4 (fun b hb => ?_)⟩
  · rcases e5 k hk with e | e
    · exact h.off k e
    · exact ⟨fun hx => by have := (h.x k hx).1; have := h.sz; omega, by omega⟩
  · exact h.off b hb

/-- The end. -/
theorem Lp.last (C : ExpiryC R) (h : Lp R w0 wi p X hi F L W) {now : Int} {c' : Kn} (hst : StepX R p now (F, L) W none c' W') : (∀ x M, L = x :: M → now < x.t) ∧ Lp R w0 wi p X hi F L W' ∧ Below W.heap.size W W' :=
  ⟨hst.1, h.below C hst.2, hst.2⟩

/-- A call that turns the expiry amid the loop. -/
theorem Lp.left (h : Lp R w0 wi p X hi F L W) {L' : List En} (hs : hi ≤ W.heap.size) (hl : LeftX R W W' p F L') : ∃ G, Lp R w0 wi p X hi G L' W' ∧ Keep F W W' ∧ (∀ k, G k → F k ∨ W.heap.size ≤ k) := by
  obtain ⟨G, g1, g2, g3⟩ := h.xe.left hl
  refine ⟨G, ⟨g1, fun k hk => ?_, fun b hb => ⟨(h.x b hb).1, (g2.block b (Nat.lt_of_lt_of_le (h.x b hb).1 h.sz) (fun hf => (h.off b hf).1 hb)).trans (h.x b hb).2⟩, h.xlo, Nat.le_trans h.sz g2.size, h.sz0⟩, g2, g3⟩
  rcases g3 k hk with e | e
  · exact h.off k e
  · exact ⟨fun hx => by have := (h.x k hx).1; have := h.sz; omega, by omega⟩
end

theorem iter_eq_nil (gf : Nat) (lb : Array Value) (w : World) : (binOp BinOp.eql 35 (.func (.func gf) #[] lb) .nilFunc).run Try.prog w = .ok (.bool false) w := by kernel_rfl

theorem iter_ne_nil (gf : Nat) (lb : Array Value) (w : World) : (binOp BinOp.neq 35 (.func (.func gf) #[] lb) .nilFunc).run Try.prog w = .ok (.bool true) w := by kernel_rfl

/-- The making of an iterator. -/
theorem Xe.due {R : RepXT} {w0 w : World} {p : Nat} {F : Nat → Prop} {L : List En} (C : ExpiryC R) (h : Xe R w0 w p F L) (now : Int) : Calls Try.prog 9 #[ptr p, nu now] w fun e w' => ∃ gf lb, e = .returned (.func (.func gf) #[] lb) ∧ Hid (Xe R w0 w' p F L ∧ Below w.heap.size w w' ∧ ∃ X, IterX R w' (.func (.func gf) #[] lb) X p now ∧ ∀ b, X b → w.heap.size ≤ b) := by
  refine (C.due w p F L now h.rep).mono ?_
  rintro e w' ⟨fv, X, rfl, hit, hX, hb⟩
  obtain ⟨gf, lb, k, rfl, rest⟩ := id hit
  exact ⟨gf, lb, rfl, h.below C hb, hb, X, hit, hX⟩

end Ex
end Go.Proofs.Ythjdpfmnbmnbhaa
