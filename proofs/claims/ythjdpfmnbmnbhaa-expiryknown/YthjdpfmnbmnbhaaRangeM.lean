/- A loop over an iterator that turns memory between its rounds: what the iterator promises, and the loop's law, at the wide fence. No program is named here. -/
import Derived.Test.YthjdpfmnbmnbhaaRange
import Derived.Test.YthjdpfmnbmnbhaaFoot
namespace Go.Proofs.Ythjdpfmnbmnbhaa
open Go.RowKit
namespace Rf
open Ft
set_option linter.unusedVariables false

/-- What is said stays true where blocks of [lo, hi) alone turn. -/
def Rest (lo hi : Nat) (J : World → Prop) : Prop := ∀ A B, Keep (fun b => lo ≤ b ∧ b < hi) A B → J A → J B

theorem Rest.and {lo hi : Nat} {J K : World → Prop} (h : Rest lo hi J) (k : Rest lo hi K) : Rest lo hi (fun W => J W ∧ K W) := fun A B hk ⟨h1, h2⟩ => ⟨h A B hk h1, k A B hk h2⟩

theorem Rest.pure {lo hi : Nat} (p : Prop) : Rest lo hi (fun _ => p) := fun _ _ _ h => h

theorem Rest.narrower {lo hi lo' hi' : Nat} {J : World → Prop} (h : Rest lo' hi' J) (h1 : lo' ≤ lo) (h2 : hi ≤ hi') : Rest lo hi J := fun A B hk => h A B (hk.weaken (fun b _ hb => ⟨by omega, by omega⟩))

theorem Rest.at {lo hi : Nat} {b : Nat} {o : Obj} (h : b < lo ∨ hi ≤ b) : Rest lo hi (fun W => W.heap[b]? = some o) := fun A B hk hA => hk.at hA (by omega)

/-- What an iterator asks of a round: that the blocks of X, and those of [lo, hi), lie as they lay. -/
structure Lets (X : Nat → Prop) (lo hi : Nat) (A B : World) : Prop where
  size : A.heap.size ≤ B.heap.size
  same : ∀ b, b < A.heap.size → (X b ∨ (lo ≤ b ∧ b < hi)) → B.heap[b]? = A.heap[b]?

section
variable {X : Nat → Prop} {lo hi : Nat} {A B C : World}
theorem Lets.refl (X : Nat → Prop) (lo hi : Nat) (A : World) : Lets X lo hi A A := ⟨Nat.le_refl _, fun _ _ _ => rfl⟩
theorem Lets.trans (h : Lets X lo hi A B) (k : Lets X lo hi B C) : Lets X lo hi A C := ⟨Nat.le_trans h.size k.size, fun b hb hx => (k.same b (Nat.lt_of_lt_of_le hb h.size) hx).trans (h.same b hb hx)⟩
theorem Lets.keep {F : Nat → Prop} (h : Keep F A B) (hn : ∀ b, F b → ¬ X b ∧ ¬ (lo ≤ b ∧ b < hi)) : Lets X lo hi A B := ⟨h.size, fun b hb hx => h.block b hb (fun hf => hx.elim (hn b hf).1 (hn b hf).2)⟩
theorem Lets.sub {Y : Nat → Prop} {lo' hi' : Nat} (h : Lets Y lo' hi' A B) (hX : ∀ b, X b → Y b) (h1 : lo' ≤ lo) (h2 : hi ≤ hi') : Lets X lo hi A B := ⟨h.size, fun b hb hx => h.same b hb (hx.imp (hX b) (fun h => ⟨by omega, by omega⟩))⟩
theorem Lets.own (h : Lets X lo hi A B) {b : Nat} {o : Obj} (hb : X b ∨ (lo ≤ b ∧ b < hi)) (hA : A.heap[b]? = some o) : B.heap[b]? = some o := (h.same b (Array.getElem?_eq_some_iff.1 hA).1 hb).trans hA
end

theorem keep_put {F : Nat → Prop} (W : World) (l : Nat) (o : Obj) (h : F l) : Keep F W (W.putObj l o) :=
  ⟨rfl, rfl, rfl, by simp, fun k _ hn => World.putObj_heap_other (fun e => hn (e ▸ h))⟩

/-- From the head of a round (a world that is Ready, with what is known of it: c) the iterator takes a Step: it hands out x (some x), or ends (none); a round that says stop ends it. The rounds' own measure falls. It lays k blocks of its own ahead of the first round, and leans on X and on these; what it may turn (Y) lies apart from them. -/
def SeqM {α γ : Type} (P : Program) (g : Nat) (lb : Array Value) (enc : α → Array Value) (X : Nat → Prop) (k : Nat) (Ready : γ → World → Prop) (Step : γ → World → Option α → γ → World → Prop) (Y : γ → Nat → Prop) : Prop :=
  ∀ (l : Nat) (I : γ → Nat → World → Prop) (D Ix : World → Prop) (n : Nat) (c : γ) (W : World),
    (∀ c m W0, I c m W0 → Ready c W0) → (∀ c m W0, I c m W0 → ∀ b, Y c b → ¬ (W.heap.size ≤ b ∧ b < W.heap.size + k)) →
    (∀ c m, Rest W.heap.size (W.heap.size + k) (I c m)) → Rest W.heap.size (W.heap.size + k) D → Rest W.heap.size (W.heap.size + k) Ix →
    (∀ c m x c' W0 W1, W.heap.size + k ≤ W0.heap.size → I c m W0 → Step c W0 (some x) c' W1 → YieldAt Fence.wide 7 P l (enc x) W1 fun e W' => Lets X W.heap.size (W.heap.size + k) W1 W' ∧ ((e = .returned (.bool true) ∧ ∃ c2 j, j < m ∧ I c2 j W') ∨ (e = .returned (.bool false) ∧ Ix W'))) →
    (∀ c m c' W0 W1, W.heap.size + k ≤ W0.heap.size → I c m W0 → Step c W0 none c' W1 → D W1) →
    I c n W →
    CallsIn Fence.wide 8 P g (#[.func (.yield l) #[] #[]] ++ lb) W fun e W' => (∃ v, e = .returned v) ∧ (D W' ∨ Ix W')

/-- How a round's body may be left. -/
def afterM {γ : Type} (X : Nat → Prop) (lo hi : Nat) (I : γ → Nat → World → Prop) (Ix : Code → World → Prop) (m : Nat) (W : World) : Exit → Act → World → Prop
  | .normal, _, W' => Lets X lo hi W W' ∧ ∃ c j, j < m ∧ I c j W'
  | .ret, _, W' => Lets X lo hi W W' ∧ Ix .ret W'
  | .exit id, _, W' => Lets X lo hi W W' ∧ Ix (.exit id) W'
  | .goto t, _, W' => Lets X lo hi W W' ∧ Ix (.goto t) W'
  | .panic _, _, _ => False
  | .outgrown, _, _ => False

/-- The loop's law; what the round's first step leaves (a variable that lies in memory is laid anew in each round) is said by M. -/
theorem wp_rangeN {α γ : Type} {P : Program} {g : Operand} {ps : Array Tmp} {assign body : Code} {Q : Exit → Act → World → Prop} {a : Act} {w : World} {gf : Nat} {lb : Array Value}
    (hg : a.eval g = .func (.func gf) #[] lb) (eg : ∀ args w, (callFunc gf args).run P w = .ok (.enter gf args) w)
    {enc : α → Array Value} {X : Nat → Prop} {k : Nat} {Ready : γ → World → Prop} {Step : γ → World → Option α → γ → World → Prop} {Y : γ → Nat → Prop} (hseq : SeqM P gf lb enc X k Ready Step Y) (hps : ∀ x, (enc x).size = ps.size) (hX : ∀ b, X b → b < w.heap.size)
    (I : γ → Nat → World → Prop) (M0 : γ → Nat → α → World → Prop) (M : γ → Nat → α → Act → World → Prop) (D : World → Prop) (Ix : Code → World → Prop) (n : Nat) (c0 : γ)
    (hready : ∀ c m W, I c m W → Ready c W) (hY : ∀ c m W, I c m W → ∀ b, Y c b → ¬ (w.heap.size ≤ b ∧ b < w.heap.size + 2 + k))
    (hI : ∀ c m, Rest w.heap.size (w.heap.size + 2 + k) (I c m)) (hM : ∀ c m x a', Rest w.heap.size (w.heap.size + 2 + k) (M c m x a')) (hD : Rest w.heap.size (w.heap.size + 2 + k) D) (hIx : ∀ c, Rest w.heap.size (w.heap.size + 2 + k) (Ix c))
    (hstep : ∀ c m x c' W0 W1, w.heap.size + 2 + k ≤ W0.heap.size → I c m W0 → Step c W0 (some x) c' W1 → M0 c' m x W1 ∧ Lets X w.heap.size (w.heap.size + 2 + k) W0 W1)
    (hend : ∀ c m c' W0 W1, w.heap.size + 2 + k ≤ W0.heap.size → I c m W0 → Step c W0 none c' W1 → D W1 ∧ Lets X w.heap.size (w.heap.size + 2 + k) W0 W1)
    (h0 : I c0 n w)
    (hassign : ∀ (l : Nat) (c : γ) (m : Nat) (x : α) (W : World) (K : Act → World → Prop), M0 c m x W → w.heap.size + 2 + k ≤ W.heap.size → (∀ a' W', Lets X w.heap.size (w.heap.size + 2 + k) W W' → M c m x a' W' → K a' W') →
      assign.wpIn (Fence.wide.inRound l) 7 P (Exit.then K (fun _ _ _ => False)) { tmps := (ps.zip (enc x)).foldl (fun t (p, v) => t.setIfInBounds p v) a.tmps, defers := [] } W)
    (hbody : ∀ (l : Nat) (c : γ) (m : Nat) (x : α) (a' : Act) (W : World), M c m x a' W → w.heap.size + 2 + k ≤ W.heap.size →
      body.wpIn (Fence.wide.inRound l) 7 P (afterM X w.heap.size (w.heap.size + 2 + k) I Ix m W) a' W)
    (hdone : ∀ (W : World), D W → W.heap[w.heap.size]? = some (.deferred (some [])) → Q .normal { a with defers := { target := .collected w.heap.size, args := #[] } :: a.defers } W)
    (hstop : ∀ (c : Code) (W : World), Ix c W → W.heap[w.heap.size]? = some (.deferred (some [])) → c.wp P Q { a with defers := { target := .collected w.heap.size, args := #[] } :: a.defers } W) :
    (Code.rangeFunc g ps assign body).wp P Q a w := by
  refine wpIn_wide.1 (wpIn_rangeFunc (F := Fence.wide) (n := 9) fun fn hfn => ?_)
  let rec' : LoopState → Option Code → Loop := fun st pe => { state := st, pending := pe, fn, tmps := a.tmps, params := ps, assign, body, defers := w.heap.size }
  let W1 : World := (w.alloc (.deferred (some []))).alloc (.loop (rec' .ready none))
  have s1 : W1.heap.size = w.heap.size + 2 := by simp [W1]
  have hL1 : W1.heap[w.heap.size + 1]? = some (.loop (rec' .ready none)) := by
    have := World.alloc_heap_new (w.alloc (.deferred (some []))) (.loop (rec' .ready none))
    rwa [World.size_alloc] at this
  have hD1 : W1.heap[w.heap.size]? = some (.deferred (some [])) := (Below.heap_alloc _ _ _ (by simp)).trans (World.alloc_heap_new w _)
  have hkW : Keep (fun b => w.heap.size ≤ b ∧ b < w.heap.size + 2 + k) w W1 := ((Keep.refl _ w).alloc _).alloc _
  have wide : ∀ {J : World → Prop}, Rest w.heap.size (w.heap.size + 2 + k) J → Rest W1.heap.size (W1.heap.size + k) J := fun h => h.narrower (by omega) (by omega)
  have stay : ∀ {b : Nat} {o : Obj}, b < w.heap.size + 2 → Rest W1.heap.size (W1.heap.size + k) (fun W => W.heap[b]? = some o) := fun h => Rest.at (.inl (by omega))
  have put : ∀ {J : World → Prop} {W : World} (o : Obj), Rest w.heap.size (w.heap.size + 2 + k) J → J W → J (W.putObj (w.heap.size + 1) o) := fun o h hJ => h _ _ (keep_put _ _ _ ⟨by omega, by omega⟩) hJ
  refine ⟨w.heap.size + 1, [{ target := .collected w.heap.size, args := #[] }], W1, { target := .fn (.func gf) lb, args := #[.func (.yield (w.heap.size + 1)) #[] #[]] }, W1, gf,
    #[.func (.yield (w.heap.size + 1)) #[] #[]] ++ lb, W1, run_enterLoop_outer _ _ _ _ _, ?_, fun _ _ => trivial, ?_, fun _ => by omega, ?_⟩
  · simp only [resolve, hg]
    simp [go_sem]
  · simp [invoke, go_sem, eg]
  refine (hseq (w.heap.size + 1)
    (fun c m W => I c m W ∧ W.heap[w.heap.size + 1]? = some (.loop (rec' .ready none)) ∧ W.heap[w.heap.size]? = some (.deferred (some [])))
    (fun W => D W ∧ W.heap[w.heap.size + 1]? = some (.loop (rec' .ready none)) ∧ W.heap[w.heap.size]? = some (.deferred (some [])))
    (fun W => ∃ c, Ix c W ∧ W.heap[w.heap.size + 1]? = some (.loop (rec' .done (some c))) ∧ W.heap[w.heap.size]? = some (.deferred (some [])))
    n c0 W1 (fun c m W h => hready c m W h.1) (fun c m W h b hb => by have := hY c m W h.1 b hb; omega) (fun c m => (wide (hI c m)).and ((stay (by omega)).and (stay (by omega)))) ((wide hD).and ((stay (by omega)).and (stay (by omega))))
    (fun A B hk ⟨c, h1, h2, h3⟩ => ⟨c, wide (hIx c) A B hk h1, stay (by omega) A B hk h2, stay (by omega) A B hk h3⟩) ?_ (fun c m c' W0 W2 hsz ⟨hi, hl, hd⟩ hs => ?_) ⟨hI c0 n _ _ hkW h0, hL1, hD1⟩).mono ?_
  · -- one round
    rintro c m x c' W0 W hsz ⟨hi, hl0, hd0⟩ hs
    rw [s1] at hsz
    obtain ⟨hm, ht⟩ := hstep c m x c' W0 W hsz hi hs
    have hl := ht.own (.inr ⟨by omega, by omega⟩) hl0
    have hd := ht.own (.inr ⟨by omega, by omega⟩) hd0
    have hy := run_yield (P := P) (args := enc x) hl (hps x)
    have hszW : w.heap.size + 2 + k ≤ W.heap.size := Nat.le_trans hsz ht.size
    refine ⟨fn, _, assign, body, hy, roundIn_of_wpIn hfn (hassign _ c' m x W _ hm hszW (fun a1 Wa hla hma => ?_))⟩
    clear hy hm
    replace hl := hla.own (.inr ⟨by omega, by omega⟩) hl
    replace hd := hla.own (.inr ⟨by omega, by omega⟩) hd
    have hszA : w.heap.size + 2 + k ≤ Wa.heap.size := Nat.le_trans hszW hla.size
    have hlaX : Lets X W1.heap.size (W1.heap.size + k) W Wa := hla.sub (fun _ h => h) (by omega) (by omega)
    revert hlaX
    clear hla
    generalize W = Wb
    intro hlaX
    obtain ⟨W, rfl⟩ : ∃ W, W = Wa := ⟨_, rfl⟩
    have hlt : w.heap.size + 1 < W.heap.size := (Array.getElem?_eq_some_iff.1 hl).1
    refine ⟨_, run_beginRound hl rfl, ?_⟩
    have hl2 : (W.putObj (w.heap.size + 1) (.loop (rec' .busy none))).heap[w.heap.size + 1]? = some (.loop (rec' .busy none)) := World.putObj_heap_same hlt
    have hd2 : (W.putObj (w.heap.size + 1) (.loop (rec' .busy none))).heap[w.heap.size]? = some (.deferred (some [])) := (World.putObj_heap_other (by omega)).trans hd
    have out : ∀ (A : World) (o : Obj), Lets X W1.heap.size (W1.heap.size + k) A (A.putObj (w.heap.size + 1) o) := fun A o =>
      Lets.keep (F := fun b => b = w.heap.size + 1) (keep_put _ _ _ rfl) (fun b hb => ⟨fun h => by have := hX _ h; omega, by omega⟩)
    have fin : ∀ (jump : Option Code) (W3 : World), Lets X w.heap.size (w.heap.size + 2 + k) (W.putObj (w.heap.size + 1) (.loop (rec' .busy none))) W3 →
        (Instr.endRound (w.heap.size + 1) jump).run P W3 = .ok (.bool jump.isNone) (W3.putObj (w.heap.size + 1) (.loop (rec' (if jump.isNone then .ready else .done) jump))) ∧
        W3.heap[w.heap.size + 1]? = some (.loop (rec' .busy none)) ∧
        (W3.putObj (w.heap.size + 1) (.loop (rec' (if jump.isNone then .ready else .done) jump))).heap[w.heap.size + 1]? = some (.loop (rec' (if jump.isNone then .ready else .done) jump)) ∧
        (W3.putObj (w.heap.size + 1) (.loop (rec' (if jump.isNone then .ready else .done) jump))).heap[w.heap.size]? = some (.deferred (some [])) ∧
        Lets X W1.heap.size (W1.heap.size + k) W (W3.putObj (w.heap.size + 1) (.loop (rec' (if jump.isNone then .ready else .done) jump))) := fun jump W3 hk => by
      have h3 := hk.own (.inr ⟨by omega, by omega⟩) hl2
      have h4 := hk.own (.inr ⟨by omega, by omega⟩) hd2
      exact ⟨run_endRound (P := P) jump h3, h3, World.putObj_heap_same (Array.getElem?_eq_some_iff.1 h3).1, (World.putObj_heap_other (by omega)).trans h4, ((out _ _).trans (hk.sub (fun _ h => h) (by omega) (by omega))).trans (out _ _)⟩
    have leave : ∀ (c : Code) (W3 : World), Lets X w.heap.size (w.heap.size + 2 + k) (W.putObj (w.heap.size + 1) (.loop (rec' .busy none))) W3 → Ix c W3 →
        ∃ v W4, (Instr.endRound (w.heap.size + 1) (some c)).run P W3 = .ok v W4 ∧
          (Lets X W1.heap.size (W1.heap.size + k) Wb W4 ∧ ((Ending.returned v = .returned (.bool true) ∧ ∃ c2 j, j < m ∧ (I c2 j W4 ∧ W4.heap[w.heap.size + 1]? = some (.loop (rec' .ready none)) ∧ W4.heap[w.heap.size]? = some (.deferred (some [])))) ∨
           (Ending.returned v = .returned (.bool false) ∧ (∃ c, Ix c W4 ∧ W4.heap[w.heap.size + 1]? = some (.loop (rec' .done (some c))) ∧ W4.heap[w.heap.size]? = some (.deferred (some [])))))) := fun c W3 hk hi3 => by
      obtain ⟨hr, h3, h4, h5, h6⟩ := fin (some c) W3 hk
      exact ⟨_, _, hr, hlaX.trans h6, .inr ⟨rfl, ⟨c, put _ (hIx c) hi3, h4, h5⟩⟩⟩
    refine wpIn_mono (hbody _ c' m x a1 _ (put _ (hM c' m x a1) hma) (by simp; omega)) ?_
    rintro e a3 W3 hp
    cases e with
    | normal =>
      obtain ⟨hk, c2, j, hj, hi3⟩ := hp
      obtain ⟨hr, h3, h4, h5, h6⟩ := fin none W3 hk
      exact ⟨_, _, hr, hlaX.trans h6, .inl ⟨rfl, c2, j, hj, put _ (hI c2 j) hi3, h4, h5⟩⟩
    | ret => exact leave _ W3 hp.1 hp.2
    | exit id => exact leave _ W3 hp.1 hp.2
    | goto t => exact leave _ W3 hp.1 hp.2
    | panic ch => exact hp.elim
    | outgrown => exact hp.elim
  · rw [s1] at hsz
    obtain ⟨hdn, ht⟩ := hend c m c' W0 W2 hsz hi hs
    exact ⟨hdn, ht.own (.inr ⟨by omega, by omega⟩) hl, ht.own (.inr ⟨by omega, by omega⟩) hd⟩
  · -- behind the iterator
    rintro e W2 ⟨⟨v, rfl⟩, (⟨hi, hl, hd⟩ | ⟨c, hi, hl, hd⟩)⟩
    · exact ⟨none, _, run_endLoop (P := P) hl (by simp [rec']), hdone _ (put _ hD hi) ((World.putObj_heap_other (by omega)).trans hd)⟩
    · exact ⟨some c, _, run_endLoop (P := P) hl (by simp [rec']), wpIn_wide.2 (hstop c _ (put _ (hIx c) hi) ((World.putObj_heap_other (by omega)).trans hd))⟩

/-- The loop's law. -/
theorem wp_rangeM {α γ : Type} {P : Program} {g : Operand} {ps : Array Tmp} {assign body : Code} {Q : Exit → Act → World → Prop} {a : Act} {w : World} {gf : Nat} {lb : Array Value}
    (hg : a.eval g = .func (.func gf) #[] lb) (eg : ∀ args w, (callFunc gf args).run P w = .ok (.enter gf args) w)
    {enc : α → Array Value} {X : Nat → Prop} {k : Nat} {Ready : γ → World → Prop} {Step : γ → World → Option α → γ → World → Prop} {Y : γ → Nat → Prop} (hseq : SeqM P gf lb enc X k Ready Step Y) (hps : ∀ x, (enc x).size = ps.size) (hX : ∀ b, X b → b < w.heap.size)
    (I : γ → Nat → World → Prop) (M : γ → Nat → α → World → Prop) (D : World → Prop) (Ix : Code → World → Prop) (n : Nat) (c0 : γ)
    (hready : ∀ c m W, I c m W → Ready c W) (hY : ∀ c m W, I c m W → ∀ b, Y c b → ¬ (w.heap.size ≤ b ∧ b < w.heap.size + 2 + k))
    (hI : ∀ c m, Rest w.heap.size (w.heap.size + 2 + k) (I c m)) (hM : ∀ c m x, Rest w.heap.size (w.heap.size + 2 + k) (M c m x)) (hD : Rest w.heap.size (w.heap.size + 2 + k) D) (hIx : ∀ c, Rest w.heap.size (w.heap.size + 2 + k) (Ix c))
    (hstep : ∀ c m x c' W0 W1, w.heap.size + 2 + k ≤ W0.heap.size → I c m W0 → Step c W0 (some x) c' W1 → M c' m x W1 ∧ Lets X w.heap.size (w.heap.size + 2 + k) W0 W1)
    (hend : ∀ c m c' W0 W1, w.heap.size + 2 + k ≤ W0.heap.size → I c m W0 → Step c W0 none c' W1 → D W1 ∧ Lets X w.heap.size (w.heap.size + 2 + k) W0 W1)
    (h0 : I c0 n w) (a₁ : α → Act)
    (hassign : ∀ (l : Nat) (x : α) (W : World) (K : Act → World → Prop), K (a₁ x) W →
      assign.wpIn (Fence.wide.inRound l) 7 P (Exit.then K (fun _ _ _ => False)) { tmps := (ps.zip (enc x)).foldl (fun t (p, v) => t.setIfInBounds p v) a.tmps, defers := [] } W)
    (hbody : ∀ (l : Nat) (c : γ) (m : Nat) (x : α) (W : World), M c m x W → w.heap.size + 2 + k ≤ W.heap.size →
      body.wpIn (Fence.wide.inRound l) 7 P (afterM X w.heap.size (w.heap.size + 2 + k) I Ix m W) (a₁ x) W)
    (hdone : ∀ (W : World), D W → W.heap[w.heap.size]? = some (.deferred (some [])) → Q .normal { a with defers := { target := .collected w.heap.size, args := #[] } :: a.defers } W)
    (hstop : ∀ (c : Code) (W : World), Ix c W → W.heap[w.heap.size]? = some (.deferred (some [])) → c.wp P Q { a with defers := { target := .collected w.heap.size, args := #[] } :: a.defers } W) :
    (Code.rangeFunc g ps assign body).wp P Q a w :=
  wp_rangeN hg eg hseq hps hX I M (fun c m x a' W => a' = a₁ x ∧ M c m x W) D Ix n c0 hready hY hI (fun c m x a' => (Rest.pure _).and (hM c m x)) hD hIx hstep hend h0
    (fun l c m x W K hm _ hK => hassign l x W K (hK _ _ (Lets.refl _ _ _ _) ⟨rfl, hm⟩))
    (fun l c m x a' W h hsz => by obtain ⟨rfl, hm⟩ := h; exact hbody l c m x W hm hsz) hdone hstop
end Rf
end Go.Proofs.Ythjdpfmnbmnbhaa
