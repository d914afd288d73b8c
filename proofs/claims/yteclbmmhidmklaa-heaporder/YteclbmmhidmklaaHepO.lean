/- HeapOrder: the lists that the law makes, how they lie; two heaps. -/
import Derived.Test.YteclbmmhidmklaaHepW
import Derived.Test.YteclbmmhidmklaaHepE
import Derived.Deep.AppendLies
namespace Go.Proofs.Yteclbmmhidmklaa
set_option linter.ambiguousOpen false
open Go.RowKit
namespace Hh
open Ft
set_option linter.unusedSimpArgs false
set_option linter.unusedVariables false
attribute [local go_sem] Oper.semAt_some

/-! ### Each number once -/

/-- Each number with the first key that it comes with. -/
def onc (l : List It) : List It := l.foldl (fun O x => if hasH O (x.i % 64) then O else O ++ [⟨x.i % 64, x.k⟩]) []

theorem onc_take (l : List It) (k : Nat) (x : It) (hx : l[k]? = some x) : onc (l.take (k + 1)) = if hasH (onc (l.take k)) (x.i % 64) then onc (l.take k) else onc (l.take k) ++ [⟨x.i % 64, x.k⟩] := by
  obtain ⟨hk, hxe⟩ := List.getElem?_eq_some_iff.1 hx
  have e : l.take (k + 1) = l.take k ++ [x] := by rw [← hxe]; exact List.take_succ_eq_append_getElem hk
  rw [e]
  unfold onc
  rw [List.foldl_append]
  rfl

/-- Numbers from 0 to 63, all unlike. -/
structure Un (O : List It) : Prop where
  nd : O.Pairwise (fun a b => a.i ≠ b.i)
  rng : ∀ x ∈ O, 0 ≤ x.i ∧ x.i < 64

theorem Un.nil : Un [] := ⟨.nil, by simp⟩

theorem Un.snoc {O : List It} (h : Un O) {x : It} (hx : 0 ≤ x.i ∧ x.i < 64) (hn : hasH O x.i = false) : Un (O ++ [x]) := by
  refine ⟨?_, fun y hy => ?_⟩
  · rw [List.pairwise_append]
    refine ⟨h.nd, List.pairwise_singleton _ _, fun a ha b hb => ?_⟩
    obtain rfl := List.mem_singleton.1 hb
    unfold hasH at hn
    rw [List.any_eq_false] at hn
    simpa using hn a ha
  · rcases List.mem_append.1 hy with h1 | h1
    · exact h.rng y h1
    · obtain rfl := List.mem_singleton.1 h1
      exact hx

theorem onc_un (l : List It) (k : Nat) : Un (onc (l.take k)) := by
  induction k with
  | zero => exact Un.nil
  | succ k ih =>
    by_cases hk : k < l.length
    · rw [onc_take l k _ (List.getElem?_eq_getElem hk)]
      split
      · exact ih
      · rename_i hn
        exact ih.snoc ⟨Int.emod_nonneg _ (by decide), Int.emod_lt_of_pos _ (by decide)⟩ (by simpa using hn)
    · rw [List.take_of_length_le (by omega)] at ih ⊢
      exact ih

theorem Un.rev {O : List It} (h : Un O) : Un O.reverse := ⟨by
  rw [List.pairwise_reverse]
  exact h.nd.imp (fun h => Ne.symm h), fun x hx => h.rng x (List.mem_reverse.1 hx)⟩

theorem Un.few {O : List It} (h : Un O) : O.length ≤ 64 := by
  have h1 : (O.map (fun x => x.i.toNat)).Nodup := by
    rw [List.nodup_iff_pairwise_ne, List.pairwise_map]
    refine h.nd.imp_of_mem (fun ha hb hne => ?_)
    have := h.rng _ ha
    have := h.rng _ hb
    omega
  have h3 := few_of 64 _ h1 (fun n hn => by
    obtain ⟨x, hx, rfl⟩ := List.mem_map.1 hn
    have := h.rng x hx
    omega)
  simpa using h3

theorem fill_from : ∀ (O H : List It), O.Pairwise (fun a b => a.i ≠ b.i) → (∀ x ∈ O, 0 ≤ x.i ∧ x.i < 64) → ∀ y, y ∈ O.foldl (fun H x => setH H (x.i % 64) x.k) H ↔ y ∈ O ∨ (y ∈ H ∧ ∀ z ∈ O, z.i ≠ y.i)
  | [], H, _, _, y => by simp
  | x :: O, H, hn, hr, y => by
    have hx := hr x (by simp)
    have hm : x.i % 64 = x.i := Int.emod_eq_of_lt hx.1 hx.2
    obtain ⟨h1, h2⟩ := List.pairwise_cons.1 hn
    rw [List.foldl_cons, fill_from O _ h2 (fun z hz => hr z (by simp [hz])) y, hm, mem_setH, List.mem_cons]
    constructor
    · rintro (h | ⟨h | h, h3⟩)
      · exact .inl (.inr h)
      · exact .inl (.inl h)
      · refine .inr ⟨h.1, fun z hz => ?_⟩
        rcases List.mem_cons.1 hz with rfl | hz
        · exact fun e => h.2 e.symm
        · exact h3 z hz
    · rintro ((h | h) | ⟨h, h3⟩)
      · subst h
        exact .inr ⟨.inl rfl, fun z hz => fun e => h1 z hz e.symm⟩
      · exact .inl h
      · exact .inr ⟨.inr ⟨h, fun e => h3 x (by simp) e.symm⟩, fun z hz => h3 z (by simp [hz])⟩

theorem Un.fill {O : List It} (h : Un O) (y : It) : y ∈ fill O ↔ y ∈ O := by
  unfold Hh.fill
  rw [fill_from O [] h.nd h.rng y]
  simp

theorem Un.fill_rev {O : List It} (h : Un O) : Hh.fill O.reverse = Hh.fill O :=
  ext_mem (fill_good _) (fill_good _) (fun y => by rw [h.rev.fill, h.fill, List.mem_reverse])

theorem Un.key_none {O : List It} (h : Un O) {i : Int} (hn : hasH O i = false) : keyH (Hh.fill O) i = none := by
  cases e : keyH (Hh.fill O) i with
  | none => rfl
  | some k =>
    have := (h.fill _).1 ((keyH_mem (fill_good O)).1 e)
    unfold hasH at hn
    rw [List.any_eq_false] at hn
    exact absurd (by simp) (hn _ this)

theorem has_snoc (O : List It) (x : It) (i : Int) : hasH (O ++ [x]) i = (hasH O i || (x.i == i)) := by
  unfold hasH
  rw [List.any_append]
  simp

/-! ### How the law's lists lie -/

theorem infoPr : (Try.prog.info? 41).map (fun i => (i.zero, i.size, i.bytes)) = some (some (.agg #[.int .i64 0, .int .i64 0]), 2, 16) := by kernel_rfl

theorem own_rdQ {w : World} {base n : Nat} {v : Value} {L : List It} (h : w.ownsRow base 41 2 v n (L.flatMap It.cells)) (hn : L.length = n) : RdQ w v L := by
  subst hn
  rcases h.2 with ⟨h1, h2⟩ | ⟨g, c, cur, e1, _, h2, h3, h4, _⟩
  · exact ⟨none, 0, by rw [h1, h2], by omega, by unfold maxLen; omega, fun h0 => by omega⟩
  · subst e1
    refine ⟨_, c, rfl, h3, h4, fun _ => ⟨g, 0, rfl, (Array.getElem?_eq_some_iff.1 h2).1, fun k x hx => ?_⟩⟩
    obtain ⟨hk, hxe⟩ := List.getElem?_eq_some_iff.1 hx
    have f0 := flat_atI L k 0 hk (by omega)
    have f1 := flat_atI L k 1 hk (by omega)
    rw [hxe] at f0 f1
    have g0 := h.cells (g := g) rfl (k * 2 + 0) _ f0
    have g1 := h.cells (g := g) rfl (k * 2 + 1) _ f1
    rw [Addr.add_mid] at g0 g1
    exact ⟨g0, by rw [Nat.add_assoc]; exact g1⟩

/-- One pair in a row of its own. -/
theorem one_pair (w : World) (q k : Int) : (w.alloc (.cells #[nu q, nu k] 41)).ownsRow w.heap.size 41 2 (.slice (some ⟨w.heap.size, 0, none⟩) 1 1) 1 [nu q, nu k] :=
  ⟨rfl, .inr ⟨w.heap.size, 1, #[nu q, nu k], rfl, Nat.le_refl _, heap_alloc_new w _, Nat.le_refl _, by unfold maxLen; omega, rfl, rfl⟩⟩

/-- A list behind one pair. -/
theorem wpList_append_pr (w : World) {ops : Array Oper} {rest : List Oper} {o : Oper} {a : Act} {Q : Exit → Act → World → Prop} (hgd : o.guard = none) (s x : Operand)
    (ho : o.op = .call { callee := .builtin .append, args := #[s, x], argTypes := #[22, 22] })
    (base : Nat) (v : Value) (n : Nat) (xs : List Value) (hs : a.eval s = v) (hown : w.ownsRow base 41 2 v n xs)
    (va : Value) (base2 m : Nat) (P : List It) (hx : a.eval x = va) (h2 : w.ownsRow base2 41 2 va m (P.flatMap It.cells)) (hnm : n + m ≤ 1000) (hbase : base ≤ w.heap.size)
    (h : ∀ v' w', w'.ownsRow base 41 2 v' (n + m) (xs ++ P.flatMap It.cells) → w.grownBy w' v.ownBlock → wpList Try.prog ops Q rest (a.put o.dst v') w') : wpList Try.prog ops Q (o :: rest) a w := by
  obtain ⟨i0, hi, hz0, hz1, hz2⟩ := info_parts infoPr
  have hlm := h2.1
  have h2' := h2
  rcases h2.2 with ⟨rfl, rfl⟩ | ⟨g, cap, cur, rfl, _, hg, hc, hm, _⟩
  · have e : P.flatMap It.cells = [] := List.eq_nil_of_length_eq_zero (by omega)
    refine wpList_append_own_none hgd s x 22 ho base 41 i0 2 Try.underlying22 hi v n _ hs hown hx ?_
    refine h v w ?_ ⟨rfl, rfl, rfl, Nat.le_refl _, fun _ _ _ => rfl⟩
    rw [e, List.append_nil]
    exact hown
  · refine wpList_append_own w hgd s x 22 ho base 41 i0 (.agg #[.int .i64 0, .int .i64 0]) 2 16 Try.underlying22 hi hz0 hz1 hz2 rfl (by decide) v n _ hs hown ⟨g, 0, none⟩ m cap (P.flatMap It.cells) hx hlm (fun j u hu => h2'.cells (g := g) rfl j u hu) (one_flatI P) (by unfold maxLen; omega) (by omega) hbase ?_
    intro v' w' e1 e2 _
    exact h v' w' e1 e2

/-- A row of 64 bools. -/
def Sn (w : World) (Db : Nat) (f : Int → Bool) : Prop := w.heap[Db]? = some (.cells ((List.range 64).map (fun (j : Nat) => Value.bool (f j))).toArray 42)

@[reducible] def seenA : Array Value := #[.bool false, .bool false, .bool false, .bool false, .bool false, .bool false, .bool false, .bool false, .bool false, .bool false, .bool false, .bool false, .bool false, .bool false, .bool false, .bool false, .bool false, .bool false, .bool false, .bool false, .bool false, .bool false, .bool false, .bool false, .bool false, .bool false, .bool false, .bool false, .bool false, .bool false, .bool false, .bool false, .bool false, .bool false, .bool false, .bool false, .bool false, .bool false, .bool false, .bool false, .bool false, .bool false, .bool false, .bool false, .bool false, .bool false, .bool false, .bool false, .bool false, .bool false, .bool false, .bool false, .bool false, .bool false, .bool false, .bool false, .bool false, .bool false, .bool false, .bool false, .bool false, .bool false, .bool false, .bool false]

theorem seenA_eq : ((List.range 64).map (fun (_ : Nat) => Value.bool false)).toArray = seenA := by rfl

theorem Sn.cell {w : World} {Db : Nat} {f : Int → Bool} (h : Sn w Db f) {j : Nat} (hj : j < 64) : w.cell? ⟨Db, j, none⟩ = some (.bool (f j)) := by
  rw [cell_of_row w Db j _ _ _ h]
  simp [hj]

theorem Sn.frozen {w : World} {Db : Nat} {f : Int → Bool} (h : Sn w Db f) (j : Nat) : w.frozen? ⟨Db, j, none⟩ = false := by
  unfold Sn at h
  simp [World.frozen?, h]

theorem sn_new (w : World) : Sn (w.alloc (.cells seenA 42)) w.heap.size (fun _ => false) := by
  unfold Sn
  rw [seenA_eq]
  exact heap_alloc_new _ _

theorem Sn.set {w : World} {Db : Nat} {f : Int → Bool} (h : Sn w Db f) (j : Nat) : Sn (w.setCell ⟨Db, j, none⟩ (.bool true)) Db (fun t => f t || ((j : Int) == t)) := by
  unfold Sn at h ⊢
  rw [heap_setCell_same _ Db j _ _ _ h]
  refine congrArg (fun c => some (Obj.cells c 42 (0, 0))) (Array.toList_inj.1 ?_)
  rw [Array.toList_setIfInBounds]
  apply List.ext_getElem?
  intro t
  rw [List.getElem?_set]
  simp only [List.length_map, List.length_range, List.getElem?_map]
  by_cases e : j = t
  · subst e
    by_cases hj : j < 64
    · simp [hj]
    · simp [hj]
  · rw [if_neg e]
    by_cases ht : t < 64
    · have : ((j : Int) == (t : Int)) = false := by
        simp only [beq_eq_false_iff_ne]
        omega
      simp [ht, this]
    · simp [ht]

/-- Amid the law's first loop. -/
structure Od (w0 w : World) (O P : List It) (n m : Nat) (f : Int → Bool) (ov bv : Value) (Db : Nat) : Prop where
  lenO : O.length = n
  lenP : P.length = m
  once : w.ownsRow w0.heap.size 41 2 ov n (O.flatMap It.cells)
  back : w.ownsRow w0.heap.size 41 2 bv m (P.flatMap It.cells)
  seen : Sn w Db f
  n1 : ov.ownBlock ≠ some Db
  n2 : bv.ownBlock ≠ some Db
  n3 : ∀ j, ov.ownBlock = some j → bv.ownBlock ≠ some j
  lo : w0.heap.size ≤ Db
  bel : Below w0.heap.size w0 w

section
variable {w0 w w' : World} {O P : List It} {n m Db : Nat} {f : Int → Bool} {ov bv : Value}

theorem Od.lt (h : Od w0 w O P n m f ov bv Db) : Db < w.heap.size := (Array.getElem?_eq_some_iff.1 h.seen).1

theorem Od.below (h : Od w0 w O P n m f ov bv Db) (hb : Below w.heap.size w w') : Od w0 w' O P n m f ov bv Db := by
  have hk : Keep (fun _ => False) w w' := Keep.of_below hb
  exact ⟨h.lenO, h.lenP, hk.own h.once (fun _ _ h => h), hk.own h.back (fun _ _ h => h), (hb.block Db h.lt).trans h.seen, h.n1, h.n2, h.n3, h.lo, h.bel.trans (hb.mono h.bel.size)⟩

theorem Od.set (h : Od w0 w O P n m f ov bv Db) (j : Nat) : Od w0 (w.setCell ⟨Db, j, none⟩ (.bool true)) O P n m (fun t => f t || ((j : Int) == t)) ov bv Db := by
  have hk : Keep (fun k => k = Db) w (w.setCell ⟨Db, j, none⟩ (.bool true)) := (Keep.refl (fun k => k = Db) w).setCell (p := ⟨Db, j, none⟩) (.inl rfl) _
  exact ⟨h.lenO, h.lenP, hk.own h.once (fun g e e2 => h.n1 (by rw [e, e2])), hk.own h.back (fun g e e2 => h.n2 (by rw [e, e2])), h.seen.set j, h.n1, h.n2, h.n3, h.lo, h.bel.trans (hk.below (fun k hk e => by have := h.lo; omega) h.bel.size)⟩

theorem Od.app (h : Od w0 w O P n m f ov bv Db) {q k : Int} {g c : Nat} (ho : w'.ownsRow w0.heap.size 41 2 (.slice (some ⟨g, 0, none⟩) (n + 1) c) (n + 1) (O.flatMap It.cells ++ [nu q, nu k])) (hg : w.grownBy w' ov.ownBlock) (hat : ov.ownBlock = some g ∨ g = w.heap.size) : Od w0 w' (O ++ [⟨q, k⟩]) P (n + 1) m f (.slice (some ⟨g, 0, none⟩) (n + 1) c) bv Db := by
  have hk : Keep (fun j => ov.ownBlock = some j) w w' := (Keep.refl _ w).grown hg (fun j e => .inl e)
  have hlt := h.lt
  refine ⟨by rw [List.length_append, h.lenO]; rfl, h.lenP, ?_, hk.own h.back (fun j e e2 => h.n3 j e2 e), (hk.block Db hlt h.n1).trans h.seen, fun e => ?_, h.n2, fun j e e2 => ?_, h.lo, h.bel.trans (hk.below (fun j hj e => by have := (h.once.lt j e).1; omega) h.bel.size)⟩
  · rw [List.flatMap_append]
    exact ho
  · simp only [Value.ownBlock, Option.some.injEq] at e
    subst e
    rcases hat with e | e
    · exact h.n1 e
    · omega
  · simp only [Value.ownBlock, Option.some.injEq] at e
    subst e
    rcases hat with e | e
    · exact h.n3 _ e e2
    · have := (h.back.lt _ e2).2; omega

theorem Od.push (h : Od w0 w O P n m f ov bv Db) {q k : Int} {v : Value} (ho : w'.ownsRow w.heap.size 41 2 v (1 + m) ([nu q, nu k] ++ P.flatMap It.cells)) (hg : (w.alloc (.cells #[nu q, nu k] 41)).grownBy w' (some w.heap.size)) : Od w0 w' O (⟨q, k⟩ :: P) n (1 + m) f ov v Db := by
  have hb : Below w.heap.size w w' := ((Below.refl w.heap.size w).alloc (Nat.le_refl _) _).grown hg (by simp) (fun r e => by cases e; exact Nat.le_refl _)
  have hk : Keep (fun _ => False) w w' := Keep.of_below hb
  have hlt := h.lt
  have hbs := h.bel.size
  refine ⟨h.lenO, by rw [List.length_cons, h.lenP]; omega, hk.own h.once (fun _ _ h => h), own_monoI ho hbs, (hb.block Db hlt).trans h.seen, h.n1, fun e => ?_, fun j e e2 => ?_, h.lo, h.bel.trans (hb.mono hbs)⟩
  · have := (ho.lt Db e).1
    omega
  · have := (ho.lt j e2).1
    have := (h.once.lt j e).2
    omega
end

/-! ### Two heaps -/

structure Ab (R : RepHT) (w0 w : World) (p t : Nat) (S1 S2 : List It) : Prop where
  ex : ∃ F G, R w p F 64 S1 ∧ R w t G 64 S2 ∧ (∀ k, G k → ¬ F k) ∧ (∀ k, G k → w0.heap.size ≤ k) ∧ (∀ k, F k → w0.heap.size ≤ k)
  bel : Below w0.heap.size w0 w

section
variable {R : RepHT} {w0 w w' : World} {p t : Nat} {S1 S2 S : List It}

theorem Ab.below (C : HeapC R) (h : Ab R w0 w p t S1 S2) (hb : Below w.heap.size w w') : Ab R w0 w' p t S1 S2 := by
  obtain ⟨F, G, h1, h2, h3, h4, h5⟩ := h.ex
  exact ⟨⟨F, G, C.below h1 hb, C.below h2 hb, h3, h4, h5⟩, h.bel.trans (hb.mono h.bel.size)⟩

theorem Ab.flip (h : Ab R w0 w p t S1 S2) : Ab R w0 w t p S2 S1 := by
  obtain ⟨F, G, h1, h2, h3, h4, h5⟩ := h.ex
  exact ⟨⟨G, F, h2, h1, fun k hf hg => h3 k hg hf, h5, h4⟩, h.bel⟩

/-- All, of the first. -/
theorem Ab.all (C : HeapC R) (h : Ab R w0 w p t S1 S2) (hg : Hk 64 S1) : Calls Try.prog 9 #[ptr p] w fun e w' => ∃ gf lb, e = .returned (.func (.func gf) #[] lb) ∧ Hid (Ab R w0 w' p t S1 S2 ∧ Below w.heap.size w w' ∧ ∃ X, IterH w' (.func (.func gf) #[] lb) X S1) := by
  obtain ⟨F, G, h1, h2, h3, h4, h5⟩ := h.ex
  have hf := Hk.few (N := 64) hg
  refine (C.all w p F 64 S1 h1 hg (by omega)).mono ?_
  rintro e w' ⟨fv, X, rfl, hit, _, hb⟩
  obtain ⟨gf, lb, kk, rfl, _⟩ := id hit
  exact ⟨gf, lb, rfl, h.below C hb, hb, X, hit⟩

/-- What it hands out. -/
theorem Ab.pairs (C : HeapC R) (h : Ab R w0 w p t S1 S2) (hg : Hk 64 S) {fv : Value} (hit : ∃ X, IterH w fv X S) : Calls Try.prog 8 #[fv, nu 64] w fun e w' => ∃ a n c, e = .returned (.slice a n c) ∧ Hid (Ab R w0 w' p t S1 S2 ∧ Below w.heap.size w w' ∧ RdZ w' (.slice a n c) (prs S)) := by
  obtain ⟨X, hit⟩ := hit
  have hf := Hk.few (N := 64) hg
  have := pairs_any fv X S w 64 hit (by omega) (by decide)
  rw [List.take_of_length_le hf] at this
  refine this.mono ?_
  rintro e w' ⟨v, rfl, ho, hb⟩
  obtain ⟨a, c, rfl, _⟩ := Nm.own_shape ho
  exact ⟨a, _, c, rfl, h.below C hb, hb, own_rdZ ho⟩

/-- Set, of the second. -/
theorem Ab.set (C : HeapC R) (h : Ab R w0 w p t S1 S2) (hg : Hk 64 S2) (i key : Int) (hi : 0 ≤ i ∧ i < 64) : Calls Try.prog 16 #[ptr t, nu i, nu key] w fun e w' => e = .returned .nilIface ∧ Hid (Ab R w0 w' p t S1 (setH S2 i key)) := by
  obtain ⟨F, G, h1, h2, h3, h4, h5⟩ := h.ex
  have hf := Hk.few (N := 64) hg
  refine (C.setYes w t G 64 S2 i key h2 hg (by omega) hi).mono ?_
  rintro e w' ⟨rfl, G', g1, g2, g3⟩
  refine ⟨rfl, ⟨F, G', C.keep h1 g2 (fun k hf hg => h3 k hg hf), g1, fun k hk hf => ?_, fun k hk => ?_, h5⟩, h.bel.trans (g2.below (fun k hk e => by have := h4 k e; omega) h.bel.size)⟩
  · rcases g3 k hk with e | e
    · exact h3 k e hf
    · have := C.lt h1 k hf; omega
  · rcases g3 k hk with e | e
    · exact h4 k e
    · exact Nat.le_trans h.bel.size e

theorem Ab.drop (C : HeapC R) (h : Ab R w0 w p t S1 S2) (hg : Hk 64 S2) (i : Int) : Calls Try.prog 13 #[ptr t, nu i] w fun e w' => e = .returned (.bool (hasH S2 i)) ∧ Hid (Ab R w0 w' p t S1 (dropH S2 i)) := by
  obtain ⟨F, G, h1, h2, h3, h4, h5⟩ := h.ex
  have hf := Hk.few (N := 64) hg
  refine (C.drop w t G 64 S2 i h2 hg (by omega)).mono ?_
  rintro e w' ⟨rfl, G', g1, g2, g3⟩
  refine ⟨rfl, ⟨F, G', C.keep h1 g2 (fun k hf hg => h3 k hg hf), g1, fun k hk hf => ?_, fun k hk => ?_, h5⟩, h.bel.trans (g2.below (fun k hk e => by have := h4 k e; omega) h.bel.size)⟩
  · rcases g3 k hk with e | e
    · exact h3 k e hf
    · have := C.lt h1 k hf; omega
  · rcases g3 k hk with e | e
    · exact h4 k e
    · exact Nat.le_trans h.bel.size e
end
end Hh
end Go.Proofs.Yteclbmmhidmklaa
