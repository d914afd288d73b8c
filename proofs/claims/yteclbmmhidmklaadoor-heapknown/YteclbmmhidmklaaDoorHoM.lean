/- HepO, HepU, in one text. -/
import Derived.Test.YteclbmmhidmklaaDoorHwM
import Derived.Test.YteclbmmhidmklaaDoorHfM
import Derived.Deep.AppendLies
/- HeapOrder: the lists that the law makes, how they lie; two heaps. -/
namespace Go.Proofs.YteclbmmhidmklaaDoor
set_option linter.ambiguousOpen false
open Go.RowKit
namespace Hh
open Ft
set_option linter.unusedSimpArgs false
set_option linter.unusedVariables false
attribute [local go_sem] Oper.semAt_some

/-! ### Each number once -/

/-- Each number with the first key that it comes with. -/
def onc (l : List It) : List It := l.foldl (fun O x => if hasH O (x.i % 64) then O else O ++ [⟨x.i % 64, x.k⟩]) []

theorem onc_take (l : List It) (k : Nat) (x : It) (hx : l[k]? = some x) : onc (l.take (k + 1)) = if hasH (onc (l.take k)) (x.i % 64) then onc (l.take k) else onc (l.take k) ++ [⟨x.i % 64, x.k⟩] := by
  obtain ⟨hk, hxe⟩ := List.getElem?_eq_some_iff.1 hx
  have e : l.take (k + 1) = l.take k ++ [x] := by rw [← hxe]; exact List.take_succ_eq_append_getElem hk
  rw [e]
  unfold onc
  rw [List.foldl_append]
  rfl

/-- Numbers from 0 to 63, all unlike. -/
structure Un (O : List It) : Prop where
  nd : O.Pairwise (fun a b => a.i ≠ b.i)
  rng : ∀ x ∈ O, 0 ≤ x.i ∧ x.i < 64

theorem Un.nil : Un [] := ⟨.nil, by simp⟩

theorem Un.snoc {O : List It} (h : Un O) {x : It} (hx : 0 ≤ x.i ∧ x.i < 64) (hn : hasH O x.i = false) : Un (O ++ [x]) := by
  refine ⟨?_, fun y hy => ?_⟩
  · rw [List.pairwise_append]
    refine ⟨h.nd, List.pairwise_singleton _ _, fun a ha b hb => ?_⟩
    obtain rfl := List.mem_singleton.1 hb
    unfold hasH at hn
    rw [List.any_eq_false] at hn
    simpa using hn a ha
  · rcases List.mem_append.1 hy with h1 | h1
    · exact h.rng y h1
    · obtain rfl := List.mem_singleton.1 h1
      exact hx

theorem onc_un (l : List It) (k : Nat) : Un (onc (l.take k)) := by
  induction k with
  | zero => exact Un.nil
  | succ k ih =>
    by_cases hk : k < l.length
    · rw [onc_take l k _ (List.getElem?_eq_getElem hk)]
      split
      · exact ih
      · rename_i hn
        exact ih.snoc ⟨Int.emod_nonneg _ (by decide), Int.emod_lt_of_pos _ (by decide)⟩ (by simpa using hn)
    · rw [List.take_of_length_le (by omega)] at ih ⊢
      exact ih

theorem Un.rev {O : List It} (h : Un O) : Un O.reverse := ⟨by
  rw [List.pairwise_reverse]
  exact h.nd.imp (fun h => Ne.symm h), fun x hx => h.rng x (List.mem_reverse.1 hx)⟩

theorem Un.few {O : List It} (h : Un O) : O.length ≤ 64 := by
  have h1 : (O.map (fun x => x.i.toNat)).Nodup := by
    rw [List.nodup_iff_pairwise_ne, List.pairwise_map]
    refine h.nd.imp_of_mem (fun ha hb hne => ?_)
    have := h.rng _ ha
    have := h.rng _ hb
    omega
  have h3 := few_of 64 _ h1 (fun n hn => by
    obtain ⟨x, hx, rfl⟩ := List.mem_map.1 hn
    have := h.rng x hx
    omega)
  simpa using h3

theorem fill_from : ∀ (O H : List It), O.Pairwise (fun a b => a.i ≠ b.i) → (∀ x ∈ O, 0 ≤ x.i ∧ x.i < 64) → ∀ y, y ∈ O.foldl (fun H x => setH H (x.i % 64) x.k) H ↔ y ∈ O ∨ (y ∈ H ∧ ∀ z ∈ O, z.i ≠ y.i)
  | [], H, _, _, y => by simp
  | x :: O, H, hn, hr, y => by
    have hx := hr x (by simp)
    have hm : x.i % 64 = x.i := Int.emod_eq_of_lt hx.1 hx.2
    obtain ⟨h1, h2⟩ := List.pairwise_cons.1 hn
    rw [List.foldl_cons, fill_from O _ h2 (fun z hz => hr z (by simp [hz])) y, hm, mem_setH, List.mem_cons]
    constructor
    · rintro (h | ⟨h | h, h3⟩)
      · exact .inl (.inr h)
      · exact .inl (.inl h)
      · refine .inr ⟨h.1, fun z hz => ?_⟩
        rcases List.mem_cons.1 hz with rfl | hz
        · exact fun e => h.2 e.symm
        · exact h3 z hz
    · rintro ((h | h) | ⟨h, h3⟩)
      · subst h
        exact .inr ⟨.inl rfl, fun z hz => fun e => h1 z hz e.symm⟩
      · exact .inl h
      · exact .inr ⟨.inr ⟨h, fun e => h3 x (by simp) e.symm⟩, fun z hz => h3 z (by simp [hz])⟩

theorem Un.fill {O : List It} (h : Un O) (y : It) : y ∈ fill O ↔ y ∈ O := by
  unfold Hh.fill
  rw [fill_from O [] h.nd h.rng y]
  simp

theorem Un.fill_rev {O : List It} (h : Un O) : Hh.fill O.reverse = Hh.fill O :=
  ext_mem (fill_good _) (fill_good _) (fun y => by rw [h.rev.fill, h.fill, List.mem_reverse])

theorem Un.key_none {O : List It} (h : Un O) {i : Int} (hn : hasH O i = false) : keyH (Hh.fill O) i = none := by
  cases e : keyH (Hh.fill O) i with
  | none => rfl
  | some k =>
    have := (h.fill _).1 ((keyH_mem (fill_good O)).1 e)
    unfold hasH at hn
    rw [List.any_eq_false] at hn
    exact absurd (by simp) (hn _ this)

theorem has_snoc (O : List It) (x : It) (i : Int) : hasH (O ++ [x]) i = (hasH O i || (x.i == i)) := by
  unfold hasH
  rw [List.any_append]
  simp

/-! ### How the law's lists lie -/

theorem infoPr : (Tryd.prog.info? 77).map (fun i => (i.zero, i.size, i.bytes)) = some (some (.agg #[.int .i64 0, .int .i64 0]), 2, 16) := by kernel_rfl

theorem own_rdQ {w : World} {base n : Nat} {v : Value} {L : List It} (h : w.ownsRow base 77 2 v n (L.flatMap It.cells)) (hn : L.length = n) : RdQ w v L := by
  subst hn
  rcases h.2 with ⟨h1, h2⟩ | ⟨g, c, cur, e1, _, h2, h3, h4, _⟩
  · exact ⟨none, 0, by rw [h1, h2], by omega, by unfold maxLen; omega, fun h0 => by omega⟩
  · subst e1
    refine ⟨_, c, rfl, h3, h4, fun _ => ⟨g, 0, rfl, (Array.getElem?_eq_some_iff.1 h2).1, fun k x hx => ?_⟩⟩
    obtain ⟨hk, hxe⟩ := List.getElem?_eq_some_iff.1 hx
    have f0 := flat_atI L k 0 hk (by omega)
    have f1 := flat_atI L k 1 hk (by omega)
    rw [hxe] at f0 f1
    have g0 := h.cells (g := g) rfl (k * 2 + 0) _ f0
    have g1 := h.cells (g := g) rfl (k * 2 + 1) _ f1
    rw [Addr.add_mid] at g0 g1
    exact ⟨g0, by rw [Nat.add_assoc]; exact g1⟩

/-- One pair in a row of its own. -/
theorem one_pair (w : World) (q k : Int) : (w.alloc (.cells #[nu q, nu k] 77)).ownsRow w.heap.size 77 2 (.slice (some ⟨w.heap.size, 0, none⟩) 1 1) 1 [nu q, nu k] :=
  ⟨rfl, .inr ⟨w.heap.size, 1, #[nu q, nu k], rfl, Nat.le_refl _, heap_alloc_new w _, Nat.le_refl _, by unfold maxLen; omega, rfl, rfl⟩⟩

/-- A list behind one pair. -/
theorem wpList_append_pr (w : World) {ops : Array Oper} {rest : List Oper} {o : Oper} {a : Act} {Q : Exit → Act → World → Prop} (hgd : o.guard = none) (s x : Operand)
    (ho : o.op = .call { callee := .builtin .append, args := #[s, x], argTypes := #[76, 76] })
    (base : Nat) (v : Value) (n : Nat) (xs : List Value) (hs : a.eval s = v) (hown : w.ownsRow base 77 2 v n xs)
    (va : Value) (base2 m : Nat) (P : List It) (hx : a.eval x = va) (h2 : w.ownsRow base2 77 2 va m (P.flatMap It.cells)) (hnm : n + m ≤ 1000) (hbase : base ≤ w.heap.size)
    (h : ∀ v' w', w'.ownsRow base 77 2 v' (n + m) (xs ++ P.flatMap It.cells) → w.grownBy w' v.ownBlock → wpList Tryd.prog ops Q rest (a.put o.dst v') w') : wpList Tryd.prog ops Q (o :: rest) a w := by
  obtain ⟨i0, hi, hz0, hz1, hz2⟩ := info_parts infoPr
  have hlm := h2.1
  have h2' := h2
  rcases h2.2 with ⟨rfl, rfl⟩ | ⟨g, cap, cur, rfl, _, hg, hc, hm, _⟩
  · have e : P.flatMap It.cells = [] := List.eq_nil_of_length_eq_zero (by omega)
    refine wpList_append_own_none hgd s x 76 ho base 77 i0 2 Tryd.underlying76 hi v n _ hs hown hx ?_
    refine h v w ?_ ⟨rfl, rfl, rfl, Nat.le_refl _, fun _ _ _ => rfl⟩
    rw [e, List.append_nil]
    exact hown
  · refine wpList_append_own w hgd s x 76 ho base 77 i0 (.agg #[.int .i64 0, .int .i64 0]) 2 16 Tryd.underlying76 hi hz0 hz1 hz2 rfl (by decide) v n _ hs hown ⟨g, 0, none⟩ m cap (P.flatMap It.cells) hx hlm (fun j u hu => h2'.cells (g := g) rfl j u hu) (one_flatI P) (by unfold maxLen; omega) (by omega) hbase ?_
    intro v' w' e1 e2 _
    exact h v' w' e1 e2

/-- A row of 64 bools. -/
def Sn (w : World) (Db : Nat) (f : Int → Bool) : Prop := w.heap[Db]? = some (.cells ((List.range 64).map (fun (j : Nat) => Value.bool (f j))).toArray 100)

@[reducible] def seenA : Array Value := #[.bool false, .bool false, .bool false, .bool false, .bool false, .bool false, .bool false, .bool false, .bool false, .bool false, .bool false, .bool false, .bool false, .bool false, .bool false, .bool false, .bool false, .bool false, .bool false, .bool false, .bool false, .bool false, .bool false, .bool false, .bool false, .bool false, .bool false, .bool false, .bool false, .bool false, .bool false, .bool false, .bool false, .bool false, .bool false, .bool false, .bool false, .bool false, .bool false, .bool false, .bool false, .bool false, .bool false, .bool false, .bool false, .bool false, .bool false, .bool false, .bool false, .bool false, .bool false, .bool false, .bool false, .bool false, .bool false, .bool false, .bool false, .bool false, .bool false, .bool false, .bool false, .bool false, .bool false, .bool false]

theorem seenA_eq : ((List.range 64).map (fun (_ : Nat) => Value.bool false)).toArray = seenA := by rfl

theorem Sn.cell {w : World} {Db : Nat} {f : Int → Bool} (h : Sn w Db f) {j : Nat} (hj : j < 64) : w.cell? ⟨Db, j, none⟩ = some (.bool (f j)) := by
  rw [cell_of_row w Db j _ _ _ h]
  simp [hj]

theorem Sn.frozen {w : World} {Db : Nat} {f : Int → Bool} (h : Sn w Db f) (j : Nat) : w.frozen? ⟨Db, j, none⟩ = false := by
  unfold Sn at h
  simp [World.frozen?, h]

theorem sn_new (w : World) : Sn (w.alloc (.cells seenA 100)) w.heap.size (fun _ => false) := by
  unfold Sn
  rw [seenA_eq]
  exact heap_alloc_new _ _

theorem Sn.set {w : World} {Db : Nat} {f : Int → Bool} (h : Sn w Db f) (j : Nat) : Sn (w.setCell ⟨Db, j, none⟩ (.bool true)) Db (fun t => f t || ((j : Int) == t)) := by
  unfold Sn at h ⊢
  rw [heap_setCell_same _ Db j _ _ _ h]
  refine congrArg (fun c => some (Obj.cells c 100 (0, 0))) (Array.toList_inj.1 ?_)
  rw [Array.toList_setIfInBounds]
  apply List.ext_getElem?
  intro t
  rw [List.getElem?_set]
  simp only [List.length_map, List.length_range, List.getElem?_map]
  by_cases e : j = t
  · subst e
    by_cases hj : j < 64
    · simp [hj]
    · simp [hj]
  · rw [if_neg e]
    by_cases ht : t < 64
    · have : ((j : Int) == (t : Int)) = false := by
        simp only [beq_eq_false_iff_ne]
        omega
      simp [ht, this]
    · simp [ht]

/-- Amid the law's first loop. -/
structure Od (w0 w : World) (O P : List It) (n m : Nat) (f : Int → Bool) (ov bv : Value) (Db : Nat) : Prop where
  lenO : O.length = n
  lenP : P.length = m
  once : w.ownsRow w0.heap.size 77 2 ov n (O.flatMap It.cells)
  back : w.ownsRow w0.heap.size 77 2 bv m (P.flatMap It.cells)
  seen : Sn w Db f
  n1 : ov.ownBlock ≠ some Db
  n2 : bv.ownBlock ≠ some Db
  n3 : ∀ j, ov.ownBlock = some j → bv.ownBlock ≠ some j
  lo : w0.heap.size ≤ Db
  bel : Below w0.heap.size w0 w

section
variable {w0 w w' : World} {O P : List It} {n m Db : Nat} {f : Int → Bool} {ov bv : Value}

theorem Od.lt (h : Od w0 w O P n m f ov bv Db) : Db < w.heap.size := (Array.getElem?_eq_some_iff.1 h.seen).1

theorem Od.below (h : Od w0 w O P n m f ov bv Db) (hb : Below w.heap.size w w') : Od w0 w' O P n m f ov bv Db := by
  have hk : Keep (fun _ => False) w w' := Keep.of_below hb
  exact ⟨h.lenO, h.lenP, hk.own h.once (fun _ _ h => h), hk.own h.back (fun _ _ h => h), (hb.block Db h.lt).trans h.seen, h.n1, h.n2, h.n3, h.lo, h.bel.trans (hb.mono h.bel.size)⟩

theorem Od.set (h : Od w0 w O P n m f ov bv Db) (j : Nat) : Od w0 (w.setCell ⟨Db, j, none⟩ (.bool true)) O P n m (fun t => f t || ((j : Int) == t)) ov bv Db := by
  have hk : Keep (fun k => k = Db) w (w.setCell ⟨Db, j, none⟩ (.bool true)) := (Keep.refl (fun k => k = Db) w).setCell (p := ⟨Db, j, none⟩) (.inl rfl) _
  exact ⟨h.lenO, h.lenP, hk.own h.once (fun g e e2 => h.n1 (by rw [e, e2])), hk.own h.back (fun g e e2 => h.n2 (by rw [e, e2])), h.seen.set j, h.n1, h.n2, h.n3, h.lo, h.bel.trans (hk.below (fun k hk e => by have := h.lo; omega) h.bel.size)⟩

theorem Od.app (h : Od w0 w O P n m f ov bv Db) {q k : Int} {g c : Nat} (ho : w'.ownsRow w0.heap.size 77 2 (.slice (some ⟨g, 0, none⟩) (n + 1) c) (n + 1) (O.flatMap It.cells ++ [nu q, nu k])) (hg : w.grownBy w' ov.ownBlock) (hat : ov.ownBlock = some g ∨ g = w.heap.size) : Od w0 w' (O ++ [⟨q, k⟩]) P (n + 1) m f (.slice (some ⟨g, 0, none⟩) (n + 1) c) bv Db := by
  have hk : Keep (fun j => ov.ownBlock = some j) w w' := (Keep.refl _ w).grown hg (fun j e => .inl e)
  have hlt := h.lt
  refine ⟨by rw [List.length_append, h.lenO]; rfl, h.lenP, ?_, hk.own h.back (fun j e e2 => h.n3 j e2 e), (hk.block Db hlt h.n1).trans h.seen, fun e => ?_, h.n2, fun j e e2 => ?_, h.lo, h.bel.trans (hk.below (fun j hj e => by have := (h.once.lt j e).1; omega) h.bel.size)⟩
  · rw [List.flatMap_append]
    exact ho
  · simp only [Value.ownBlock, Option.some.injEq] at e
    subst e
    rcases hat with e | e
    · exact h.n1 e
    · omega
  · simp only [Value.ownBlock, Option.some.injEq] at e
    subst e
    rcases hat with e | e
    · exact h.n3 _ e e2
    · have := (h.back.lt _ e2).2; omega

theorem Od.push (h : Od w0 w O P n m f ov bv Db) {q k : Int} {v : Value} (ho : w'.ownsRow w.heap.size 77 2 v (1 + m) ([nu q, nu k] ++ P.flatMap It.cells)) (hg : (w.alloc (.cells #[nu q, nu k] 77)).grownBy w' (some w.heap.size)) : Od w0 w' O (⟨q, k⟩ :: P) n (1 + m) f ov v Db := by
  have hb : Below w.heap.size w w' := ((Below.refl w.heap.size w).alloc (Nat.le_refl _) _).grown hg (by simp) (fun r e => by cases e; exact Nat.le_refl _)
  have hk : Keep (fun _ => False) w w' := Keep.of_below hb
  have hlt := h.lt
  have hbs := h.bel.size
  refine ⟨h.lenO, by rw [List.length_cons, h.lenP]; omega, hk.own h.once (fun _ _ h => h), own_monoI ho hbs, (hb.block Db hlt).trans h.seen, h.n1, fun e => ?_, fun j e e2 => ?_, h.lo, h.bel.trans (hb.mono hbs)⟩
  · have := (ho.lt Db e).1
    omega
  · have := (ho.lt j e2).1
    have := (h.once.lt j e).2
    omega
end

/-! ### Two heaps -/

structure Ab (R : RepHT) (w0 w : World) (p t : Nat) (S1 S2 : List It) : Prop where
  ex : ∃ F G, R w p F 64 S1 ∧ R w t G 64 S2 ∧ (∀ k, G k → ¬ F k) ∧ (∀ k, G k → w0.heap.size ≤ k) ∧ (∀ k, F k → w0.heap.size ≤ k)
  bel : Below w0.heap.size w0 w

section
variable {R : RepHT} {w0 w w' : World} {p t : Nat} {S1 S2 S : List It}

theorem Ab.below (C : HeapC R) (h : Ab R w0 w p t S1 S2) (hb : Below w.heap.size w w') : Ab R w0 w' p t S1 S2 := by
  obtain ⟨F, G, h1, h2, h3, h4, h5⟩ := h.ex
  exact ⟨⟨F, G, C.below h1 hb, C.below h2 hb, h3, h4, h5⟩, h.bel.trans (hb.mono h.bel.size)⟩

theorem Ab.flip (h : Ab R w0 w p t S1 S2) : Ab R w0 w t p S2 S1 := by
  obtain ⟨F, G, h1, h2, h3, h4, h5⟩ := h.ex
  exact ⟨⟨G, F, h2, h1, fun k hf hg => h3 k hg hf, h5, h4⟩, h.bel⟩

/-- All, of the first. -/
theorem Ab.all (C : HeapC R) (h : Ab R w0 w p t S1 S2) (hg : Hk 64 S1) : Calls Tryd.prog 8 #[ptr p] w fun e w' => ∃ gf lb, e = .returned (.func (.func gf) #[] lb) ∧ Hid (Ab R w0 w' p t S1 S2 ∧ Below w.heap.size w w' ∧ ∃ X, IterH w' (.func (.func gf) #[] lb) X S1) := by
  obtain ⟨F, G, h1, h2, h3, h4, h5⟩ := h.ex
  have hf := Hk.few (N := 64) hg
  refine (C.all w p F 64 S1 h1 hg (by omega)).mono ?_
  rintro e w' ⟨fv, X, rfl, hit, _, hb⟩
  obtain ⟨gf, lb, kk, rfl, _⟩ := id hit
  exact ⟨gf, lb, rfl, h.below C hb, hb, X, hit⟩

/-- What it hands out. -/
theorem Ab.pairs (C : HeapC R) (h : Ab R w0 w p t S1 S2) (hg : Hk 64 S) {fv : Value} (hit : ∃ X, IterH w fv X S) : Calls Tryd.prog 14 #[fv, nu 64] w fun e w' => ∃ a n c, e = .returned (.slice a n c) ∧ Hid (Ab R w0 w' p t S1 S2 ∧ Below w.heap.size w w' ∧ RdZ w' (.slice a n c) (prs S)) := by
  obtain ⟨X, hit⟩ := hit
  have hf := Hk.few (N := 64) hg
  have := pairs_any fv X S w 64 hit (by omega) (by decide)
  rw [List.take_of_length_le hf] at this
  refine this.mono ?_
  rintro e w' ⟨v, rfl, ho, hb⟩
  obtain ⟨a, c, rfl, _⟩ := Nm.own_shape ho
  exact ⟨a, _, c, rfl, h.below C hb, hb, own_rdZ ho⟩

/-- Set, of the second. -/
theorem Ab.set (C : HeapC R) (h : Ab R w0 w p t S1 S2) (hg : Hk 64 S2) (i key : Int) (hi : 0 ≤ i ∧ i < 64) : Calls Tryd.prog 15 #[ptr t, nu i, nu key] w fun e w' => e = .returned .nilIface ∧ Hid (Ab R w0 w' p t S1 (setH S2 i key)) := by
  obtain ⟨F, G, h1, h2, h3, h4, h5⟩ := h.ex
  have hf := Hk.few (N := 64) hg
  refine (C.setYes w t G 64 S2 i key h2 hg (by omega) hi).mono ?_
  rintro e w' ⟨rfl, G', g1, g2, g3⟩
  refine ⟨rfl, ⟨F, G', C.keep h1 g2 (fun k hf hg => h3 k hg hf), g1, fun k hk hf => ?_, fun k hk => ?_, h5⟩, h.bel.trans (g2.below (fun k hk e => by have := h4 k e; omega) h.bel.size)⟩
  · rcases g3 k hk with e | e
    · exact h3 k e hf
    · have := C.lt h1 k hf; omega
  · rcases g3 k hk with e | e
    · exact h4 k e
    · exact Nat.le_trans h.bel.size e

theorem Ab.drop (C : HeapC R) (h : Ab R w0 w p t S1 S2) (hg : Hk 64 S2) (i : Int) : Calls Tryd.prog 11 #[ptr t, nu i] w fun e w' => e = .returned (.bool (hasH S2 i)) ∧ Hid (Ab R w0 w' p t S1 (dropH S2 i)) := by
  obtain ⟨F, G, h1, h2, h3, h4, h5⟩ := h.ex
  have hf := Hk.few (N := 64) hg
  refine (C.drop w t G 64 S2 i h2 hg (by omega)).mono ?_
  rintro e w' ⟨rfl, G', g1, g2, g3⟩
  refine ⟨rfl, ⟨F, G', C.keep h1 g2 (fun k hf hg => h3 k hg hf), g1, fun k hk hf => ?_, fun k hk => ?_, h5⟩, h.bel.trans (g2.below (fun k hk e => by have := h4 k e; omega) h.bel.size)⟩
  · rcases g3 k hk with e | e
    · exact h3 k e hf
    · have := C.lt h1 k hf; omega
  · rcases g3 k hk with e | e
    · exact h4 k e
    · exact Nat.le_trans h.bel.size e
end
end Hh
end Go.Proofs.YteclbmmhidmklaaDoor
/- HeapOrder: its walk, out of what the program's heap answers. -/
namespace Go.Proofs.YteclbmmhidmklaaDoor
set_option linter.ambiguousOpen false
open Go.RowKit
namespace Hh
open Ft
set_option linter.unusedSimpArgs false
set_option linter.unusedVariables false
attribute [local go_sem] Oper.semAt_some

set_option maxRecDepth 1000000 in
set_option maxHeartbeats 16000000 in
theorem heapOrder_yes {R : RepHT} (C : HeapC R) (v : Value) (l : List It) (bi bk : Int) (w : World) (hR : RdQ w v l) (hF : ∀ x ∈ l, I64 x.i) (hbi : I64 bi) :
    Calls Tryd.prog 39 #[v, .agg #[nu bi, nu bk]] w fun e w' => e = .returned (.bool true) ∧ Below w.heap.size w w' := by
  obtain ⟨i0, ji, hz0, hz1, hz2⟩ := info_parts infoPr
  have hB0 : Below w.heap.size w (w.alloc (.cells #[nu bi, nu bk] 77)) := (Below.refl _ _).alloc (Nat.le_refl _) _
  have hc0 : (w.alloc (.cells #[nu bi, nu bk] 77)).cell? ⟨w.heap.size, 0, none⟩ = some (nu bi) ∧ (w.alloc (.cells #[nu bi, nu bk] 77)).cell? ⟨w.heap.size, 1, none⟩ = some (nu bk) := by
    have h9 : (w.alloc (.cells #[nu bi, nu bk] 77)).heap[w.heap.size]? = some (.cells #[nu bi, nu bk] 77) := heap_alloc_new _ _
    exact ⟨by rw [cell_of_row _ _ 0 _ _ _ h9]; rfl, by rw [cell_of_row _ _ 1 _ _ _ h9]; rfl⟩
  obtain ⟨hb, hhb⟩ : ∃ hb, w.heap.size = hb := ⟨_, rfl⟩
  obtain ⟨W0, hW0⟩ : ∃ W0, w.alloc (.cells #[nu bi, nu bk] 77) = W0 := ⟨_, rfl⟩
  have hsz : hb < W0.heap.size := by rw [← hW0, ← hhb]; simp
  rw [hW0, hhb] at hc0
  rw [hW0] at hB0
  have HW0 := Hid.mk' hW0
  have HHB := Hid.mk' hhb
  have HB0 := Hid.mk' hB0
  have HHX : Hid (∀ wx, Below W0.heap.size W0 wx → wx.cell? ⟨hb, 0, none⟩ = some (nu bi) ∧ wx.cell? ⟨hb, 1, none⟩ = some (nu bk)) := fun wx hbx => ⟨(hbx.cell (p := ⟨hb, 0, none⟩) hsz).trans hc0.1, (hbx.cell (p := ⟨hb, 1, none⟩) hsz).trans hc0.2⟩
  have HRQ := Hid.mk' (hR.below hB0)
  obtain ⟨av, cv, rfl, hc1, hc2, hcell⟩ := hR.below hB0
  have cW : Hid (∀ wx, Calls Tryd.prog 37 #[] wx fun e w' => e = .returned (.bool true) ∧ Below wx.heap.size wx w') := fun wx => works_any C.toHeapB wx
  obtain ⟨m, hm⟩ : ∃ m, l.length = m := ⟨_, rfl⟩
  have HM := Hid.mk' hm
  have HF := Hid.mk' hF
  have HCL := Hid.mk' hcell
  rw [hm] at hc1 HRQ ⊢
  unfold maxLen at hc2
  have hcI : (cv : Int) ≤ 9223372036854775807 := by omega
  clear hcell hF hm hB0 hW0 hc0 hsz hR
  by_cases hbig : m > 1000
  · have hbI : (m : Int) > 1000 := by omega
    clear hhb
    go_enter Tryd.func39, Tryd.ntmps39
    go_upto_region 1 with fail
    rw [HW0.out, HHB.out]
    go_wp2_with fail
    refine (cW.out W0).mono ?_
    rintro e w1 ⟨rfl, b1⟩
    have HB1 := Hid.mk' b1
    clear b1
    go_wp2_with fail
    refine (cW.out w1).mono ?_
    rintro e w2 ⟨rfl, b2⟩
    have HB2 := Hid.mk' (HB1.out.trans (b2.mono HB1.out.size))
    clear b2
    go_wp2
    go_ret
    exact ⟨rfl, HB0.out.trans (HB2.out.mono HB0.out.size)⟩
  · have hbI : ¬ (m : Int) > 1000 := by omega
    have hm1000 : m ≤ 1000 := by omega
    clear hhb
    go_enter Tryd.func39, Tryd.ntmps39
    go_upto_region 1 with fail
    rw [HW0.out, HHB.out]
    go_wp2_with fail
    refine (cW.out W0).mono ?_
    rintro e w3 ⟨rfl, b1⟩
    have HB1 := Hid.mk' b1
    clear b1 cW
    go_upto_region 5 with fail
    obtain ⟨Db, hDb⟩ : ∃ Db, w3.heap.size = Db := ⟨_, rfl⟩
    have hdz := sn_new w3
    rw [hDb] at hdz
    have hb34 : Below w3.heap.size w3 (w3.alloc (.cells seenA 100)) := (Below.refl _ _).alloc (Nat.le_refl _) _
    obtain ⟨W4, hW4⟩ : ∃ W4, w3.alloc (.cells seenA 100) = W4 := ⟨_, rfl⟩
    rw [hW4] at hdz hb34
    have HD0 : Hid (Od W0 W4 [] [] 0 0 (hasH []) (.slice none 0 0) (.slice none 0 0) Db) := by
      have := HB1.out.size
      exact ⟨rfl, rfl, World.ownsRow_nil _ _ _ _, World.ownsRow_nil _ _ _ _, hdz, fun e => by simp [Value.ownBlock] at e, fun e => by simp [Value.ownBlock] at e, fun j e => by simp [Value.ownBlock] at e, by omega, HB1.out.trans (hb34.mono HB1.out.size)⟩
    show Code.wp Tryd.prog _ _ _ (w3.alloc (.cells seenA 100))
    rw [hW4, hDb]
    clear hdz hb34 hW4 hDb HB1
    go_wp2_with fail
    go_loopw [5, 6, 8, 9] (fun ov bv kv _ wr => ∃ k n : Nat, k ≤ m ∧ n ≤ 64 ∧ kv = nun k ∧ Hid (Od W0 wr (onc (l.take k)) (onc (l.take k)).reverse n n (hasH (onc (l.take k))) ov bv Db)) (fun _ _ kv _ _ => m - (intOf kv).toNat)
    case atStart => exact ⟨0, 0, Nat.zero_le _, by omega, rfl, HD0⟩
    case round =>
      clear HD0
      obtain ⟨k, n, hk, hn64, rfl, HD⟩ := hrel
      by_cases hlt : k < m
      · have hkI : (k : Int) < (m : Int) := by omega
        obtain ⟨gv, ov, rfl, hgl, hcl⟩ := HCL.out (by rw [HM.out]; omega)
        obtain ⟨x, hx⟩ : ∃ x, l[k]? = some x := ⟨_, List.getElem?_eq_getElem (by rw [HM.out]; exact hlt)⟩
        have hfx := HF.out x (List.mem_of_getElem? hx)
        have hcx := hcl k x hx
        have hot := onc_take l k x hx
        have HXX : Hid (∀ wx, Below W0.heap.size W0 wx → wx.cell? ⟨gv, ov + k * 2, none⟩ = some (nu x.i) ∧ wx.cell? ⟨gv, ov + k * 2 + 1, none⟩ = some (nu x.k)) := fun wx hb => ⟨(hb.cell (p := ⟨gv, ov + k * 2, none⟩) hgl).trans hcx.1, (hb.cell (p := ⟨gv, ov + k * 2 + 1, none⟩) hgl).trans hcx.2⟩
        have hun := onc_un l k
        have hun2 := onc_un l (k + 1)
        obtain ⟨xi, xk⟩ := x
        dsimp only at hfx hot HXX
        obtain ⟨q, hq, hq64⟩ : ∃ q : Nat, xi % 64 = q ∧ q < 64 := ⟨(xi % 64).toNat, by omega, by omega⟩
        have cK : Hid (∀ wx, Calls Tryd.prog 10 #[nu xi, nu 64] wx fun e w' => e = .returned (nun q) ∧ w' = wx) := fun wx => by
          have := pickH xi 64 wx (by decide) (by decide) hfx
          rw [show ((64 : Nat) : Int) = 64 from rfl, hq] at this
          exact this
        rw [hq] at hot
        obtain ⟨x0, x1⟩ := HXX.out wr HD.out.bel
        have hd := HD.out.seen.cell hq64
        have hq0 : (0 : Int) ≤ (q : Int) := by omega
        have hqI : (q : Int) < 64 := by omega
        have hfz := HD.out.seen.frozen q
        clear hcx hcl hx hfx hq
        cases hh : hasH (onc (l.take k)) (q : Int) with
        | true =>
          rw [hh] at hd hot
          rw [if_pos rfl] at hot
          have HOT := Hid.mk' hot
          clear hot hh hun hun2 hfz
          go_wp2_with fail
          refine (cK.out _).mono ?_
          rintro e w4 ⟨rfl, rfl⟩
          clear cK
          go_wp2
          go_roundw
          case rel => exact ⟨k + 1, n, by omega, hn64, by go_num, by rw [HOT.out]; exact HD⟩
          case measure => simp [intOf]; omega
        | false =>
          rw [hh] at hd hot
          rw [if_neg (by decide)] at hot
          have hfewO : n + 1 ≤ 64 := by
            have := hun2.few
            rw [hot, List.length_append, HD.out.lenO] at this
            exact this
          obtain ⟨w5, hw5⟩ : ∃ w5, wr.setCell ⟨Db, q, none⟩ (.bool true) = w5 := ⟨_, rfl⟩
          have HD5 := HD.out.set q
          rw [hw5] at HD5
          have HD5 := Hid.mk' HD5
          have HW5 := Hid.mk' hw5
          obtain ⟨_, y1⟩ := HXX.out w5 HD5.out.bel
          have HDA := Hid.mk' (HD5.out.below ((Below.refl _ _).alloc (Nat.le_refl _) (.cells #[nun q, nu xk] 77)))
          have HRW : Hid ((w5.alloc (.cells #[nun q, nu xk] 77)).ownsRow W0.heap.size 77 2 u5 n ((onc (l.take k)).flatMap It.cells)) := HDA.out.once
          have hbsz : Hid (W0.heap.size ≤ (w5.alloc (.cells #[nun q, nu xk] 77)).heap.size) := HDA.out.bel.size
          have HFIN : Hid (∀ w8 g8 c8, w8.ownsRow W0.heap.size 77 2 (.slice (some ⟨g8, 0, none⟩) (n + 1) c8) (n + 1) ((onc (l.take k)).flatMap It.cells ++ [nun q, nu xk]) → (w5.alloc (.cells #[nun q, nu xk] 77)).grownBy w8 u5.ownBlock → (u5.ownBlock = some g8 ∨ g8 = (w5.alloc (.cells #[nun q, nu xk] 77)).heap.size) → w8.cell? ⟨gv, ov + k * 2 + 1, none⟩ = some (nu xk) ∧ Hid (Od W0 w8 (onc (l.take k) ++ [⟨q, xk⟩]) (onc (l.take k)).reverse (n + 1) n (fun t => hasH (onc (l.take k)) t || ((q : Int) == t)) (.slice (some ⟨g8, 0, none⟩) (n + 1) c8) u6 Db)) := fun w8 g8 c8 h1 h2 h3 => by
            have := HDA.out.app (q := (q : Int)) (k := xk) h1 h2 h3
            exact ⟨(HXX.out w8 this.bel).2, this⟩
          have hone : Hid (∀ u ∈ [nun q, nu xk], u.oneCell' = true) := by
            intro u hu
            simp only [List.mem_cons, List.not_mem_nil, or_false] at hu
            rcases hu with rfl | rfl <;> rfl
          have hmx : Hid (n + 1 ≤ maxLen) := by show _ ≤ _; unfold maxLen; omega
          have hby : Hid ((n + 1) * 16 ≤ 140737488355328) := by show _ ≤ _; omega
          have hnm : Hid (1 + n ≤ 1000) := by show _ ≤ _; omega
          have HEND : Hid (∀ w8 c8 g8 v9 w9, Hid (Od W0 w8 (onc (l.take k) ++ [⟨q, xk⟩]) (onc (l.take k)).reverse (n + 1) n (fun t => hasH (onc (l.take k)) t || ((q : Int) == t)) (.slice (some ⟨g8, 0, none⟩) (n + 1) c8) u6 Db) → w9.ownsRow w8.heap.size 77 2 v9 (1 + n) ([nun q, nu xk] ++ (onc (l.take k)).reverse.flatMap It.cells) → (w8.alloc (.cells #[nun q, nu xk] 77)).grownBy w9 (some w8.heap.size) → Od W0 w9 (onc (l.take (k + 1))) (onc (l.take (k + 1))).reverse (n + 1) (n + 1) (hasH (onc (l.take (k + 1)))) (.slice (some ⟨g8, 0, none⟩) (n + 1) c8) v9 Db) := fun w8 c8 g8 v9 w9 h1 h2 h3 => by
            have := h1.out.push (q := (q : Int)) (k := xk) h2 h3
            rw [hot, List.reverse_append]
            have e : hasH (onc (l.take k) ++ [⟨q, xk⟩]) = fun t => hasH (onc (l.take k)) t || ((q : Int) == t) := funext (fun t => has_snoc _ _ t)
            rw [e, show n + 1 = 1 + n by omega]
            rw [show n + 1 = 1 + n by omega] at this
            exact this
          have HMK : Hid (∀ w8 (g8 c8 : Nat), Hid (Od W0 w8 (onc (l.take k) ++ [⟨q, xk⟩]) (onc (l.take k)).reverse (n + 1) n (fun t => hasH (onc (l.take k)) t || ((q : Int) == t)) (.slice (some ⟨g8, 0, none⟩) (n + 1) c8) u6 Db) → (w8.alloc (.cells #[nun q, nu xk] 77)).ownsRow W0.heap.size 77 2 u6 n ((onc (l.take k)).reverse.flatMap It.cells)) := fun w8 g8 c8 h => (h.out.below ((Below.refl _ _).alloc (Nat.le_refl _) (.cells #[nun q, nu xk] 77))).back
          clear hun hun2 hh hot HD HD5 hw5 HDA HXX
          go_wp2_with fail
          refine (cK.out _).mono ?_
          rintro e w4 ⟨rfl, rfl⟩
          clear cK
          go_upto_region 11 with fail
          rw [HW5.out]
          go_upto_region 12 with (first | (at_builtin; refine wpList_append_lies _ rfl _ _ 76 rfl W0.heap.size 77 i0 (.agg #[.int .i64 0, .int .i64 0]) 2 16 Tryd.underlying76 ji hz0 hz1 hz2 rfl (by decide) u5 n ((onc (l.take k)).flatMap It.cells) rfl HRW.out ⟨w5.heap.size, 0, none⟩ 1 1 [nun q, nu xk] rfl rfl (World.news_of_block (heap_alloc_new _ _)) hone.out (by decide) hmx.out hby.out hbsz.out _ rfl ?_; intro g8 c8 w8 ho8 hg8 hat8 _; obtain ⟨z1, HQ8⟩ := HFIN.out w8 g8 c8 ho8 hg8 hat8; clear ho8 hg8 hat8) | fail)
          have HMK8 := Hid.mk' (HMK.out w8 g8 c8 HQ8)
          clear HFIN HRW hbsz hmx hby hone HMK y1 x0 x1 HW5
          go_wp2_with (at_builtin; refine wpList_append_pr _ rfl _ _ rfl w8.heap.size (.slice (some ⟨w8.heap.size, 0, none⟩) 1 1) 1 [nun q, nu xk] rfl (one_pair w8 q xk) u6 W0.heap.size n (onc (l.take k)).reverse rfl HMK8.out hnm.out (by simp) ?_; intro v9 w9 ho9 hg9; have HE9 := Hid.mk' (HEND.out w8 c8 g8 v9 w9 HQ8 ho9 hg9); clear ho9 hg9)
          go_roundw
          case rel => exact ⟨k + 1, n + 1, by omega, hfewO, by go_num, HE9⟩
          case measure => simp [intOf]; omega
      · have hkI : ¬ (k : Int) < (m : Int) := by omega
        obtain rfl : k = m := by omega
        have hun := onc_un l k
        rw [List.take_of_length_le (by rw [HM.out]; exact Nat.le_refl _)] at HD hun
        obtain ⟨O, hO⟩ : ∃ O, onc l = O := ⟨_, rfl⟩
        rw [hO] at HD hun
        have hir : ∀ x ∈ O, I64 x.i := fun x hx => by have := hun.rng x hx; unfold I64; omega
        have HIR : Hid (∀ x ∈ O.reverse, I64 x.i) := fun x hx => hir x (List.mem_reverse.1 hx)
        have c1 := Hid.mk' (filled_any C.toHeapB u5 O wr (own_rdQ HD.out.once HD.out.lenO) hir)
        have HG : Hid (Hk 64 (fill O)) := fill_good O
        obtain ⟨S, hS⟩ : ∃ S, fill O = S := ⟨_, rfl⟩
        have HRV : Hid (fill O.reverse = S) := by show _ = _; rw [hun.fill_rev, hS]
        have HKN : Hid (∀ i, hasH O i = false → keyH S i = none) := fun i hn => by rw [← hS]; exact hun.key_none hn
        rw [hS] at c1 HG
        clear hS hO hun hir HF HCL HRQ
        go_wp2_with fail
        refine c1.out.mono ?_
        rintro e w4 ⟨p, F, rfl, h4, f4, b4⟩
        have HD4 := Hid.mk' (HD.out.below b4)
        have H4 := Hid.mk' h4
        have HF4 : Hid (∀ k, F k → W0.heap.size ≤ k) := fun k hk => Nat.le_trans HD.out.bel.size (f4 k hk)
        have c2 := filled_any C.toHeapB u6 O.reverse w4 (own_rdQ HD4.out.back HD4.out.lenP) HIR.out
        rw [HRV.out] at c2
        have c2 := Hid.mk' c2
        clear h4 f4 b4 c1 HIR HRV HD
        go_wp2_with fail
        refine c2.out.mono ?_
        rintro e w5 ⟨t, G, rfl, h5, f5, b5⟩
        have HA5 : Hid (Ab R W0 w5 p t S S) := ⟨⟨F, G, C.below H4.out b5, h5, fun k hk hf => by have := f5 k hk; have := C.lt H4.out k hf; omega, fun k hk => Nat.le_trans HD4.out.bel.size (f5 k hk), HF4.out⟩, HD4.out.bel.trans (b5.mono HD4.out.bel.size)⟩
        have HD5 := Hid.mk' (HD4.out.below b5)
        clear h5 f5 b5 c2 H4 HF4 HD4
        have c6 := Hid.mk' (HA5.out.all C HG.out)
        go_wp2_with fail
        refine c6.out.mono ?_
        rintro e w6 ⟨gf6, lb6, rfl, H6⟩
        have c7 := Hid.mk' (H6.out.1.pairs C HG.out H6.out.2.2)
        have HD6 := Hid.mk' (HD5.out.below H6.out.2.1)
        clear c6
        go_wp2_with fail
        refine c7.out.mono ?_
        rintro e w7 ⟨a7, m7, d7, rfl, H7⟩
        have c8 := Hid.mk' (H7.out.1.flip.all C HG.out)
        have HD7 := Hid.mk' (HD6.out.below H7.out.2.1)
        clear c7
        go_wp2_with fail
        refine c8.out.mono ?_
        rintro e w8 ⟨gf8, lb8, rfl, H8⟩
        have c9 := Hid.mk' (H8.out.1.pairs C HG.out H8.out.2.2)
        have HD8 := Hid.mk' (HD7.out.below H8.out.2.1)
        clear c8
        go_wp2_with fail
        refine c9.out.mono ?_
        rintro e w9 ⟨a9, m9, d9, rfl, H9⟩
        have c10 := Hid.mk' (sameZ _ _ (prs S) w9 ((H7.out.2.2.below H8.out.2.1).below H9.out.2.1) H9.out.2.2)
        have HD9 := Hid.mk' (HD8.out.below H9.out.2.1)
        have HA9 := Hid.mk' H9.out.1.flip
        clear c9
        go_wp2_with fail
        refine c10.out.mono ?_
        rintro e w10 ⟨rfl, b10⟩
        have HA10 := Hid.mk' (HA9.out.below C b10)
        have HD10 := Hid.mk' (HD9.out.below b10)
        clear c10 b10
        obtain ⟨i, hi, hi64⟩ : ∃ i : Nat, bi % 64 = i ∧ i < 64 := ⟨(bi % 64).toNat, by omega, by omega⟩
        have cK : Hid (∀ wx, Calls Tryd.prog 10 #[nu bi, nu 64] wx fun e w' => e = .returned (nun i) ∧ w' = wx) := fun wx => by
          have := pickH bi 64 wx (by decide) (by decide) hbi
          rw [show ((64 : Nat) : Int) = 64 from rfl, hi] at this
          exact this
        obtain ⟨x0, x1⟩ := HHX.out w10 HA10.out.bel
        have hd := HD10.out.seen.cell hi64
        have hi0 : (0 : Int) ≤ (i : Int) := by omega
        have hiI : (i : Int) < 64 := by omega
        clear hi hbi HD5 HD6 HD7 HD8 HD9 HD10 H6 H7 H8 H9 HA5 HA9
        cases hh : hasH O (i : Int) with
        | true =>
          rw [hh] at hd
          clear hh
          go_wp2_with fail
          refine (cK.out _).mono ?_
          rintro e w11 ⟨rfl, rfl⟩
          go_wp2
          go_ret
          exact ⟨rfl, HB0.out.trans (HA10.out.bel.mono HB0.out.size)⟩
        | false =>
          rw [hh] at hd
          have hkn := HKN.out i hh
          have hir : (0 : Int) ≤ (i : Int) ∧ (i : Int) < 64 := ⟨hi0, hiI⟩
          have c11 := Hid.mk' (HA10.out.set C HG.out i bk hir)
          have HG2 := Hid.mk' (HG.out.set hir bk)
          have HH2 : Hid (hasH (setH S i bk) i = true) := by
            show _ = _
            rw [has_key, key_set HG.out hir, if_pos rfl]
            rfl
          have HS2 : Hid (dropH (setH S i bk) i = S) := set_drop HG.out hir bk hkn
          clear hh hkn hir
          go_wp2_with fail
          refine (cK.out _).mono ?_
          rintro e w11 ⟨rfl, rfl⟩
          clear cK
          go_wp2_with fail
          refine c11.out.mono ?_
          rintro e w12 ⟨rfl, HA12⟩
          have c12 := HA12.out.drop C HG2.out i
          rw [HH2.out, HS2.out] at c12
          have c12 := Hid.mk' c12
          clear c11 HA12 HG2 HH2 HS2
          go_wp2_with fail
          refine c12.out.mono ?_
          rintro e w13 ⟨rfl, HA13⟩
          clear c12
          have c14 := Hid.mk' (HA13.out.all C HG.out)
          go_wp2_with fail
          refine c14.out.mono ?_
          rintro e w14 ⟨gf14, lb14, rfl, H14⟩
          have c15 := Hid.mk' (H14.out.1.pairs C HG.out H14.out.2.2)
          clear c14
          go_wp2_with fail
          refine c15.out.mono ?_
          rintro e w15 ⟨a15, m15, d15, rfl, H15⟩
          have c16 := Hid.mk' (H15.out.1.flip.all C HG.out)
          clear c15
          go_wp2_with fail
          refine c16.out.mono ?_
          rintro e w16 ⟨gf16, lb16, rfl, H16⟩
          have c17 := Hid.mk' (H16.out.1.pairs C HG.out H16.out.2.2)
          clear c16
          go_wp2_with fail
          refine c17.out.mono ?_
          rintro e w17 ⟨a17, m17, d17, rfl, H17⟩
          have c18 := Hid.mk' (sameZ _ _ (prs S) w17 ((H15.out.2.2.below H16.out.2.1).below H17.out.2.1) H17.out.2.2)
          have HA17 := Hid.mk' H17.out.1.flip
          clear c17
          go_wp2_with fail
          refine c18.out.mono ?_
          rintro e w18 ⟨rfl, b18⟩
          have HA18 := Hid.mk' (HA17.out.below C b18)
          clear c18 b18
          go_wp2
          go_ret
          exact ⟨rfl, HB0.out.trans (HA18.out.bel.mono HB0.out.size)⟩
end Hh
end Go.Proofs.YteclbmmhidmklaaDoor
