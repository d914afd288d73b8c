import Derived.Test.YthabnombfbehkaaGreatDoorSwpC
/- Both sides' garbage side by side; an act. -/
namespace Go.Proofs.YthabnombfbehkaaGreatDoor
set_option linter.ambiguousOpen false
open Go.RowKit
namespace Sw
open An Rg Ft Lv
set_option linter.unusedSimpArgs false
set_option linter.unusedVariables false

/-- The program's tree and the document's, all above what was there. -/
structure Tp (R : RepTy) (base : Nat) (w0 w : World) (p q t g : Nat) (F G : Nat → Prop) (A1 : Arn) (l1 : Int) (A2 : Arn) (l2 : Int) : Prop where
  rep : R w p q F A1 l1
  ref : RepG base w t g G A2 l2
  fg : ∀ k, F k → ¬ G k
  fl : ∀ k, F k → w0.heap.size ≤ k
  gl : ∀ k, G k → w0.heap.size ≤ k
  good1 : An.Good A1
  good2 : An.Good A2
  bel : Below w0.heap.size w0 w

/-- From the world wb on: both, and what of the memory may have turned since. -/
structure Td (R : RepTy) (base : Nat) (w0 wb w : World) (p q t g : Nat) (F0 G0 F G : Nat → Prop) (A1 : Arn) (l1 : Int) (A2 : Arn) (l2 : Int) : Prop where
  pr : Tp R base w0 w p q t g F G A1 l1 A2 l2
  kp : Keep (fun j => F0 j ∨ G0 j) wb w
  gf : Goes wb F0 F
  gg : Goes wb G0 G

section
variable {Rep : World → Nat → (Nat → Prop) → Arn → Prop} {R : RepTy} {base : Nat} {w0 wb w w' : World} {p q t g : Nat} {F0 G0 F G : Nat → Prop} {A1 A2 A' : Arn} {l1 l2 l' : Int}

theorem Tp.below (C : SweepC Rep R) (h : Tp R base w0 w p q t g F G A1 l1 A2 l2) (hb : Below w.heap.size w w') : Tp R base w0 w' p q t g F G A1 l1 A2 l2 :=
  ⟨(C.keep q l1).below h.rep hb, h.ref.below hb, h.fg, h.fl, h.gl, h.good1, h.good2, h.bel.trans (hb.mono h.bel.size)⟩

theorem Td.start (h : Tp R base w0 w p q t g F G A1 l1 A2 l2) : Td R base w0 w w p q t g F G F G A1 l1 A2 l2 := ⟨h, Keep.refl _ _, Goes.refl _ _, Goes.refl _ _⟩

theorem Td.below (C : SweepC Rep R) (h : Td R base w0 wb w p q t g F0 G0 F G A1 l1 A2 l2) (hb : Below w.heap.size w w') : Td R base w0 wb w' p q t g F0 G0 F G A1 l1 A2 l2 :=
  ⟨h.pr.below C hb, h.kp.trans (Keep.of_below (F := fun _ => False) hb) (fun _ _ h => h.elim), h.gf, h.gg⟩

theorem Td.turn1 (h : Td R base w0 wb w p q t g F0 G0 F G A1 l1 A2 l2) (hl : LeftT R w w' p q F A' l') (hg : An.Good A') : ∃ F', Td R base w0 wb w' p q t g F0 G0 F' G A' l' A2 l2 := by
  obtain ⟨F', h1, h2, h3⟩ := hl
  refine ⟨F', ⟨h1, h.pr.ref.keep h2 (fun k hf hc => h.pr.fg k hc hf), fun k hf' hc => ?_, fun k hf' => ?_, h.pr.gl, hg, h.pr.good2, h.pr.bel.trans (h2.below (fun k hk hc => by have := h.pr.fl k hc; omega) h.pr.bel.size)⟩, h.kp.trans h2 (fun i hi hF => ?_), goes_trans h.gf h3 h.kp.size, h.gg⟩
  · rcases h3 k hf' with h4 | h4
    · exact h.pr.fg k h4 hc
    · have := (h.pr.ref.lt k hc).2
      omega
  · rcases h3 k hf' with h4 | h4
    · exact h.pr.fl k h4
    · exact Nat.le_trans h.pr.bel.size h4
  · rcases h.gf i hF with h4 | h4
    · exact .inl h4
    · omega

theorem Td.turn2 (C : SweepC Rep R) (h : Td R base w0 wb w p q t g F0 G0 F G A1 l1 A2 l2) (hl : LeftG base w w' t g G A' l') (hg : An.Good A') : ∃ G', Td R base w0 wb w' p q t g F0 G0 F G' A1 l1 A' l' := by
  obtain ⟨G', h1, h2, h3⟩ := hl
  refine ⟨G', ⟨(C.keep q l1).keep h.pr.rep h2 (fun k hf hc => h.pr.fg k hf hc), h1, fun k hf' hc => ?_, h.pr.fl, fun k hf' => ?_, h.pr.good1, hg, h.pr.bel.trans (h2.below (fun k hk hc => by have := h.pr.gl k hc; omega) h.pr.bel.size)⟩, h.kp.trans h2 (fun i hi hF => ?_), h.gf, goes_trans h.gg h3 h.kp.size⟩
  · rcases h3 k hc with h4 | h4
    · exact h.pr.fg k hf' h4
    · have := (C.keep q l1).lt h.pr.rep k hf'
      omega
  · rcases h3 k hf' with h4 | h4
    · exact h.pr.gl k h4
    · exact Nat.le_trans h.pr.bel.size h4
  · rcases h.gg i hF with h4 | h4
    · exact .inr h4
    · omega

/-- A block that is none of theirs stays. -/
theorem Td.blk (h : Td R base w0 wb w p q t g F0 G0 F G A1 l1 A2 l2) {b : Nat} {o : Obj} (hb : wb.heap[b]? = some o) (hn : ¬ F0 b ∧ ¬ G0 b) : w.heap[b]? = some o :=
  (h.kp.block b (Array.getElem?_eq_some_iff.1 hb).1 (fun e => e.elim hn.1 hn.2)).trans hb

theorem Td.from {wa : World} (h : Td R base w0 wb w p q t g F0 G0 F G A1 l1 A2 l2) (hb : Below wa.heap.size wa wb) : Td R base w0 wa w p q t g F0 G0 F G A1 l1 A2 l2 := by
  refine ⟨h.pr, (Keep.of_below (F := fun j => F0 j ∨ G0 j) hb).trans h.kp (fun _ _ e => e), fun k hk => ?_, fun k hk => ?_⟩
  · exact (h.gf k hk).imp id (fun e => Nat.le_trans hb.size e)
  · exact (h.gg k hk).imp id (fun e => Nat.le_trans hb.size e)

theorem Td.trans {wc : World} {F' G' : Nat → Prop} {B1 B2 : Arn} {m1 m2 : Int} (h : Td R base w0 wb w p q t g F0 G0 F G A1 l1 A2 l2) (k : Td R base w0 w wc p q t g F G F' G' B1 m1 B2 m2) : Td R base w0 wb wc p q t g F0 G0 F' G' B1 m1 B2 m2 := by
  refine ⟨k.pr, h.kp.trans k.kp (fun i hi e => ?_), goes_trans h.gf k.gf h.kp.size, goes_trans h.gg k.gg h.kp.size⟩
  rcases e with e | e
  · exact (h.gf i e).elim .inl (fun e => by omega)
  · exact (h.gg i e).elim .inr (fun e => by omega)
end

/-- Behind an act: both sides hold the same. -/
def Tn (R : RepTy) (base : Nat) (w0 wb w : World) (p q t g : Nat) (F0 G0 : Nat → Prop) (n1 n2 : Nat) : Prop := ∃ F G A1 A2 l, Td R base w0 wb w p q t g F0 G0 F G A1 l A2 l ∧ A1.sl = A2.sl ∧ A1.fr = A2.fr ∧ A1.wr ≤ n1 ∧ A2.wr ≤ n2 ∧ okL l

/-! ### An act -/

/-- An act, told by its cells. -/
def actG (k n : Int) (x : Slt) : List Value := [nu k, nu n, .bool x.used, .bool x.dead, nu x.kids, nu x.prev, nu x.next, nu x.s.slot, nu x.s.birth, nu x.s.us, nu x.s.ub, nu x.s.kind, .string x.s.user, .string x.s.label, .int .u64 x.s.scopes, nu x.s.level, nu x.s.born, nu x.s.deadline, nu x.s.depth]

@[reducible] def actGV (k n : Int) (x : Slt) : Value := .agg (actG k n x).toArray

def LoneG (w : World) (b : Nat) (k n : Int) (x : Slt) : Prop := w.heap[b]? = some (.cells (actG k n x).toArray 52)

theorem LoneG.cells {w : World} {b : Nat} {k n : Int} {x : Slt} (h : LoneG w b k n x) : w.cell? ⟨b, 0, none⟩ = some (nu k) ∧ w.cell? ⟨b, 1, none⟩ = some (nu n) := by
  unfold LoneG actG at h
  simp [World.cell?, h]

theorem LoneG.slot {w : World} {b : Nat} {k n : Int} {x : Slt} (h : LoneG w b k n x) : w.rangeAt b 2 x.cells := fun j v hv => by
  unfold LoneG at h
  rw [cell_of_row w b _ _ _ _ h, List.getElem?_toArray]
  have hj : j < 17 := (List.getElem?_eq_some_iff.1 hv).1
  have : (actG k n x) = [nu k, nu n] ++ x.cells := rfl
  rw [this, List.getElem?_append_right (by simp)]
  simpa using hv

theorem ret_nuT {a b : Int} (h : a = b) : Ending.returned (nu a) = Ending.returned (nu b) := by rw [h]

theorem pickG (k : Int) (n : Nat) (w : World) (hn : 0 < n) (hn2 : n ≤ 4611686018427387904) (hk : -9223372036854775808 ≤ k ∧ k ≤ 9223372036854775807) :
    Calls Tryz.prog 9 #[nu k, nu n] w fun e w' => e = .returned (nu (k % (n : Int))) ∧ w' = w := by
  have d1 : (decide ((n : Int) < 1)) = false := by simp; omega
  have e1 := Int.emod_add_mul_ediv k n
  have e2 := Int.emod_nonneg k (b := (n : Int)) (by omega)
  have e3 := Int.emod_lt_of_pos k (b := (n : Int)) (by omega)
  have te : k.tmod n = k % (n : Int) ∨ k.tmod n = k % (n : Int) - n := by
    rw [Int.tmod_eq_emod]
    split
    · left; omega
    · right; simp
  clear e1
  by_cases h : k.tmod n < 0
  · have HT : Hid (k.tmod n + n = k % (n : Int)) := by
      show _ = _
      omega
    have b1 : -(n : Int) ≤ k.tmod n := by omega
    clear te e2 e3
    go_enter Tryz.func9, Tryz.ntmps9
    go_wp2
    go_ret
    exact ⟨ret_nuT HT.out, rfl⟩
  · have HT : Hid (k.tmod n = k % (n : Int)) := by
      show _ = _
      omega
    clear te e2 e3
    go_enter Tryz.func9, Tryz.ntmps9
    go_wp2
    go_ret
    exact ⟨ret_nuT HT.out, rfl⟩
end Sw
end Go.Proofs.YthabnombfbehkaaGreatDoor
