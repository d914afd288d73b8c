/- SesP, Foot, ArnP, in one text. -/
import Derived.WalkKit
import Derived.WalkSpells
import Derived.WalkLawsBesides
import Derived.BigQuiet
import Derived.Deep.MidRow
import Derived.Deep.RegionHeld3
import Derived.Handy
import Derived.Test.YthabnombfbehkaaProg
import Derived.Below
import Derived.Laws.AppendOwn
import Derived.Laws.OwnMore
import Derived.Deep.AppendLies
import Derived.Laws.StructEq
import Derived.Laws.ResultCell
import Derived.Deep.CutBlock
import Derived.Deep.CutRange
import Derived.Deep.DeepCutAuto
import Derived.Deep.RegionWith
/- Sessions as rows of cells. -/
namespace Go.Proofs.Ythabnombfbehkaa
set_option linter.ambiguousOpen false
open Go.RowKit
namespace Lv
set_option linter.unusedSimpArgs false
set_option linter.unusedVariables false

/-- A session, told by its fields. -/
structure Ses where
  slot : Int
  birth : Int
  us : Int
  ub : Int
  kind : Int
  user : ByteArray
  label : ByteArray
  scopes : Int
  level : Int
  born : Int
  deadline : Int
  depth : Int

/-- Its cells. -/
def Ses.cells (s : Ses) : List Value := [.int .i64 s.slot, .int .i64 s.birth, .int .i64 s.us, .int .i64 s.ub, .int .i64 s.kind, .string s.user, .string s.label, .int .u64 s.scopes, .int .i64 s.level, .int .i64 s.born, .int .i64 s.deadline, .int .i64 s.depth]

def Ses.arr (s : Ses) : Array Value := #[.int .i64 s.slot, .int .i64 s.birth, .int .i64 s.us, .int .i64 s.ub, .int .i64 s.kind, .string s.user, .string s.label, .int .u64 s.scopes, .int .i64 s.level, .int .i64 s.born, .int .i64 s.deadline, .int .i64 s.depth]

theorem Ses.arr_cells (s : Ses) : s.arr = s.cells.toArray := rfl

/-- The session's texts may be copied. -/
def Ses.fits (s : Ses) : Prop := s.user.size ≤ 281474976710656 ∧ s.label.size ≤ 281474976710656

/-- A session lies here. -/
def At (w : World) (g o : Nat) (s : Ses) : Prop := w.rangeAt g o s.cells

theorem At.below {w w' : World} {b g o : Nat} {s : Ses} (h : At w g o s) (hb : Below b w w') (hg : g < b) : At w' g o s := fun j v hv => (hb.cell (p := ⟨g, o + j, none⟩) hg).trans (h j v hv)

theorem At.lt {w : World} {g o : Nat} {s : Ses} (h : At w g o s) : g < w.heap.size := by
  have h0 := h 0 _ rfl
  rcases Nat.lt_or_ge g w.heap.size with k | k
  · exact k
  · simp [World.cell?, Array.getElem?_eq_none k] at h0

/-- A list of sessions lies here. -/
def RdS (w : World) (v : Value) (l : List Ses) : Prop :=
  ∃ a cap, v = .slice a l.length cap ∧ l.length ≤ cap ∧ cap ≤ maxLen ∧ (0 < l.length → ∃ g o, a = some ⟨g, o, none⟩ ∧ ∀ j (hj : j < l.length), At w g (o + j * 12) l[j])

theorem RdS.below {w w' : World} {v : Value} {l : List Ses} (h : RdS w v l) (hb : Below w.heap.size w w') : RdS w' v l := by
  obtain ⟨a, cap, e, h1, h2, h3⟩ := h
  refine ⟨a, cap, e, h1, h2, fun h0 => ?_⟩
  obtain ⟨g, o, ea, hc⟩ := h3 h0
  exact ⟨g, o, ea, fun j hj => (hc j hj).below hb (hc j hj).lt⟩
end Lv
end Go.Proofs.Ythabnombfbehkaa
/- What a call may have turned: a set of blocks (its footprint) and what is new. No program is named here. -/
namespace Go.Proofs.Ythabnombfbehkaa
open Go.RowKit
namespace Ft
set_option linter.unusedVariables false

/-- Outside F nothing that was there has turned. -/
structure Keep (F : Nat → Prop) (w w' : World) : Prop where
  os : w'.os = w.os
  tape : w'.tape = w.tape
  output : w'.output = w.output
  size : w.heap.size ≤ w'.heap.size
  block : ∀ k, k < w.heap.size → ¬ F k → w'.heap[k]? = w.heap[k]?

theorem Keep.refl (F : Nat → Prop) (w : World) : Keep F w w := ⟨rfl, rfl, rfl, Nat.le_refl _, fun _ _ _ => rfl⟩

theorem Keep.weaken {F G : Nat → Prop} {w w' : World} (h : Keep F w w') (hFG : ∀ k, k < w.heap.size → F k → G k) : Keep G w w' :=
  ⟨h.os, h.tape, h.output, h.size, fun k hk hn => h.block k hk fun hf => hn (hFG k hk hf)⟩

theorem Keep.trans {F G : Nat → Prop} {w a b : World} (h : Keep F w a) (k : Keep G a b) (hG : ∀ i, i < w.heap.size → G i → F i) : Keep F w b :=
  ⟨k.os.trans h.os, k.tape.trans h.tape, k.output.trans h.output, Nat.le_trans h.size k.size, fun i hi hn => (k.block i (Nat.lt_of_lt_of_le hi h.size) fun hg => hn (hG i hi hg)).trans (h.block i hi hn)⟩

theorem Keep.of_below {F : Nat → Prop} {w w' : World} (h : Below w.heap.size w w') : Keep F w w' := ⟨h.os, h.tape, h.output, h.size, fun k hk _ => h.block k hk⟩

theorem Keep.below {F : Nat → Prop} {w w' : World} {B : Nat} (h : Keep F w w') (hF : ∀ k, k < B → ¬ F k) (hB : B ≤ w.heap.size) : Below B w w' :=
  ⟨h.os, h.tape, h.output, h.size, fun k hk => h.block k (Nat.lt_of_lt_of_le hk hB) (hF k hk)⟩

theorem Keep.drew {F : Nat → Prop} {w a : World} (h : Keep F w a) : Keep F w a.drew := ⟨h.os, h.tape, h.output, h.size, h.block⟩

theorem Keep.alloc {F : Nat → Prop} {w a : World} (h : Keep F w a) (o : Obj) : Keep F w (a.alloc o) :=
  h.trans (G := fun _ => False) ⟨rfl, rfl, rfl, by simp, fun k hk _ => Below.heap_alloc _ _ _ hk⟩ (fun _ _ hf => hf.elim)

theorem Keep.setCell {F : Nat → Prop} {w a : World} (h : Keep F w a) {p : Addr} (hp : F p.block ∨ w.heap.size ≤ p.block) (u : Value) : Keep F w (a.setCell p u) :=
  h.trans (G := fun k => k = p.block) ⟨rfl, rfl, rfl, by simp [World.setCell], fun k _ hn => Below.heap_setCell _ _ _ _ hn⟩ (fun i hi e => by
    subst e
    rcases hp with hp | hp
    · exact hp
    · omega)

theorem Keep.grown {F : Nat → Prop} {w a b : World} {row : Option Nat} (h : Keep F w a) (hg : a.grownBy b row) (hr : ∀ k, row = some k → F k ∨ w.heap.size ≤ k) : Keep F w b :=
  h.trans (G := fun k => row = some k) ⟨hg.os, hg.tape, hg.output, hg.size, fun k hk hn => hg.block k hk fun e => hn e.symm⟩ (fun i hi e => by
    rcases hr i e with hp | hp
    · exact hp
    · omega)

theorem Keep.cell {F : Nat → Prop} {w w' : World} (h : Keep F w w') {p : Addr} (hp : p.block < w.heap.size) (hn : ¬ F p.block) : w'.cell? p = w.cell? p := World.cell?_of_block (w := w) (h.block p.block hp hn)

theorem Keep.own {F : Nat → Prop} {w w' : World} {base : Nat} {e : TypeId} {size : Nat} {v : Value} {n : Nat} {xs : List Value} (h : Keep F w w') (ho : w.ownsRow base e size v n xs) (hn : ∀ g, v.ownBlock = some g → ¬ F g) : w'.ownsRow base e size v n xs := by
  refine ⟨ho.1, ?_⟩
  rcases ho.2 with h0 | ⟨g, cap, cur, rfl, hbg, hgg, rest⟩
  · exact .inl h0
  · refine .inr ⟨g, cap, cur, rfl, hbg, ?_, rest⟩
    rw [h.block g (Array.getElem?_eq_some_iff.1 hgg).1 (hn g rfl)]
    exact hgg

/-- A block that is known whole. -/
theorem Keep.at {F : Nat → Prop} {w w' : World} {g : Nat} {o : Obj} (h : Keep F w w') (hg : w.heap[g]? = some o) (hn : ¬ F g) : w'.heap[g]? = some o :=
  (h.block g (Array.getElem?_eq_some_iff.1 hg).1 hn).trans hg
end Ft
end Go.Proofs.Ythabnombfbehkaa
/- Slots as rows of cells; an arena in plain words: what its slots hold, which are free, how many writes there were. -/
namespace Go.Proofs.Ythabnombfbehkaa
set_option linter.ambiguousOpen false
open Go.RowKit
namespace An
open Ft Lv
set_option linter.unusedSimpArgs false
set_option linter.unusedVariables false

theorem Hid.mk' {p : Prop} (h : p) : Hid p := h

@[reducible] def nu (i : Int) : Value := .int .i64 i

@[reducible] def ptr (p : Nat) : Value := .pointer (some ⟨p, 0, none⟩)

/-- An error without a place, and none. -/
@[reducible] def noE (n : Int) : Value := .iface 65 (.int .i64 n)

def errE : Nat → Value
  | 0 => .nilIface
  | n + 1 => noE ((n + 1 : Nat) : Int)

/-- What a slot holds; its texts are such as can be. -/
structure Slt where
  used : Bool
  dead : Bool
  kids : Int
  prev : Int
  next : Int
  s : Ses
  tx : s.user.size ≤ 281474976710656 ∧ s.label.size ≤ 281474976710656

/-- Its cells. -/
def Slt.cells (x : Slt) : List Value := [.bool x.used, .bool x.dead, nu x.kids, nu x.prev, nu x.next, nu x.s.slot, nu x.s.birth, nu x.s.us, nu x.s.ub, nu x.s.kind, .string x.s.user, .string x.s.label, .int .u64 x.s.scopes, nu x.s.level, nu x.s.born, nu x.s.deadline, nu x.s.depth]

theorem Slt.len (x : Slt) : x.cells.length = 17 := rfl

theorem Slt.one (x : Slt) : ∀ u ∈ x.cells, u.oneCell' = true := by
  intro u hu
  simp [Slt.cells] at hu
  rcases hu with rfl | rfl | rfl | rfl | rfl | rfl | rfl | rfl | rfl | rfl | rfl | rfl | rfl | rfl | rfl | rfl | rfl <;> rfl

/-- As a value. -/
@[reducible] def Slt.v (x : Slt) : Value := .agg x.cells.toArray

def ses0 : Ses := ⟨0, 0, 0, 0, 0, ⟨#[]⟩, ⟨#[]⟩, 0, 0, 0, 0, 0⟩

/-- The slot without anything, and the bare one. -/
def slt0 : Slt := ⟨false, false, 0, 0, 0, ses0, by decide⟩

def bare : Slt := ⟨false, false, -1, -1, -1, ses0, by decide⟩

/-- An arena. -/
structure Arn where
  sl : List Slt
  fr : List Nat
  wr : Nat

def arn0 : Arn := ⟨List.replicate 32 bare, List.range 32, 0⟩

@[reducible] def there (i : Int) : Prop := 0 ≤ i ∧ i < 32

/-- Get: what is told, and the error. -/
def Arn.at (A : Arn) (i : Int) : Slt := if there i then A.sl.getD i.toNat bare else slt0

def Arn.atE (i : Int) : Nat := if there i then 0 else 1

/-- Put. -/
def Arn.put (A : Arn) (i : Int) (x : Slt) : Nat × Arn := if there i then (0, ⟨A.sl.set i.toNat x, A.fr, A.wr + 1⟩) else (1, A)

/-- Take: the error, the slot, what is left. -/
def Arn.take (A : Arn) : Nat × Nat × Arn := match A.fr with
  | [] => (19, 0, A)
  | i :: r => (0, i, ⟨A.sl, r, A.wr⟩)

/-- Place. -/
def Arn.place (A : Arn) (i : Int) : Nat × Arn := if there i then if i.toNat ∈ A.fr then (0, ⟨A.sl, A.fr.erase i.toNat, A.wr⟩) else (10, A) else (1, A)

/-- Free. -/
def Arn.free (A : Arn) (i : Int) : Nat × Arn := if there i then if i.toNat ∈ A.fr then (9, A) else (0, ⟨A.sl.set i.toNat bare, i.toNat :: A.fr, A.wr + 1⟩) else (1, A)

/-- What holds of every arena. -/
structure Good (A : Arn) : Prop where
  len : A.sl.length = 32
  nd : A.fr.Nodup
  lt : ∀ i ∈ A.fr, i < 32

theorem good0 : Good arn0 := ⟨by decide, by decide, by decide⟩

theorem Good.put {A : Arn} (h : Good A) (i : Int) (x : Slt) : Good (A.put i x).2 := by
  unfold Arn.put
  split
  · exact ⟨by simpa using h.len, h.nd, h.lt⟩
  · exact h

theorem Good.take {A : Arn} (h : Good A) : Good A.take.2.2 := by
  unfold Arn.take
  split
  · exact h
  · rename_i i r hf
    have h1 := h.nd
    have h2 := h.lt
    rw [hf] at h1 h2
    exact ⟨h.len, (List.nodup_cons.1 h1).2, fun j hj => h2 j (by simp [hj])⟩

theorem Good.place {A : Arn} (h : Good A) (i : Int) : Good (A.place i).2 := by
  unfold Arn.place
  split
  · split
    · exact ⟨h.len, h.nd.erase _, fun j hj => h.lt j (List.mem_of_mem_erase hj)⟩
    · exact h
  · exact h

theorem Good.free {A : Arn} (h : Good A) (i : Int) : Good (A.free i).2 := by
  unfold Arn.free
  split
  · rename_i ht
    split
    · exact h
    · rename_i hn
      refine ⟨by simpa using h.len, List.nodup_cons.2 ⟨hn, h.nd⟩, fun j hj => ?_⟩
      rcases List.mem_cons.1 hj with rfl | hj
      · omega
      · exact h.lt j hj
  · exact h

theorem nodup_few (n : Nat) : ∀ l : List Nat, l.Nodup → (∀ i ∈ l, i < n) → l.length ≤ n := by
  induction n with
  | zero =>
    intro l _ h
    cases l with
    | nil => exact Nat.le_refl _
    | cons a l => exact absurd (h a (by simp)) (by omega)
  | succ n ih =>
    intro l hn h
    have h1 := ih (l.erase n) (hn.erase n) (fun i hi => by
      have h2 := h i (List.mem_of_mem_erase hi)
      have h3 : i ≠ n := fun e => by
        subst e
        exact (List.Nodup.not_mem_erase hn) hi
      omega)
    have h2 := List.length_erase (a := n) (l := l)
    split at h2 <;> omega

/-- At most 32 are free. -/
theorem Good.few {A : Arn} (h : Good A) : A.fr.length ≤ 32 := nodup_few 32 A.fr h.nd h.lt

theorem put_wr (A : Arn) (i : Int) (x : Slt) : (A.put i x).2.wr ≤ A.wr + 1 := by
  unfold Arn.put
  split
  · exact Nat.le_refl _
  · exact Nat.le_succ _

theorem take_wr (A : Arn) : A.take.2.2.wr = A.wr := by
  unfold Arn.take
  split <;> rfl

theorem place_wr (A : Arn) (i : Int) : (A.place i).2.wr = A.wr := by
  unfold Arn.place
  split
  · split <;> rfl
  · rfl

theorem free_wr (A : Arn) (i : Int) : (A.free i).2.wr ≤ A.wr + 1 := by
  unfold Arn.free
  split
  · split
    · exact Nat.le_succ _
    · exact Nat.le_refl _
  · exact Nat.le_succ _

theorem put_le (A : Arn) (i : Int) (x : Slt) : (A.put i x).1 ≤ 24 := by
  unfold Arn.put
  split <;> simp

theorem take_le (A : Arn) : A.take.1 ≤ 24 := by
  unfold Arn.take
  split <;> simp

theorem place_le (A : Arn) (i : Int) : (A.place i).1 ≤ 24 := by
  unfold Arn.place
  split
  · split <;> simp
  · simp

theorem free_le (A : Arn) (i : Int) : (A.free i).1 ≤ 24 := by
  unfold Arn.free
  split
  · split <;> simp
  · simp

theorem atE_le (i : Int) : Arn.atE i ≤ 24 := by
  unfold Arn.atE
  split <;> simp

/-- The cells of a list of slots. -/
def scs (l : List Slt) : List Value := l.flatMap Slt.cells

theorem scs_len (l : List Slt) : (scs l).length = l.length * 17 := by
  induction l with
  | nil => rfl
  | cons x l ih =>
    unfold scs at *
    rw [List.flatMap_cons, List.length_append, ih, List.length_cons, Slt.len]
    omega

theorem scs_snoc (l : List Slt) (x : Slt) : scs (l ++ [x]) = scs l ++ x.cells := by simp [scs]

theorem scs_at (l : List Slt) (k : Nat) (x : Slt) (h : l[k]? = some x) (j : Nat) (hj : j < 17) : (scs l)[k * 17 + j]? = x.cells[j]? := by
  induction l generalizing k with
  | nil => simp at h
  | cons y l ih =>
    unfold scs at *
    rw [List.flatMap_cons]
    cases k with
    | zero =>
      simp at h
      subst h
      rw [Nat.zero_mul, Nat.zero_add, List.getElem?_append_left (by rw [Slt.len]; exact hj)]
    | succ k =>
      have h' : l[k]? = some x := by simpa using h
      rw [List.getElem?_append_right (by rw [Slt.len]; omega), Slt.len, show (k + 1) * 17 + j - 17 = k * 17 + j by omega]
      exact ih k h'

theorem scs_set (l : List Slt) (k : Nat) (x : Slt) (hk : k < l.length) : scs (l.set k x) = (scs l).take (k * 17) ++ x.cells ++ (scs l).drop (k * 17 + 17) := by
  induction l generalizing k with
  | nil => simp at hk
  | cons y l ih =>
    cases k with
    | zero =>
      rw [List.set_cons_zero]
      simp only [scs, List.flatMap_cons, Nat.zero_mul, List.take_zero, List.nil_append, Nat.zero_add]
      rw [List.drop_append_of_le_length (by rw [Slt.len]; exact Nat.le_refl _), List.drop_of_length_le (by rw [Slt.len]; exact Nat.le_refl _), List.nil_append]
    | succ k =>
      have := ih k (by simpa using hk)
      rw [List.set_cons_succ]
      unfold scs at this ⊢
      have e1 : y.cells.take ((k + 1) * 17) = y.cells := List.take_of_length_le (by rw [Slt.len]; omega)
      have e2 : y.cells.drop ((k + 1) * 17 + 17) = [] := List.drop_of_length_le (by rw [Slt.len]; omega)
      rw [List.flatMap_cons, List.flatMap_cons, this, List.take_append, List.drop_append, Slt.len, show (k + 1) * 17 - 17 = k * 17 by omega, show (k + 1) * 17 + 17 - 17 = k * 17 + 17 by omega, e1, e2]
      simp

/-- Free slots as values. -/
@[reducible] def nun (i : Nat) : Value := .int .i64 (i : Int)

theorem info_int : (Try.prog.info? 3).map (fun i => (i.zero, i.size, i.bytes)) = some (some (.int .i64 0), 1, 8) := by kernel_rfl

theorem info_slt : (Try.prog.info? 49).map (fun i => (i.zero, i.size, i.bytes)) = some (some slt0.v, 17, 144) := by kernel_rfl

theorem size_slt : (Try.prog.info? 49).map (·.size) = some 17 := by kernel_rfl

/-- A new variable's cells, as the walk spells them. -/
@[reducible] def sltZ : Array Value := #[.bool false, .bool false, .int .i64 0, .int .i64 0, .int .i64 0, .int .i64 0, .int .i64 0, .int .i64 0, .int .i64 0, .int .i64 0, .string ⟨#[]⟩, .string ⟨#[]⟩, .int .u64 0, .int .i64 0, .int .i64 0, .int .i64 0, .int .i64 0]

/-- A slot lies alone in a block. -/
def Lone (w : World) (b : Nat) (x : Slt) : Prop := w.heap[b]? = some (.cells x.cells.toArray 49)

theorem lone_zero (w : World) : Lone (w.alloc (.cells sltZ 49)) w.heap.size slt0 := heap_alloc_new _ _

theorem lone_new (w : World) (x : Slt) : Lone (w.alloc (.cells x.cells.toArray 49)) w.heap.size x := heap_alloc_new _ _

theorem all_one (x : Slt) : x.cells.toArray.all (·.oneCell') = true := all_oneCell_toArray x.one

/-- A store into such a block. -/
theorem Lone.store {w : World} {b : Nat} {y : Slt} (h : Lone w b y) (x : Slt) : ∃ w', (Instr.storeAt 49 (ptr b) x.v).run Try.prog w = .ok () w' ∧ Lone w' b x ∧ w.grownBy w' (some b) ∧ w'.heap.size = w.heap.size := by
  refine ⟨w.setRow b x.cells.toArray, ?_, setRow_heap w b _ _ _ _ h, ⟨rfl, rfl, rfl, by simp, fun k hk hn => setRow_other _ _ _ _ (fun e => hn (by rw [e]))⟩, by simp⟩
  simp only [Instr.storeAt, Instr.sureAddr, Sem.run_bind, Sem.run_pure, Result.andThen_ok, run_storeVar_row (P := Try.prog) w b _ 49 y.cells.toArray x.cells.toArray h size_slt rfl (all_one x)]

set_option maxRecDepth 100000 in
theorem wpList_store_lone {ops : Array Oper} {rest : List Oper} {op : Oper} {a : Act} {w : World} {Q : Exit → Act → World → Prop} (hgd : op.guard = none) (x y : Operand) (ho : op.op = .store 49 x y)
    (b : Nat) (hx : a.eval x = .pointer (some ⟨b, 0, none⟩)) (s : Slt) (hy : a.eval y = .agg s.cells.toArray) (z : Slt) (hz : Lone w b z)
    (h : ∀ w', Lone w' b s → w.grownBy w' (some b) → w'.heap.size = w.heap.size → wpList Try.prog ops Q rest (a.put op.dst undef) w') : wpList Try.prog ops Q (op :: rest) a w := by
  refine wpList_plain hgd fun K hK => ?_
  have hrun := run_storeVar_row (P := Try.prog) w b _ 49 z.cells.toArray s.cells.toArray hz size_slt rfl (all_one s)
  have hk := hK _ _ (h (w.setRow b s.cells.toArray) (setRow_heap w b _ _ _ _ hz) ⟨rfl, rfl, rfl, by simp, fun k hk hn => setRow_other _ _ _ _ (fun e => hn (by rw [e]))⟩ (by simp))
  unfold Oper.wp execOp
  simp only [ho, hx, hy, Instr.storeAt, Instr.sureAddr, Sem.run_bind, Sem.run_pure, Result.andThen_ok, hrun]
  exact hk

set_option maxRecDepth 100000 in
theorem wpList_load_slt {ops : Array Oper} {rest : List Oper} {op : Oper} {a : Act} {w : World} {Q : Exit → Act → World → Prop} (hgd : op.guard = none) (x : Operand) (ho : op.op = .load 49 x)
    (b o : Nat) (hx : a.eval x = .pointer (some ⟨b, o, none⟩)) (s : Slt) (hr : w.rangeAt b o s.cells)
    (h : wpList Try.prog ops Q rest (a.put op.dst (.agg s.cells.toArray)) w) : wpList Try.prog ops Q (op :: rest) a w :=
  wpList_load_mid hgd 49 x ho b o hx s.cells _ hr Try.underlying49 rfl size_slt h

/-- A store into a row of slots, in a region that draws its order. -/
theorem step_store_slt {ops : Array Oper} {o : Oper} {a : Act} {w : World} {K : Act → World → Prop} {Q : Exit → Act → World → Prop} {E : Prop} (hgd : o.guard = none) (x y : Operand) (ho : o.op = .store 49 x y)
    (b of : Nat) (hx : a.eval x = .pointer (some ⟨b, of, none⟩)) (s : Slt) (hy : a.eval y = .agg s.cells.toArray) (ht : w.there b of 17) (h : K (a.put o.dst undef) (w.setCells b of s.cells)) :
    if Region.wanted o (yielded ops a.tmps) = true then Oper.wp Try.prog o a w K Q else E := by
  have hw : Region.wanted o (yielded ops a.tmps) = true := by simp [Region.wanted, hgd]
  rw [if_pos hw]
  exact wp_store_mid 49 x y ho b of s.cells.toArray hx hy ht size_slt (all_one s) h

theorem Lone.range {w : World} {b : Nat} {y : Slt} (h : Lone w b y) : w.rangeAt b 0 y.cells := fun j v hv => by
  rw [Nat.zero_add, cell_of_row w b j _ _ _ h]
  simpa using hv

theorem Lone.load {w : World} {b : Nat} {y : Slt} (h : Lone w b y) : (Instr.loadAt 49 (ptr b)).run Try.prog w = .ok y.v w :=
  run_loadAt_mid w b 0 49 y.cells _ (fun j v hv => by
    rw [Nat.zero_add, cell_of_row w b j _ _ _ h]
    simpa using hv) Try.underlying49 rfl size_slt

theorem Lone.cells {w : World} {b : Nat} {x : Slt} (h : Lone w b x) : w.cell? ⟨b, 0, none⟩ = some (.bool x.used) ∧ w.cell? ⟨b, 1, none⟩ = some (.bool x.dead) ∧ w.cell? ⟨b, 2, none⟩ = some (nu x.kids) ∧ w.cell? ⟨b, 3, none⟩ = some (nu x.prev) ∧ w.cell? ⟨b, 4, none⟩ = some (nu x.next) ∧ w.cell? ⟨b, 5, none⟩ = some (nu x.s.slot) ∧ w.cell? ⟨b, 6, none⟩ = some (nu x.s.birth) ∧ w.cell? ⟨b, 7, none⟩ = some (nu x.s.us) ∧ w.cell? ⟨b, 8, none⟩ = some (nu x.s.ub) ∧ w.cell? ⟨b, 9, none⟩ = some (nu x.s.kind) ∧ w.cell? ⟨b, 10, none⟩ = some (.string x.s.user) ∧ w.cell? ⟨b, 11, none⟩ = some (.string x.s.label) ∧ w.cell? ⟨b, 12, none⟩ = some (.int .u64 x.s.scopes) ∧ w.cell? ⟨b, 13, none⟩ = some (nu x.s.level) ∧ w.cell? ⟨b, 14, none⟩ = some (nu x.s.born) ∧ w.cell? ⟨b, 15, none⟩ = some (nu x.s.deadline) ∧ w.cell? ⟨b, 16, none⟩ = some (nu x.s.depth) := by
  unfold Lone Slt.cells at h
  simp [World.cell?, h]

theorem results_slt {fn : Func} {p u : Tmp} (h : fn.results = #[.cell p 49, .tmp u]) (tmps : Array Value) (w : World) (g : Nat) (x : Slt) (hp : tmps.getD p undef = .pointer (some ⟨g, 0, none⟩)) (hg : Lone w g x) :
    (results fn tmps).run Try.prog w = .ok (.tuple #[x.v, tmps.getD u undef]) w := by
  rw [results_cell_tmp h, hp]
  simp only [asAddr, Sem.run_pure, Result.andThen_ok, run_loadVar_row w g _ 49 _ _ _ hg Try.underlying49 rfl size_slt]

theorem own_monoA {w : World} {b c : Nat} {e : TypeId} {size : Nat} {v : Value} {n : Nat} {xs : List Value} (h : w.ownsRow b e size v n xs) (hc : c ≤ b) : w.ownsRow c e size v n xs := by
  refine ⟨h.1, ?_⟩
  rcases h.2 with h0 | ⟨g, cap, cur, rfl, hbg, rest⟩
  · exact .inl h0
  · exact .inr ⟨g, cap, cur, rfl, Nat.le_trans hc hbg, rest⟩

/-- A footprint behind a call lies where it lay, or in what is new. -/
def Goes (w : World) (F F' : Nat → Prop) : Prop := ∀ k, F' k → F k ∨ w.heap.size ≤ k

theorem Goes.refl (w : World) (F : Nat → Prop) : Goes w F F := fun _ h => .inl h

theorem goes_trans {w a : World} {F G K : Nat → Prop} (h : Goes w F G) (k : Goes a G K) (hs : w.heap.size ≤ a.heap.size) : Goes w F K := fun i hi => by
  rcases k i hi with h1 | h1
  · exact h i h1
  · exact .inr (Nat.le_trans hs h1)

theorem keep_goes {w a b : World} {F G : Nat → Prop} (h : Keep F w a) (hg : Goes w F G) (k : Keep G a b) : Keep F w b :=
  h.trans k (fun i hi hG => by
    rcases hg i hG with h1 | h1
    · exact h1
    · omega)
end An
end Go.Proofs.Ythabnombfbehkaa
