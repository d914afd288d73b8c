/- One disk of the program, written on; a row of texts beside it. -/
import Derived.Test.YtlgjnefieflmbaaDoorDiskP
import Derived.Test.YtlgjnefieflmbaaDoorNum
namespace Go.Proofs.YtlgjnefieflmbaaDoor
set_option linter.ambiguousOpen false
open Go.RowKit
namespace Dk
open Sm Ft
set_option linter.unusedSimpArgs false
set_option linter.unusedVariables false

theorem vj {k : IntKind} {a b : Int} (h : a = b) : Value.int k a = Value.int k b := by rw [h]

/-- One disk that is all above base, and what lies below is as it was. -/
structure On (Rep : World → Nat → (Nat → Prop) → Dsk → Prop) (w wr : World) (p : Nat) (F : Nat → Prop) (d : Dsk) : Prop where
  rep : Rep wr p F d
  fl : ∀ k, F k → w.heap.size ≤ k
  bel : Below w.heap.size w wr

theorem below_go {w a b : World} (h : Below w.heap.size w a) (k : Below a.heap.size a b) : Below w.heap.size w b := h.trans (k.mono h.size)

theorem below_kp {F : Nat → Prop} {w a b : World} (h : Below w.heap.size w a) (hk : Keep F a b) (hF : ∀ k, F k → w.heap.size ≤ k) : Below w.heap.size w b :=
  h.trans (hk.below (fun k hk hf => by have := hF k hf; omega) h.size)

theorem On.below {Rep : World → Nat → (Nat → Prop) → Dsk → Prop} (H : Says Rep) {w wr w' : World} {p : Nat} {F : Nat → Prop} {d : Dsk} (h : On Rep w wr p F d) (hb : Below wr.heap.size wr w') : On Rep w w' p F d :=
  ⟨H.keep h.rep (Keep.of_below (F := fun _ => False) hb) (fun _ _ hf => hf), h.fl, below_go h.bel hb⟩

theorem On.turned {Rep : World → Nat → (Nat → Prop) → Dsk → Prop} (H : Says Rep) {w wr w' : World} {p : Nat} {F F' : Nat → Prop} {d d' : Dsk} (h : On Rep w wr p F d) (hr : Rep w' p F' d') (hk : Keep F wr w') (hg : Goes wr F F') : On Rep w w' p F' d' :=
  ⟨hr, fun k hf => by
    rcases hg k hf with h1 | h1
    · exact h.fl k h1
    · exact Nat.le_trans h.bel.size h1, below_kp h.bel hk h.fl⟩

/-- A row of texts. -/
def arS (n : Nat) (f : Nat → List UInt8) : Array Value := ((List.range n).map fun j => Value.string (tx (f j))).toArray

theorem arS_at (n : Nat) (f : Nat → List UInt8) (j : Nat) (h : j < n) : (arS n f)[j]? = some (.string (tx (f j))) := by
  unfold arS
  simp [h]

theorem arS_set (n : Nat) (f : Nat → List UInt8) (j : Nat) (s : List UInt8) : (arS n f).setIfInBounds j (.string (tx s)) = arS n (fun i => if i = j then s else f i) := by
  apply Array.ext_getElem?
  intro i
  unfold arS
  simp only [Array.getElem?_setIfInBounds]
  by_cases h : j = i
  · subst h
    by_cases h2 : j < n
    · simp [h2]
    · simp [h2]
  · rw [if_neg h]
    by_cases h2 : i < n
    · have hne : ¬ i = j := fun e => h e.symm
      simp [h2, hne]
    · simp [h2]

def Tx (w : World) (B : Nat) (T : TypeId) (n : Nat) (f : Nat → List UInt8) : Prop := w.heap[B]? = some (.cells (arS n f) T)

theorem Tx.cell {w : World} {B : Nat} {T : TypeId} {n : Nat} {f : Nat → List UInt8} (h : Tx w B T n f) (j : Nat) (hj : j < n) : w.cell? ⟨B, j, none⟩ = some (.string (tx (f j))) := by
  unfold Tx at h
  simp [World.cell?, h, arS_at n f j hj]

theorem Tx.free {w : World} {B : Nat} {T : TypeId} {n : Nat} {f : Nat → List UInt8} (h : Tx w B T n f) (i : Nat) : w.frozen? ⟨B, i, none⟩ = false := by
  unfold Tx at h
  simp [World.frozen?, h]

theorem Tx.lt {w : World} {B : Nat} {T : TypeId} {n : Nat} {f : Nat → List UInt8} (h : Tx w B T n f) : B < w.heap.size := (Array.getElem?_eq_some_iff.1 h).1

theorem Tx.set {w : World} {B : Nat} {T : TypeId} {n : Nat} {f : Nat → List UInt8} (h : Tx w B T n f) (j : Nat) (s : List UInt8) : Tx (w.setCell ⟨B, j, none⟩ (.string (tx s))) B T n (fun i => if i = j then s else f i) := by
  have := heap_setCell_same _ B j _ _ (.string (tx s)) h
  unfold Tx
  rw [← arS_set]
  exact this

theorem Tx.keep {w w' : World} {B : Nat} {T : TypeId} {n : Nat} {f : Nat → List UInt8} {G : Nat → Prop} (h : Tx w B T n f) (hk : Keep G w w') (hG : ¬ G B) : Tx w' B T n f := hk.at h hG

theorem Tx.below {w w' : World} {B : Nat} {T : TypeId} {n : Nat} {f : Nat → List UInt8} (h : Tx w B T n f) (hb : Below w.heap.size w w') : Tx w' B T n f := (hb.block B h.lt).trans h

theorem Tx.same {w : World} {B : Nat} {T : TypeId} {n : Nat} {f g : Nat → List UInt8} (h : Tx w B T n f) (hg : ∀ j, j < n → f j = g j) : Tx w B T n g := by
  have e : arS n f = arS n g := by
    unfold arS
    congr 1
    apply List.map_congr_left
    intro j hj
    rw [hg j (by simpa using hj)]
  unfold Tx at *
  rw [← e]
  exact h

theorem lastK_pre (i : Int) (l m : List Raw) (k : Nat) (h : k ≤ l.length) : lastK i (l ++ m) k = lastK i l k := by
  induction k with
  | zero => rfl
  | succ k ih =>
    have hk : k < l.length := by omega
    rw [lastK, lastK, List.getElem?_append_left hk, ih (by omega)]

theorem lastK_snoc (i : Int) (l : List Raw) (r : Raw) : lastK i (l ++ [r]) (l ++ [r]).length = if r.1 = i then r.2 else lastK i l l.length := by
  rw [List.length_append, List.length_singleton, lastK, List.getElem?_append_right (Nat.le_refl _), Nat.sub_self]
  show (if r.1 = i then r.2 else lastK i (l ++ [r]) l.length) = _
  rw [lastK_pre i l [r] l.length (Nat.le_refl _)]

/-- What a write leaves to read. -/
theorem rdT_wrote (d : Dsk) (k : Int) (s : List UInt8) (i : Int) (h : wrN d k s = 0) (hi : 0 ≤ i ∧ i < d.n) : rdT (wrD d k s) i = if k = i then s else rdT d i := by
  unfold wrD rdT
  rw [if_pos h, if_pos hi]
  simp only [if_pos hi]
  exact lastK_snoc i d.tr (k, s)

theorem rdN_in (d : Dsk) (i : Int) (hi : 0 ≤ i ∧ i < d.n) : rdN d i = 0 := by
  unfold rdN
  rw [if_pos hi]

theorem wrN_in (d : Dsk) (k : Int) (s : List UInt8) (hi : 0 ≤ k ∧ k < d.n) (hs : s.length ≤ 256) : wrN d k s = if d.left = 0 then 22 else 0 := by
  unfold wrN
  rw [if_pos hi, if_neg (by omega)]

end Dk
end Go.Proofs.YtlgjnefieflmbaaDoor
