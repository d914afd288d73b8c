/- What lies in EventKnown's lists. -/
import Derived.Test.YtnllplholfhbdaaDoorEbackK
import Derived.Test.YtnllplholfhbdaaDoorNoF
namespace Go.Proofs.YtnllplholfhbdaaDoor
set_option linter.ambiguousOpen false
open Go.RowKit
namespace Ev
open Pk Sm Ft
set_option linter.unusedSimpArgs false
set_option linter.unusedVariables false

theorem rd_nilE (w : World) : RdB w (.slice none 0 0) [] := ⟨none, 0, rfl, Nat.le_refl _, by decide, fun h => by simp at h⟩

theorem flat_at {α : Type} (f : α → List Value) (n : Nat) (hf : ∀ a, (f a).length = n) (l : List α) (k : Nat) (e : α) (h : l[k]? = some e) (j : Nat) (hj : j < n) : (l.flatMap f)[k * n + j]? = (f e)[j]? := by
  induction l generalizing k with
  | nil => simp at h
  | cons a l ih =>
    rw [List.flatMap_cons]
    cases k with
    | zero =>
      simp at h
      subst h
      rw [Nat.zero_mul, Nat.zero_add, List.getElem?_append_left (by rw [hf]; exact hj)]
    | succ k =>
      have h' : l[k]? = some e := by simpa using h
      rw [List.getElem?_append_right (by rw [hf, Nat.succ_mul]; omega), hf, show (k + 1) * n + j - n = k * n + j by rw [Nat.succ_mul]; omega]
      exact ih k h'

/-- Events that may not be. -/
def bads : List Evt := [⟨2, ⟨0, 0, 0, 0, 0, [], [], 0, 0, 0, 0, 0⟩, 0, 0⟩, ⟨1, ⟨0, 0, 0, 0, 0, [], [], 0, 0, 0, 0, 0⟩, 1, 1⟩, ⟨3, ⟨0, 0, 0, 0, 0, [], [], 0, 0, 0, 0, 0⟩, 0, 0⟩, ⟨(-1), ⟨0, 0, 0, 0, 0, [], [], 0, 0, 0, 0, 0⟩, 0, 0⟩, ⟨2, ⟨0, 0, 0, 0, 0, [], [], 0, 0, 0, 0, 0⟩, 0, 1073741825⟩, ⟨1, ⟨0, 0, 0, 0, 0, [], [], 0, 0, 0, 0, 0⟩, 1048577, 0⟩, ⟨1, ⟨0, 0, 0, 0, 0, [], [], 0, 0, 0, 0, 0⟩, 0, 0⟩, ⟨2, ⟨0, 0, 0, 0, 0, [], [], 0, 0, 0, 0, 1⟩, 0, 1⟩, ⟨0, ⟨3, 1, 0, 0, 0, [97, 110, 110], [116, 118], 0, 0, 0, 300, 0⟩, 0, 0⟩, ⟨0, ⟨3, 1, 1, 0, 0, [97, 110, 110], [], 0, 0, 0, 300, 0⟩, 0, 0⟩]

set_option maxRecDepth 100000 in
theorem bads_arr : (bads.flatMap fun e => e.arr.toList).toArray = #[nu 2, nu 0, nu 0, nu 0, nu 0, nu 0, .string ⟨#[]⟩, .string ⟨#[]⟩, .int .u64 0, nu 0, nu 0, nu 0, nu 0, nu 0, nu 0, nu 1, nu 0, nu 0, nu 0, nu 0, nu 0, .string ⟨#[]⟩, .string ⟨#[]⟩, .int .u64 0, nu 0, nu 0, nu 0, nu 0, nu 1, nu 1, nu 3, nu 0, nu 0, nu 0, nu 0, nu 0, .string ⟨#[]⟩, .string ⟨#[]⟩, .int .u64 0, nu 0, nu 0, nu 0, nu 0, nu 0, nu 0, nu (-1), nu 0, nu 0, nu 0, nu 0, nu 0, .string ⟨#[]⟩, .string ⟨#[]⟩, .int .u64 0, nu 0, nu 0, nu 0, nu 0, nu 0, nu 0, nu 2, nu 0, nu 0, nu 0, nu 0, nu 0, .string ⟨#[]⟩, .string ⟨#[]⟩, .int .u64 0, nu 0, nu 0, nu 0, nu 0, nu 0, nu 1073741825, nu 1, nu 0, nu 0, nu 0, nu 0, nu 0, .string ⟨#[]⟩, .string ⟨#[]⟩, .int .u64 0, nu 0, nu 0, nu 0, nu 0, nu 1048577, nu 0, nu 1, nu 0, nu 0, nu 0, nu 0, nu 0, .string ⟨#[]⟩, .string ⟨#[]⟩, .int .u64 0, nu 0, nu 0, nu 0, nu 0, nu 0, nu 0, nu 2, nu 0, nu 0, nu 0, nu 0, nu 0, .string ⟨#[]⟩, .string ⟨#[]⟩, .int .u64 0, nu 0, nu 0, nu 0, nu 1, nu 0, nu 1, nu 0, nu 3, nu 1, nu 0, nu 0, nu 0, .string ⟨#[97, 110, 110]⟩, .string ⟨#[116, 118]⟩, .int .u64 0, nu 0, nu 0, nu 300, nu 0, nu 0, nu 0, nu 0, nu 3, nu 1, nu 1, nu 0, nu 0, .string ⟨#[97, 110, 110]⟩, .string ⟨#[]⟩, .int .u64 0, nu 0, nu 0, nu 300, nu 0, nu 0, nu 0] := rfl

theorem bads_no (e : Evt) (h : e ∈ bads) : mayE e = false ∧ e.fit ∧ e.rng := by
  unfold bads at h
  simp only [List.mem_cons, List.not_mem_nil, or_false] at h
  rcases h with rfl | rfl | rfl | rfl | rfl | rfl | rfl | rfl | rfl | rfl <;> exact ⟨by decide +kernel, ⟨by decide, by decide, by decide⟩, by constructor <;> exact ⟨by decide, by decide⟩⟩

/-- They lie there, one behind the other. -/
def BadsAt (w : World) (LB : Nat) : Prop := w.heap[LB]? = some (.cells (bads.flatMap fun e => e.arr.toList).toArray 29)

theorem bads_start (w : World) : BadsAt (w.alloc (.cells #[nu 2, nu 0, nu 0, nu 0, nu 0, nu 0, .string ⟨#[]⟩, .string ⟨#[]⟩, .int .u64 0, nu 0, nu 0, nu 0, nu 0, nu 0, nu 0, nu 1, nu 0, nu 0, nu 0, nu 0, nu 0, .string ⟨#[]⟩, .string ⟨#[]⟩, .int .u64 0, nu 0, nu 0, nu 0, nu 0, nu 1, nu 1, nu 3, nu 0, nu 0, nu 0, nu 0, nu 0, .string ⟨#[]⟩, .string ⟨#[]⟩, .int .u64 0, nu 0, nu 0, nu 0, nu 0, nu 0, nu 0, nu (-1), nu 0, nu 0, nu 0, nu 0, nu 0, .string ⟨#[]⟩, .string ⟨#[]⟩, .int .u64 0, nu 0, nu 0, nu 0, nu 0, nu 0, nu 0, nu 2, nu 0, nu 0, nu 0, nu 0, nu 0, .string ⟨#[]⟩, .string ⟨#[]⟩, .int .u64 0, nu 0, nu 0, nu 0, nu 0, nu 0, nu 1073741825, nu 1, nu 0, nu 0, nu 0, nu 0, nu 0, .string ⟨#[]⟩, .string ⟨#[]⟩, .int .u64 0, nu 0, nu 0, nu 0, nu 0, nu 1048577, nu 0, nu 1, nu 0, nu 0, nu 0, nu 0, nu 0, .string ⟨#[]⟩, .string ⟨#[]⟩, .int .u64 0, nu 0, nu 0, nu 0, nu 0, nu 0, nu 0, nu 2, nu 0, nu 0, nu 0, nu 0, nu 0, .string ⟨#[]⟩, .string ⟨#[]⟩, .int .u64 0, nu 0, nu 0, nu 0, nu 1, nu 0, nu 1, nu 0, nu 3, nu 1, nu 0, nu 0, nu 0, .string ⟨#[97, 110, 110]⟩, .string ⟨#[116, 118]⟩, .int .u64 0, nu 0, nu 0, nu 300, nu 0, nu 0, nu 0, nu 0, nu 3, nu 1, nu 1, nu 0, nu 0, .string ⟨#[97, 110, 110]⟩, .string ⟨#[]⟩, .int .u64 0, nu 0, nu 0, nu 300, nu 0, nu 0, nu 0] 29)) w.heap.size := by
  unfold BadsAt
  rw [bads_arr]
  exact heap_alloc_new _ _

theorem BadsAt.below {w w' : World} {LB : Nat} (h : BadsAt w LB) (hb : Below w.heap.size w w') : BadsAt w' LB := (hb.block _ (Array.getElem?_eq_some_iff.1 h).1).trans h

theorem BadsAt.cell {w : World} {LB : Nat} (h : BadsAt w LB) (k : Nat) (e : Evt) (hk : bads[k]? = some e) (j : Nat) (u : Value) (hj : e.arr[j]? = some u) : w.cell? ⟨LB, k * 15 + j, none⟩ = some u := by
  have hj15 : j < 15 := (Array.getElem?_eq_some_iff.1 hj).1
  refine cell_at h ?_
  rw [List.getElem?_toArray, flat_at (fun e : Evt => e.arr.toList) 15 (fun _ => rfl) bads k e hk j hj15]
  simpa using hj

/-- Rows that tell no event, and the errors' numbers. -/
def rowsK : List (List UInt8) := [[], [3], [3, 0], [1], [1, 0], [1, 1, 0], [2, 128, 0], [0, 3, 1, 0, 0, 0, 33], [1, 255, 255, 255, 255, 255, 255, 255, 255, 255, 1], [255, 255, 255, 255, 255, 255, 255, 255, 255, 1]]

def nosK : List Nat := [2, 1, 1, 2, 1, 3, 4, 3, 1, 1]

theorem rows_dec (k : Nat) (l : List UInt8) (n : Nat) (hl : rowsK[k]? = some l) (hn : nosK[k]? = some n) : decE l = (Evt.zero, n) ∧ l.length ≤ 65537 ∧ n ≤ 24 := by
  have hk : k < 10 := (List.getElem?_eq_some_iff.1 hn).1
  rcases (by omega : k = 0 ∨ k = 1 ∨ k = 2 ∨ k = 3 ∨ k = 4 ∨ k = 5 ∨ k = 6 ∨ k = 7 ∨ k = 8 ∨ k = 9) with rfl | rfl | rfl | rfl | rfl | rfl | rfl | rfl | rfl | rfl <;> (obtain rfl := Option.some.inj hl; obtain rfl := Option.some.inj hn; exact ⟨by kernel_rfl, by decide, by decide⟩)

/-- They lie there. -/
structure RowsAt (w : World) (RB NB : Nat) : Prop where
  row : ∀ (k : Nat) (l : List UInt8), rowsK[k]? = some l → ∃ v, w.cell? ⟨RB, k, none⟩ = some v ∧ RdB w v l
  no : ∀ (k n : Nat), nosK[k]? = some n → w.cell? ⟨NB, k, none⟩ = some (nu (n : Int))
  r0 : RB < w.heap.size
  n0 : NB < w.heap.size

theorem RowsAt.below {w w' : World} {RB NB : Nat} (h : RowsAt w RB NB) (hb : Below w.heap.size w w') : RowsAt w' RB NB :=
  ⟨fun k l hk => by
    obtain ⟨v, h1, h2⟩ := h.row k l hk
    exact ⟨v, (hb.cell (p := ⟨RB, k, none⟩) h.r0).trans h1, h2.below hb⟩, fun k n hk => (hb.cell (p := ⟨NB, k, none⟩) h.n0).trans (h.no k n hk), Nat.lt_of_lt_of_le h.r0 hb.size, Nat.lt_of_lt_of_le h.n0 hb.size⟩

theorem rd_more (w : World) (o : Obj) {v : Value} {l : List UInt8} (h : RdB w v l) : RdB (w.alloc o) v l := h.below ((Below.refl _ _).alloc (Nat.le_refl _) _)

set_option maxRecDepth 100000 in
set_option maxHeartbeats 2000000 in
theorem rows_start (w : World) : RowsAt (((((((((((w.alloc (.cells #[.int .u8 3] 5)).alloc (.cells #[.int .u8 3, .int .u8 0] 5)).alloc (.cells #[.int .u8 1] 5)).alloc (.cells #[.int .u8 1, .int .u8 0] 5)).alloc (.cells #[.int .u8 1, .int .u8 1, .int .u8 0] 5)).alloc (.cells #[.int .u8 2, .int .u8 128, .int .u8 0] 5)).alloc (.cells #[.int .u8 0, .int .u8 3, .int .u8 1, .int .u8 0, .int .u8 0, .int .u8 0, .int .u8 33] 5)).alloc (.cells #[.int .u8 1, .int .u8 255, .int .u8 255, .int .u8 255, .int .u8 255, .int .u8 255, .int .u8 255, .int .u8 255, .int .u8 255, .int .u8 255, .int .u8 1] 5)).alloc (.cells #[.int .u8 255, .int .u8 255, .int .u8 255, .int .u8 255, .int .u8 255, .int .u8 255, .int .u8 255, .int .u8 255, .int .u8 255, .int .u8 1] 5)).alloc (.cells #[.slice none 0 0, .slice (some ⟨w.heap.size, 0, none⟩) 1 1, .slice (some ⟨w.heap.size + 1, 0, none⟩) 2 2, .slice (some ⟨w.heap.size + 2, 0, none⟩) 1 1, .slice (some ⟨w.heap.size + 3, 0, none⟩) 2 2, .slice (some ⟨w.heap.size + 4, 0, none⟩) 3 3, .slice (some ⟨w.heap.size + 5, 0, none⟩) 3 3, .slice (some ⟨w.heap.size + 6, 0, none⟩) 7 7, .slice (some ⟨w.heap.size + 7, 0, none⟩) 11 11, .slice (some ⟨w.heap.size + 8, 0, none⟩) 10 10] 30)).alloc (.cells #[nu 2, nu 1, nu 1, nu 2, nu 1, nu 3, nu 4, nu 3, nu 1, nu 1] 3)) (w.heap.size + 9) (w.heap.size + 10) := by
  obtain ⟨x1, e1⟩ : ∃ x, w.alloc (.cells #[.int .u8 3] 5) = x := ⟨_, rfl⟩
  have z1 : x1.heap.size = w.heap.size + 1 := by rw [← e1]; simp
  have r1 : RdB x1 (.slice (some ⟨w.heap.size, 0, none⟩) 1 1) [3] := by
    have := rd_new w [3] (by decide)
    rw [← e1]
    exact this
  obtain ⟨x2, e2⟩ : ∃ x, x1.alloc (.cells #[.int .u8 3, .int .u8 0] 5) = x := ⟨_, rfl⟩
  have z2 : x2.heap.size = w.heap.size + 2 := by rw [← e2]; simp [z1]
  have r2 : RdB x2 (.slice (some ⟨w.heap.size + 1, 0, none⟩) 2 2) [3, 0] := by
    have := rd_new x1 [3, 0] (by decide)
    rw [z1] at this
    rw [← e2]
    exact this
  obtain ⟨x3, e3⟩ : ∃ x, x2.alloc (.cells #[.int .u8 1] 5) = x := ⟨_, rfl⟩
  have z3 : x3.heap.size = w.heap.size + 3 := by rw [← e3]; simp [z2]
  have r3 : RdB x3 (.slice (some ⟨w.heap.size + 2, 0, none⟩) 1 1) [1] := by
    have := rd_new x2 [1] (by decide)
    rw [z2] at this
    rw [← e3]
    exact this
  obtain ⟨x4, e4⟩ : ∃ x, x3.alloc (.cells #[.int .u8 1, .int .u8 0] 5) = x := ⟨_, rfl⟩
  have z4 : x4.heap.size = w.heap.size + 4 := by rw [← e4]; simp [z3]
  have r4 : RdB x4 (.slice (some ⟨w.heap.size + 3, 0, none⟩) 2 2) [1, 0] := by
    have := rd_new x3 [1, 0] (by decide)
    rw [z3] at this
    rw [← e4]
    exact this
  obtain ⟨x5, e5⟩ : ∃ x, x4.alloc (.cells #[.int .u8 1, .int .u8 1, .int .u8 0] 5) = x := ⟨_, rfl⟩
  have z5 : x5.heap.size = w.heap.size + 5 := by rw [← e5]; simp [z4]
  have r5 : RdB x5 (.slice (some ⟨w.heap.size + 4, 0, none⟩) 3 3) [1, 1, 0] := by
    have := rd_new x4 [1, 1, 0] (by decide)
    rw [z4] at this
    rw [← e5]
    exact this
  obtain ⟨x6, e6⟩ : ∃ x, x5.alloc (.cells #[.int .u8 2, .int .u8 128, .int .u8 0] 5) = x := ⟨_, rfl⟩
  have z6 : x6.heap.size = w.heap.size + 6 := by rw [← e6]; simp [z5]
  have r6 : RdB x6 (.slice (some ⟨w.heap.size + 5, 0, none⟩) 3 3) [2, 128, 0] := by
    have := rd_new x5 [2, 128, 0] (by decide)
    rw [z5] at this
    rw [← e6]
    exact this
  obtain ⟨x7, e7⟩ : ∃ x, x6.alloc (.cells #[.int .u8 0, .int .u8 3, .int .u8 1, .int .u8 0, .int .u8 0, .int .u8 0, .int .u8 33] 5) = x := ⟨_, rfl⟩
  have z7 : x7.heap.size = w.heap.size + 7 := by rw [← e7]; simp [z6]
  have r7 : RdB x7 (.slice (some ⟨w.heap.size + 6, 0, none⟩) 7 7) [0, 3, 1, 0, 0, 0, 33] := by
    have := rd_new x6 [0, 3, 1, 0, 0, 0, 33] (by decide)
    rw [z6] at this
    rw [← e7]
    exact this
  obtain ⟨x8, e8⟩ : ∃ x, x7.alloc (.cells #[.int .u8 1, .int .u8 255, .int .u8 255, .int .u8 255, .int .u8 255, .int .u8 255, .int .u8 255, .int .u8 255, .int .u8 255, .int .u8 255, .int .u8 1] 5) = x := ⟨_, rfl⟩
  have z8 : x8.heap.size = w.heap.size + 8 := by rw [← e8]; simp [z7]
  have r8 : RdB x8 (.slice (some ⟨w.heap.size + 7, 0, none⟩) 11 11) [1, 255, 255, 255, 255, 255, 255, 255, 255, 255, 1] := by
    have := rd_new x7 [1, 255, 255, 255, 255, 255, 255, 255, 255, 255, 1] (by decide)
    rw [z7] at this
    rw [← e8]
    exact this
  obtain ⟨x9, e9⟩ : ∃ x, x8.alloc (.cells #[.int .u8 255, .int .u8 255, .int .u8 255, .int .u8 255, .int .u8 255, .int .u8 255, .int .u8 255, .int .u8 255, .int .u8 255, .int .u8 1] 5) = x := ⟨_, rfl⟩
  have z9 : x9.heap.size = w.heap.size + 9 := by rw [← e9]; simp [z8]
  have r9 : RdB x9 (.slice (some ⟨w.heap.size + 8, 0, none⟩) 10 10) [255, 255, 255, 255, 255, 255, 255, 255, 255, 1] := by
    have := rd_new x8 [255, 255, 255, 255, 255, 255, 255, 255, 255, 1] (by decide)
    rw [z8] at this
    rw [← e9]
    exact this
  rw [e1, e2, e3, e4, e5, e6, e7, e8, e9]
  obtain ⟨y1, f1⟩ : ∃ y, x9.alloc (.cells #[.slice none 0 0, .slice (some ⟨w.heap.size, 0, none⟩) 1 1, .slice (some ⟨w.heap.size + 1, 0, none⟩) 2 2, .slice (some ⟨w.heap.size + 2, 0, none⟩) 1 1, .slice (some ⟨w.heap.size + 3, 0, none⟩) 2 2, .slice (some ⟨w.heap.size + 4, 0, none⟩) 3 3, .slice (some ⟨w.heap.size + 5, 0, none⟩) 3 3, .slice (some ⟨w.heap.size + 6, 0, none⟩) 7 7, .slice (some ⟨w.heap.size + 7, 0, none⟩) 11 11, .slice (some ⟨w.heap.size + 8, 0, none⟩) 10 10] 30) = y := ⟨_, rfl⟩
  have hy1 : y1.heap[w.heap.size + 9]? = some (.cells #[.slice none 0 0, .slice (some ⟨w.heap.size, 0, none⟩) 1 1, .slice (some ⟨w.heap.size + 1, 0, none⟩) 2 2, .slice (some ⟨w.heap.size + 2, 0, none⟩) 1 1, .slice (some ⟨w.heap.size + 3, 0, none⟩) 2 2, .slice (some ⟨w.heap.size + 4, 0, none⟩) 3 3, .slice (some ⟨w.heap.size + 5, 0, none⟩) 3 3, .slice (some ⟨w.heap.size + 6, 0, none⟩) 7 7, .slice (some ⟨w.heap.size + 7, 0, none⟩) 11 11, .slice (some ⟨w.heap.size + 8, 0, none⟩) 10 10] 30) := by rw [← f1, ← z9]; exact heap_alloc_new _ _
  have s1 : y1.heap.size = w.heap.size + 10 := by rw [← f1]; simp [z9]
  obtain ⟨y2, f2⟩ : ∃ y, y1.alloc (.cells #[nu 2, nu 1, nu 1, nu 2, nu 1, nu 3, nu 4, nu 3, nu 1, nu 1] 3) = y := ⟨_, rfl⟩
  have hy2 : y2.heap[w.heap.size + 10]? = some (.cells #[nu 2, nu 1, nu 1, nu 2, nu 1, nu 3, nu 4, nu 3, nu 1, nu 1] 3) := by rw [← f2, ← s1]; exact heap_alloc_new _ _
  have s2 : y2.heap.size = w.heap.size + 11 := by rw [← f2]; simp [s1]
  have hb2 : Below y1.heap.size y1 y2 := by rw [← f2]; exact (Below.refl _ _).alloc (Nat.le_refl _) _
  have hy1' : y2.heap[w.heap.size + 9]? = some (.cells #[.slice none 0 0, .slice (some ⟨w.heap.size, 0, none⟩) 1 1, .slice (some ⟨w.heap.size + 1, 0, none⟩) 2 2, .slice (some ⟨w.heap.size + 2, 0, none⟩) 1 1, .slice (some ⟨w.heap.size + 3, 0, none⟩) 2 2, .slice (some ⟨w.heap.size + 4, 0, none⟩) 3 3, .slice (some ⟨w.heap.size + 5, 0, none⟩) 3 3, .slice (some ⟨w.heap.size + 6, 0, none⟩) 7 7, .slice (some ⟨w.heap.size + 7, 0, none⟩) 11 11, .slice (some ⟨w.heap.size + 8, 0, none⟩) 10 10] 30) := (hb2.block _ (by omega)).trans hy1
  have q1 : RdB y2 (.slice (some ⟨w.heap.size, 0, none⟩) 1 1) [3] := by
    rw [← f2, ← f1]
    rw [← e9]
    rw [← e8]
    rw [← e7]
    rw [← e6]
    rw [← e5]
    rw [← e4]
    rw [← e3]
    rw [← e2]
    exact rd_more _ _ (rd_more _ _ (rd_more _ _ (rd_more _ _ (rd_more _ _ (rd_more _ _ (rd_more _ _ (rd_more _ _ (rd_more _ _ (rd_more _ _ (r1))))))))))
  have q2 : RdB y2 (.slice (some ⟨w.heap.size + 1, 0, none⟩) 2 2) [3, 0] := by
    rw [← f2, ← f1]
    rw [← e9]
    rw [← e8]
    rw [← e7]
    rw [← e6]
    rw [← e5]
    rw [← e4]
    rw [← e3]
    exact rd_more _ _ (rd_more _ _ (rd_more _ _ (rd_more _ _ (rd_more _ _ (rd_more _ _ (rd_more _ _ (rd_more _ _ (rd_more _ _ (r2)))))))))
  have q3 : RdB y2 (.slice (some ⟨w.heap.size + 2, 0, none⟩) 1 1) [1] := by
    rw [← f2, ← f1]
    rw [← e9]
    rw [← e8]
    rw [← e7]
    rw [← e6]
    rw [← e5]
    rw [← e4]
    exact rd_more _ _ (rd_more _ _ (rd_more _ _ (rd_more _ _ (rd_more _ _ (rd_more _ _ (rd_more _ _ (rd_more _ _ (r3))))))))
  have q4 : RdB y2 (.slice (some ⟨w.heap.size + 3, 0, none⟩) 2 2) [1, 0] := by
    rw [← f2, ← f1]
    rw [← e9]
    rw [← e8]
    rw [← e7]
    rw [← e6]
    rw [← e5]
    exact rd_more _ _ (rd_more _ _ (rd_more _ _ (rd_more _ _ (rd_more _ _ (rd_more _ _ (rd_more _ _ (r4)))))))
  have q5 : RdB y2 (.slice (some ⟨w.heap.size + 4, 0, none⟩) 3 3) [1, 1, 0] := by
    rw [← f2, ← f1]
    rw [← e9]
    rw [← e8]
    rw [← e7]
    rw [← e6]
    exact rd_more _ _ (rd_more _ _ (rd_more _ _ (rd_more _ _ (rd_more _ _ (rd_more _ _ (r5))))))
  have q6 : RdB y2 (.slice (some ⟨w.heap.size + 5, 0, none⟩) 3 3) [2, 128, 0] := by
    rw [← f2, ← f1]
    rw [← e9]
    rw [← e8]
    rw [← e7]
    exact rd_more _ _ (rd_more _ _ (rd_more _ _ (rd_more _ _ (rd_more _ _ (r6)))))
  have q7 : RdB y2 (.slice (some ⟨w.heap.size + 6, 0, none⟩) 7 7) [0, 3, 1, 0, 0, 0, 33] := by
    rw [← f2, ← f1]
    rw [← e9]
    rw [← e8]
    exact rd_more _ _ (rd_more _ _ (rd_more _ _ (rd_more _ _ (r7))))
  have q8 : RdB y2 (.slice (some ⟨w.heap.size + 7, 0, none⟩) 11 11) [1, 255, 255, 255, 255, 255, 255, 255, 255, 255, 1] := by
    rw [← f2, ← f1]
    rw [← e9]
    exact rd_more _ _ (rd_more _ _ (rd_more _ _ (r8)))
  have q9 : RdB y2 (.slice (some ⟨w.heap.size + 8, 0, none⟩) 10 10) [255, 255, 255, 255, 255, 255, 255, 255, 255, 1] := by
    rw [← f2, ← f1]
    exact rd_more _ _ (rd_more _ _ (r9))
  rw [f1, f2]
  refine ⟨fun k l hk => ?_, fun k n hk => ?_, by omega, by omega⟩
  · have hk10 : k < 10 := (List.getElem?_eq_some_iff.1 hk).1
    rcases (by omega : k = 0 ∨ k = 1 ∨ k = 2 ∨ k = 3 ∨ k = 4 ∨ k = 5 ∨ k = 6 ∨ k = 7 ∨ k = 8 ∨ k = 9) with rfl | rfl | rfl | rfl | rfl | rfl | rfl | rfl | rfl | rfl <;> obtain rfl := Option.some.inj hk
    · exact ⟨_, cell_at (j := 0) hy1' rfl, rd_nilE y2⟩
    · exact ⟨_, cell_at (j := 1) hy1' rfl, q1⟩
    · exact ⟨_, cell_at (j := 2) hy1' rfl, q2⟩
    · exact ⟨_, cell_at (j := 3) hy1' rfl, q3⟩
    · exact ⟨_, cell_at (j := 4) hy1' rfl, q4⟩
    · exact ⟨_, cell_at (j := 5) hy1' rfl, q5⟩
    · exact ⟨_, cell_at (j := 6) hy1' rfl, q6⟩
    · exact ⟨_, cell_at (j := 7) hy1' rfl, q7⟩
    · exact ⟨_, cell_at (j := 8) hy1' rfl, q8⟩
    · exact ⟨_, cell_at (j := 9) hy1' rfl, q9⟩
  · have hk10 : k < 10 := (List.getElem?_eq_some_iff.1 hk).1
    rcases (by omega : k = 0 ∨ k = 1 ∨ k = 2 ∨ k = 3 ∨ k = 4 ∨ k = 5 ∨ k = 6 ∨ k = 7 ∨ k = 8 ∨ k = 9) with rfl | rfl | rfl | rfl | rfl | rfl | rfl | rfl | rfl | rfl <;> obtain rfl := Option.some.inj hk
    · exact cell_at (j := 0) hy2 rfl
    · exact cell_at (j := 1) hy2 rfl
    · exact cell_at (j := 2) hy2 rfl
    · exact cell_at (j := 3) hy2 rfl
    · exact cell_at (j := 4) hy2 rfl
    · exact cell_at (j := 5) hy2 rfl
    · exact cell_at (j := 6) hy2 rfl
    · exact cell_at (j := 7) hy2 rfl
    · exact cell_at (j := 8) hy2 rfl
    · exact cell_at (j := 9) hy2 rfl

theorem all_below (w : World) : Below w.heap.size w (((((((((((w.alloc (.cells #[.int .u8 3] 5)).alloc (.cells #[.int .u8 3, .int .u8 0] 5)).alloc (.cells #[.int .u8 1] 5)).alloc (.cells #[.int .u8 1, .int .u8 0] 5)).alloc (.cells #[.int .u8 1, .int .u8 1, .int .u8 0] 5)).alloc (.cells #[.int .u8 2, .int .u8 128, .int .u8 0] 5)).alloc (.cells #[.int .u8 0, .int .u8 3, .int .u8 1, .int .u8 0, .int .u8 0, .int .u8 0, .int .u8 33] 5)).alloc (.cells #[.int .u8 1, .int .u8 255, .int .u8 255, .int .u8 255, .int .u8 255, .int .u8 255, .int .u8 255, .int .u8 255, .int .u8 255, .int .u8 255, .int .u8 1] 5)).alloc (.cells #[.int .u8 255, .int .u8 255, .int .u8 255, .int .u8 255, .int .u8 255, .int .u8 255, .int .u8 255, .int .u8 255, .int .u8 255, .int .u8 1] 5)).alloc (.cells #[.slice none 0 0, .slice (some ⟨w.heap.size, 0, none⟩) 1 1, .slice (some ⟨w.heap.size + 1, 0, none⟩) 2 2, .slice (some ⟨w.heap.size + 2, 0, none⟩) 1 1, .slice (some ⟨w.heap.size + 3, 0, none⟩) 2 2, .slice (some ⟨w.heap.size + 4, 0, none⟩) 3 3, .slice (some ⟨w.heap.size + 5, 0, none⟩) 3 3, .slice (some ⟨w.heap.size + 6, 0, none⟩) 7 7, .slice (some ⟨w.heap.size + 7, 0, none⟩) 11 11, .slice (some ⟨w.heap.size + 8, 0, none⟩) 10 10] 30)).alloc (.cells #[nu 2, nu 1, nu 1, nu 2, nu 1, nu 3, nu 4, nu 3, nu 1, nu 1] 3)) := by
  iterate 11 (refine Below.alloc ?_ (by simp; try omega) _)
  exact Below.refl _ _

end Ev
end Go.Proofs.YtnllplholfhbdaaDoor
