/- Rows of raw writes; a disk's state; what the program's disk must answer. The document's own disk is not named here. -/
import Derived.Test.YtlgjnefieflmbaaDoorRowB
import Derived.Test.YtlgjnefieflmbaaDoorFoot
import Derived.Laws.OwnMore
namespace Go.Proofs.YtlgjnefieflmbaaDoor
set_option linter.ambiguousOpen false
open Go.RowKit
namespace Dk
open Sm Ft
set_option linter.unusedSimpArgs false
set_option linter.unusedVariables false

/-- A raw write: its block and its text. -/
abbrev Raw := Int × List UInt8

def rc (r : Raw) : List Value := [nu r.1, .string (tx r.2)]

def rcs (l : List Raw) : List Value := l.flatMap rc

theorem rcs_len (l : List Raw) : (rcs l).length = l.length * 2 := by
  induction l with
  | nil => rfl
  | cons r l ih =>
    unfold rcs at *
    rw [List.flatMap_cons, List.length_append, ih, List.length_cons]
    simp [rc]
    omega

theorem rcs_snoc (l : List Raw) (r : Raw) : rcs (l ++ [r]) = rcs l ++ rc r := by simp [rcs]

theorem rcs_at (l : List Raw) (k : Nat) (r : Raw) (h : l[k]? = some r) : (rcs l)[k * 2]? = some (nu r.1) ∧ (rcs l)[k * 2 + 1]? = some (.string (tx r.2)) := by
  induction l generalizing k with
  | nil => simp at h
  | cons a l ih =>
    unfold rcs at *
    rw [List.flatMap_cons]
    cases k with
    | zero =>
      simp at h
      subst h
      exact ⟨rfl, rfl⟩
    | succ k =>
      have h' : l[k]? = some r := by simpa using h
      have := ih k h'
      rw [show (k + 1) * 2 = (rc a).length + k * 2 from by simp [rc]; omega, show (rc a).length + k * 2 + 1 = (rc a).length + (k * 2 + 1) by omega]
      rw [List.getElem?_append_right (by omega), List.getElem?_append_right (by omega), Nat.add_sub_cancel_left, Nat.add_sub_cancel_left]
      exact this

/-- A row of raw writes lies there. -/
theorem raw_cells {w : World} {base g cap : Nat} {l : List Raw} {n : Nat} (h : w.ownsRow base 71 2 (.slice (some ⟨g, 0, none⟩) n cap) n (rcs l)) (k : Nat) (r : Raw) (hr : l[k]? = some r) (hn : l.length = n) : w.cell? ⟨g, k * 2, none⟩ = some (nu r.1) ∧ w.cell? ⟨g, k * 2 + 1, none⟩ = some (.string (tx r.2)) := by
  have hk : k < l.length := (List.getElem?_eq_some_iff.1 hr).1
  obtain ⟨h1, h2⟩ := rcs_at l k r hr
  exact ⟨(h.cellAt (k * 2) (by omega)).trans h1, (h.cellAt (k * 2 + 1) (by omega)).trans h2⟩

/-- The document's disk. -/
structure Dsk where
  n : Int
  left : Int
  tr : List Raw

/-- From behind: the last of the first k. -/
def lastK (i : Int) (l : List Raw) : Nat → List UInt8
  | 0 => []
  | k + 1 => match l[k]? with
    | some r => if r.1 = i then r.2 else lastK i l k
    | none => lastK i l k

theorem info_raw : (Tryd.prog.info? 71).map (fun i => (i.zero, i.size, i.bytes)) = some (some (.agg #[.int .i64 0, .string ⟨#[]⟩]), 2, 24) := by kernel_rfl

/-- What Read answers. -/
def rdT (d : Dsk) (i : Int) : List UInt8 := if 0 ≤ i ∧ i < d.n then lastK i d.tr d.tr.length else []

def rdN (d : Dsk) (i : Int) : Nat := if 0 ≤ i ∧ i < d.n then 0 else 1

theorem tx_nil : (⟨#[]⟩ : ByteArray) = tx [] := rfl

/-- What Write answers, and the disk behind it. -/
def wrN (d : Dsk) (i : Int) (s : List UInt8) : Nat := if 0 ≤ i ∧ i < d.n then if 256 < s.length then 3 else if d.left = 0 then 22 else 0 else 1

def wrD (d : Dsk) (i : Int) (s : List UInt8) : Dsk := if wrN d i s = 0 then ⟨d.n, if 0 < d.left then d.left - 1 else d.left, d.tr ++ [(i, s)]⟩ else d

/-- The value v reads, in w, as the row l of raw writes. -/
def RdR (w : World) (v : Value) (l : List Raw) : Prop :=
  ∃ a cap, v = .slice a l.length cap ∧ l.length ≤ cap ∧ cap ≤ maxLen ∧ (0 < l.length → ∃ g o, a = some ⟨g, o, none⟩ ∧ g < w.heap.size ∧ ∀ k r, l[k]? = some r → w.cell? ⟨g, o + k * 2, none⟩ = some (nu r.1) ∧ w.cell? ⟨g, o + k * 2 + 1, none⟩ = some (.string (tx r.2)))

theorem RdR.below {w w' : World} {v : Value} {l : List Raw} (h : RdR w v l) (hb : Below w.heap.size w w') : RdR w' v l := by
  obtain ⟨a, cap, h1, h2, h3, h4⟩ := h
  refine ⟨a, cap, h1, h2, h3, fun h0 => ?_⟩
  obtain ⟨g, o, e1, e2, e3⟩ := h4 h0
  exact ⟨g, o, e1, Nat.lt_of_lt_of_le e2 hb.size, fun k r hr => ⟨(hb.cell (p := ⟨g, o + k * 2, none⟩) e2).trans (e3 k r hr).1, (hb.cell (p := ⟨g, o + k * 2 + 1, none⟩) e2).trans (e3 k r hr).2⟩⟩

theorem own_rdR {w : World} {base : Nat} {v : Value} {l : List Raw} (h : w.ownsRow base 71 2 v l.length (rcs l)) : RdR w v l := by
  rcases h.2 with ⟨rfl, h0⟩ | ⟨g, cap, cur, rfl, h1, h2, h3, h4, h5, h6⟩
  · exact ⟨none, 0, by rw [h0], by omega, by decide, fun h => by omega⟩
  · refine ⟨_, cap, rfl, h3, h4, fun _ => ⟨g, 0, rfl, (Array.getElem?_eq_some_iff.1 h2).1, fun k r hr => ?_⟩⟩
    have := raw_cells h k r hr rfl
    simpa using this

theorem RdR.take {w : World} {a : Option Addr} {cap : Nat} {l : List Raw} (h : RdR w (.slice a l.length cap) l) (m : Nat) (hm : m ≤ l.length) : RdR w (.slice a m cap) (l.take m) := by
  obtain ⟨a', cap', e, h1, h2, h3⟩ := h
  cases e
  have hl : (l.take m).length = m := by rw [List.length_take]; omega
  refine ⟨a, cap, by rw [hl], by omega, h2, fun h0 => ?_⟩
  rw [hl] at h0
  obtain ⟨g, o, e1, e2, e3⟩ := h3 (by omega)
  exact ⟨g, o, e1, e2, fun k r hr => e3 k r (by
    rw [List.getElem?_take] at hr
    split at hr
    · exact hr
    · simp at hr)⟩

theorem rc_one (r : Raw) : ∀ u ∈ rc r, u.oneCell' = true := by
  intro u hu
  simp [rc] at hu
  rcases hu with rfl | rfl <;> rfl

/-- An error without a place, and none. -/
@[reducible] def noE (n : Int) : Value := .iface 58 (.int .i64 n)

def errE : Nat → Value
  | 0 => .nilIface
  | n + 1 => noE ((n + 1 : Nat) : Int)

@[reducible] def ptr (p : Nat) : Value := .pointer (some ⟨p, 0, none⟩)

/-- Where a footprint lies behind a call: where it lay, or in what is new. -/
def Goes (w : World) (F F' : Nat → Prop) : Prop := ∀ k, F' k → F k ∨ w.heap.size ≤ k

theorem Goes.refl (w : World) (F : Nat → Prop) : Goes w F F := fun _ h => .inl h

/-- What the program's calls answer, of disks that Rep tells. -/
structure Says (Rep : World → Nat → (Nat → Prop) → Dsk → Prop) : Prop where
  keep : ∀ {w w' : World} {p : Nat} {F G : Nat → Prop} {d : Dsk}, Rep w p F d → Keep G w w' → (∀ k, F k → ¬ G k) → Rep w' p F d
  lt : ∀ {w : World} {p : Nat} {F : Nat → Prop} {d : Dsk}, Rep w p F d → ∀ k, F k → k < w.heap.size
  newNo : ∀ (n : Int) (w : World), ¬ (1 ≤ n ∧ n ≤ 4096) → Calls Tryd.prog 7 #[nu n] w fun e w' => e = .returned (.tuple #[.pointer none, noE 1]) ∧ Below w.heap.size w w'
  newYes : ∀ (n : Int) (w : World), 1 ≤ n → n ≤ 4096 → Calls Tryd.prog 7 #[nu n] w fun e w' => ∃ p F, e = .returned (.tuple #[ptr p, .nilIface]) ∧ Rep w' p F ⟨n, -1, []⟩ ∧ (∀ k, F k → w.heap.size ≤ k) ∧ Below w.heap.size w w'
  blocks : ∀ (w : World) (p : Nat) (F : Nat → Prop) (d : Dsk), Rep w p F d → Calls Tryd.prog 69 #[ptr p] w fun e w' => e = .returned (nu d.n) ∧ Below w.heap.size w w'
  trail : ∀ (w : World) (p : Nat) (F : Nat → Prop) (d : Dsk), Rep w p F d → d.tr.length ≤ 1000000000 → Calls Tryd.prog 19 #[ptr p] w fun e w' => ∃ v, e = .returned v ∧ w'.ownsRow w.heap.size 71 2 v d.tr.length (rcs d.tr) ∧ Below w.heap.size w w'
  read : ∀ (w : World) (p : Nat) (F : Nat → Prop) (d : Dsk) (i : Int), Rep w p F d → d.tr.length ≤ 1000000000 → -9223372036854775808 ≤ i ∧ i ≤ 9223372036854775807 → Calls Tryd.prog 61 #[ptr p, nu i] w fun e w' => e = .returned (.tuple #[.string (tx (rdT d i)), errE (rdN d i)]) ∧ Below w.heap.size w w'
  write : ∀ (w : World) (p : Nat) (F : Nat → Prop) (d : Dsk) (i : Int) (s : List UInt8), Rep w p F d → d.tr.length ≤ 1000000000 → -9223372036854775808 ≤ i ∧ i ≤ 9223372036854775807 → s.length ≤ maxLen → Calls Tryd.prog 11 #[ptr p, nu i, .string (tx s)] w fun e w' => e = .returned (errE (wrN d i s)) ∧ ∃ F', Rep w' p F' (wrD d i s) ∧ Keep F w w' ∧ Goes w F F'
  cut : ∀ (w : World) (p : Nat) (F : Nat → Prop) (d : Dsk) (n : Int), Rep w p F d → -9223372036854775808 ≤ n ∧ n ≤ 9223372036854775807 → Calls Tryd.prog 13 #[ptr p, nu n] w fun e w' => (∃ u, e = .returned u) ∧ ∃ F', Rep w' p F' ⟨d.n, max n (-1), d.tr⟩ ∧ Keep F w w' ∧ Goes w F F'
  restore : ∀ (w : World) (p : Nat) (F : Nat → Prop) (d : Dsk), Rep w p F d → Calls Tryd.prog 33 #[ptr p] w fun e w' => (∃ u, e = .returned u) ∧ ∃ F', Rep w' p F' ⟨d.n, -1, d.tr⟩ ∧ Keep F w w' ∧ Goes w F F'

theorem own_mono {w : World} {b c : Nat} {e : TypeId} {size : Nat} {v : Value} {n : Nat} {xs : List Value} (h : w.ownsRow b e size v n xs) (hc : c ≤ b) : w.ownsRow c e size v n xs := by
  refine ⟨h.1, ?_⟩
  rcases h.2 with h0 | ⟨g, cap, cur, rfl, hbg, rest⟩
  · exact .inl h0
  · exact .inr ⟨g, cap, cur, rfl, Nat.le_trans hc hbg, rest⟩

theorem wrD_left (d : Dsk) (i : Int) (s : List UInt8) (h : -1 ≤ d.left ∧ d.left ≤ 9223372036854775807) : -1 ≤ (wrD d i s).left ∧ (wrD d i s).left ≤ 9223372036854775807 := by
  unfold wrD
  split
  · show -1 ≤ (if 0 < d.left then d.left - 1 else d.left) ∧ (if 0 < d.left then d.left - 1 else d.left) ≤ 9223372036854775807
    split <;> omega
  · exact h

theorem wrD_n (d : Dsk) (i : Int) (s : List UInt8) : (wrD d i s).n = d.n := by
  unfold wrD
  split <;> rfl

theorem wrD_tr (d : Dsk) (i : Int) (s : List UInt8) : (wrD d i s).tr.length ≤ d.tr.length + 1 := by
  unfold wrD
  split
  · simp
  · omega

theorem wrN_le (d : Dsk) (i : Int) (s : List UInt8) : wrN d i s ≤ 24 := by
  unfold wrN
  repeat' split
  all_goals omega

theorem rdN_le (d : Dsk) (i : Int) : rdN d i ≤ 24 := by
  unfold rdN
  split <;> omega
end Dk
end Go.Proofs.YtlgjnefieflmbaaDoor
