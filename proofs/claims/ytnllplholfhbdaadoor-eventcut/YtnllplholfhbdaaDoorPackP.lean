import Derived.Test.YtnllplholfhbdaaDoorListsY
import Derived.Test.YtnllplholfhbdaaDoorFoot
/- Items and asks, as lists; what the program's writers and readers must answer. The document's own functions are not named here. -/
namespace Go.Proofs.YtnllplholfhbdaaDoor
set_option linter.ambiguousOpen false
open Go.RowKit
namespace Pk
open Sm Ft
set_option linter.unusedSimpArgs false
set_option linter.unusedVariables false

/-- What is put. -/
structure Itm where
  t : Bool
  v : Nat
  s : List UInt8

/-- Its bytes. -/
def Itm.bytes (i : Itm) : List UInt8 := if i.t then txt i.s else sev i.v

def ic (i : Itm) : List Value := [.bool i.t, .int .u64 (i.v : Int), .string (tx i.s)]

def ics (l : List Itm) : List Value := l.flatMap ic

theorem ics_len (l : List Itm) : (ics l).length = l.length * 3 := by
  induction l with
  | nil => rfl
  | cons r l ih =>
    unfold ics at *
    rw [List.flatMap_cons, List.length_append, ih, List.length_cons]
    simp [ic]
    omega

theorem ics_snoc (l : List Itm) (r : Itm) : ics (l ++ [r]) = ics l ++ ic r := by simp [ics]

theorem ics_at (l : List Itm) (k : Nat) (r : Itm) (h : l[k]? = some r) : (ics l)[k * 3]? = some (.bool r.t) ∧ (ics l)[k * 3 + 1]? = some (.int .u64 (r.v : Int)) ∧ (ics l)[k * 3 + 2]? = some (.string (tx r.s)) := by
  induction l generalizing k with
  | nil => simp at h
  | cons a l ih =>
    unfold ics at *
    rw [List.flatMap_cons]
    cases k with
    | zero =>
      simp at h
      subst h
      exact ⟨rfl, rfl, rfl⟩
    | succ k =>
      have h' : l[k]? = some r := by simpa using h
      have := ih k h'
      have e : (ic a).length = 3 := rfl
      rw [show (k + 1) * 3 = (ic a).length + k * 3 from by rw [e]; omega, show (ic a).length + k * 3 + 1 = (ic a).length + (k * 3 + 1) by omega, show (ic a).length + k * 3 + 2 = (ic a).length + (k * 3 + 2) by omega]
      rw [List.getElem?_append_right (by omega), List.getElem?_append_right (by omega), List.getElem?_append_right (by omega), Nat.add_sub_cancel_left, Nat.add_sub_cancel_left, Nat.add_sub_cancel_left]
      exact this

/-- The value v reads, in w, as the items l. -/
def RdI (w : World) (v : Value) (l : List Itm) : Prop :=
  ∃ a cap, v = .slice a l.length cap ∧ l.length ≤ cap ∧ cap ≤ maxLen ∧ (0 < l.length → ∃ g o, a = some ⟨g, o, none⟩ ∧ g < w.heap.size ∧ ∀ k r, l[k]? = some r → w.cell? ⟨g, o + k * 3, none⟩ = some (.bool r.t) ∧ w.cell? ⟨g, o + k * 3 + 1, none⟩ = some (.int .u64 (r.v : Int)) ∧ w.cell? ⟨g, o + k * 3 + 2, none⟩ = some (.string (tx r.s)))

theorem RdI.below {w w' : World} {v : Value} {l : List Itm} (h : RdI w v l) (hb : Below w.heap.size w w') : RdI w' v l := by
  obtain ⟨a, cap, h1, h2, h3, h4⟩ := h
  refine ⟨a, cap, h1, h2, h3, fun h0 => ?_⟩
  obtain ⟨g, o, e1, e2, e3⟩ := h4 h0
  refine ⟨g, o, e1, Nat.lt_of_lt_of_le e2 hb.size, fun k r hr => ?_⟩
  obtain ⟨a1, a2, a3⟩ := e3 k r hr
  exact ⟨(hb.cell (p := ⟨g, o + k * 3, none⟩) e2).trans a1, (hb.cell (p := ⟨g, o + k * 3 + 1, none⟩) e2).trans a2, (hb.cell (p := ⟨g, o + k * 3 + 2, none⟩) e2).trans a3⟩

/-- What a reader is asked: a number, or a text of at most so many bytes. -/
abbrev Ask := Bool × Int

/-- The value v reads, in w, as the asks l. -/
def RdQ (w : World) (v : Value) (l : List Ask) : Prop :=
  ∃ a cap, v = .slice a l.length cap ∧ l.length ≤ cap ∧ cap ≤ maxLen ∧ (0 < l.length → ∃ g o, a = some ⟨g, o, none⟩ ∧ g < w.heap.size ∧ ∀ k r, l[k]? = some r → w.cell? ⟨g, o + k * 2, none⟩ = some (.bool r.1) ∧ w.cell? ⟨g, o + k * 2 + 1, none⟩ = some (nu r.2))

theorem RdQ.below {w w' : World} {v : Value} {l : List Ask} (h : RdQ w v l) (hb : Below w.heap.size w w') : RdQ w' v l := by
  obtain ⟨a, cap, h1, h2, h3, h4⟩ := h
  refine ⟨a, cap, h1, h2, h3, fun h0 => ?_⟩
  obtain ⟨g, o, e1, e2, e3⟩ := h4 h0
  refine ⟨g, o, e1, Nat.lt_of_lt_of_le e2 hb.size, fun k r hr => ?_⟩
  obtain ⟨a1, a2⟩ := e3 k r hr
  exact ⟨(hb.cell (p := ⟨g, o + k * 2, none⟩) e2).trans a1, (hb.cell (p := ⟨g, o + k * 2 + 1, none⟩) e2).trans a2⟩

theorem own_mono {w : World} {b c : Nat} {e : TypeId} {size : Nat} {v : Value} {n : Nat} {xs : List Value} (h : w.ownsRow b e size v n xs) (hc : c ≤ b) : w.ownsRow c e size v n xs := by
  refine ⟨h.1, ?_⟩
  rcases h.2 with h0 | ⟨g, cap, cur, rfl, hbg, rest⟩
  · exact .inl h0
  · exact .inr ⟨g, cap, cur, rfl, Nat.le_trans hc hbg, rest⟩

/-- An error without a place, and none. -/
@[reducible] def noE (n : Int) : Value := .iface 60 (.int .i64 n)

def errE : Nat → Value
  | 0 => .nilIface
  | n + 1 => noE ((n + 1 : Nat) : Int)

@[reducible] def ptr (p : Nat) : Value := .pointer (some ⟨p, 0, none⟩)

@[reducible] def u6 (n : Nat) : Value := .int .u64 (n : Int)

/-- Where a footprint lies behind a call: where it lay, or in what is new. -/
def Goes (w : World) (F F' : Nat → Prop) : Prop := ∀ k, F' k → F k ∨ w.heap.size ≤ k

theorem Goes.refl (w : World) (F : Nat → Prop) : Goes w F F := fun _ h => .inl h

/-- What the program's calls answer, of writers that RW tells and readers that RR tells. -/
structure Says (RW RR : World → Nat → (Nat → Prop) → List UInt8 → Prop) : Prop where
  keepW : ∀ {w w' : World} {p : Nat} {F G : Nat → Prop} {l : List UInt8}, RW w p F l → Keep G w w' → (∀ k, F k → ¬ G k) → RW w' p F l
  ltW : ∀ {w : World} {p : Nat} {F : Nat → Prop} {l : List UInt8}, RW w p F l → ∀ k, F k → k < w.heap.size
  keepR : ∀ {w w' : World} {p : Nat} {F G : Nat → Prop} {l : List UInt8}, RR w p F l → Keep G w w' → (∀ k, F k → ¬ G k) → RR w' p F l
  ltR : ∀ {w : World} {p : Nat} {F : Nat → Prop} {l : List UInt8}, RR w p F l → ∀ k, F k → k < w.heap.size
  new : ∀ (w : World), Calls Tryd.prog 26 #[] w fun e w' => ∃ p F, e = .returned (ptr p) ∧ RW w' p F [] ∧ (∀ k, F k → w.heap.size ≤ k) ∧ Below w.heap.size w w'
  number : ∀ (w : World) (p : Nat) (F : Nat → Prop) (l : List UInt8) (v : Nat), RW w p F l → v < 18446744073709551616 → (l ++ sev v).length ≤ 140737488351232 → Calls Tryd.prog 27 #[ptr p, u6 v] w fun e w' => (∃ u, e = .returned u) ∧ ∃ F', RW w' p F' (l ++ sev v) ∧ Keep F w w' ∧ Goes w F F'
  text : ∀ (w : World) (p : Nat) (F : Nat → Prop) (l s : List UInt8), RW w p F l → (l ++ txt s).length ≤ 140737488351232 → Calls Tryd.prog 101 #[ptr p, .string (tx s)] w fun e w' => (∃ u, e = .returned u) ∧ ∃ F', RW w' p F' (l ++ txt s) ∧ Keep F w w' ∧ Goes w F F'
  bytes : ∀ (w : World) (p : Nat) (F : Nat → Prop) (l : List UInt8), RW w p F l → l.length ≤ 140737488351232 → Calls Tryd.prog 28 #[ptr p] w fun e w' => ∃ v, e = .returned v ∧ w'.ownsRow w.heap.size 5 1 v l.length (l.map by1) ∧ Below w.heap.size w w'
  open_ : ∀ (w : World) (v : Value) (b : List UInt8), RdB w v b → b.length ≤ 140737488351232 → Calls Tryd.prog 36 #[v] w fun e w' => ∃ p F, e = .returned (ptr p) ∧ RR w' p F b ∧ (∀ k, F k → w.heap.size ≤ k) ∧ Below w.heap.size w w'
  left : ∀ (w : World) (p : Nat) (F : Nat → Prop) (l : List UInt8), RR w p F l → Calls Tryd.prog 93 #[ptr p] w fun e w' => e = .returned (nu (l.length : Int)) ∧ Below w.heap.size w w'
  end_ : ∀ (w : World) (p : Nat) (F : Nat → Prop) (l : List UInt8), RR w p F l → Calls Tryd.prog 38 #[ptr p] w fun e w' => e = .returned (errE (if l.length = 0 then 0 else 3)) ∧ Below w.heap.size w w'
  rnum : ∀ (w : World) (p : Nat) (F : Nat → Prop) (l : List UInt8), RR w p F l → Calls Tryd.prog 63 #[ptr p] w fun e w' => e = .returned (.tuple #[u6 (num l).1, errE (num l).2.2]) ∧ ∃ F', RR w' p F' (l.drop (num l).2.1) ∧ Keep F w w' ∧ Goes w F F'
  rtext : ∀ (w : World) (p : Nat) (F : Nat → Prop) (l : List UInt8) (m : Int), RR w p F l → -9223372036854775808 ≤ m ∧ m ≤ 9223372036854775807 → Calls Tryd.prog 64 #[ptr p, nu m] w fun e w' => e = .returned (.tuple #[.string (tx (taken l m.toNat).1), errE (taken l m.toNat).2.2]) ∧ ∃ F', RR w' p F' (l.drop (taken l m.toNat).2.1) ∧ Keep F w w' ∧ Goes w F F'

variable {RW RR : World → Nat → (Nat → Prop) → List UInt8 → Prop}

/-- A writer that this call made: all that it owns is new since w0. -/
def Wr (RW : World → Nat → (Nat → Prop) → List UInt8 → Prop) (w0 w : World) (p : Nat) (l : List UInt8) : Prop := ∃ F, RW w p F l ∧ (∀ k, F k → w0.heap.size ≤ k) ∧ Below w0.heap.size w0 w

theorem new_wr (S : Says RW RR) (w : World) : Calls Tryd.prog 26 #[] w fun e w' => ∃ p, e = .returned (ptr p) ∧ Wr RW w w' p [] :=
  (S.new w).mono fun _ _ ⟨p, F, a, b, c, d⟩ => ⟨p, a, F, b, c, d⟩

theorem Keep.belowF {F : Nat → Prop} {w0 w w' : World} (hb : Below w0.heap.size w0 w) (h : Keep F w w') (hF : ∀ k, F k → w0.heap.size ≤ k) : Below w0.heap.size w0 w' :=
  hb.trans (h.below (fun k hk hf => by have := hF k hf; omega) hb.size)

theorem goesF {w0 w : World} {F F' : Nat → Prop} (hb : Below w0.heap.size w0 w) (hF : ∀ k, F k → w0.heap.size ≤ k) (h : Goes w F F') : ∀ k, F' k → w0.heap.size ≤ k := fun k hk => by
  rcases h k hk with h | h
  · exact hF k h
  · exact Nat.le_trans hb.size h

theorem number_wr (S : Says RW RR) (w0 w : World) (p : Nat) (l : List UInt8) (v : Nat) (h : Wr RW w0 w p l) (hv : v < 18446744073709551616) (hl : (l ++ sev v).length ≤ 140737488351232) : Calls Tryd.prog 27 #[ptr p, u6 v] w fun e w' => (∃ u, e = .returned u) ∧ Wr RW w0 w' p (l ++ sev v) := by
  obtain ⟨F, h1, h2, h3⟩ := h
  exact (S.number w p F l v h1 hv hl).mono fun _ w' ⟨a, F', b, c, d⟩ => ⟨a, F', b, goesF h3 h2 d, Keep.belowF h3 c h2⟩

theorem text_wr (S : Says RW RR) (w0 w : World) (p : Nat) (l s : List UInt8) (h : Wr RW w0 w p l) (hl : (l ++ txt s).length ≤ 140737488351232) : Calls Tryd.prog 101 #[ptr p, .string (tx s)] w fun e w' => (∃ u, e = .returned u) ∧ Wr RW w0 w' p (l ++ txt s) := by
  obtain ⟨F, h1, h2, h3⟩ := h
  exact (S.text w p F l s h1 hl).mono fun _ w' ⟨a, F', b, c, d⟩ => ⟨a, F', b, goesF h3 h2 d, Keep.belowF h3 c h2⟩

theorem wr_below (S : Says RW RR) {w0 w w' : World} {p : Nat} {l : List UInt8} (h : Wr RW w0 w p l) (hb : Below w.heap.size w w') : Wr RW w0 w' p l := by
  obtain ⟨F, h1, h2, h3⟩ := h
  exact ⟨F, S.keepW h1 (Keep.of_below (F := fun _ => False) hb) (fun _ _ h => h), h2, h3.trans (hb.mono h3.size)⟩

/-- A reader that this call made. -/
def Rr (RR : World → Nat → (Nat → Prop) → List UInt8 → Prop) (w0 w : World) (p : Nat) (l : List UInt8) : Prop := ∃ F, RR w p F l ∧ (∀ k, F k → w0.heap.size ≤ k) ∧ Below w0.heap.size w0 w

theorem open_rr (S : Says RW RR) (w : World) (v : Value) (b : List UInt8) (h : RdB w v b) (hl : b.length ≤ 140737488351232) : Calls Tryd.prog 36 #[v] w fun e w' => ∃ p, e = .returned (ptr p) ∧ Rr RR w w' p b :=
  (S.open_ w v b h hl).mono fun _ _ ⟨p, F, a, b, c, d⟩ => ⟨p, a, F, b, c, d⟩

theorem rr_from {w0 w1 w : World} {p : Nat} {l : List UInt8} (h : Rr RR w1 w p l) (hb : Below w0.heap.size w0 w1) : Rr RR w0 w p l := by
  obtain ⟨F, h1, h2, h3⟩ := h
  exact ⟨F, h1, fun k hk => Nat.le_trans hb.size (h2 k hk), hb.trans (h3.mono hb.size)⟩

theorem wr_from {w0 w1 w : World} {p : Nat} {l : List UInt8} (h : Wr RW w1 w p l) (hb : Below w0.heap.size w0 w1) : Wr RW w0 w p l := by
  obtain ⟨F, h1, h2, h3⟩ := h
  exact ⟨F, h1, fun k hk => Nat.le_trans hb.size (h2 k hk), hb.trans (h3.mono hb.size)⟩

theorem rr_below (S : Says RW RR) {w0 w w' : World} {p : Nat} {l : List UInt8} (h : Rr RR w0 w p l) (hb : Below w.heap.size w w') : Rr RR w0 w' p l := by
  obtain ⟨F, h1, h2, h3⟩ := h
  exact ⟨F, S.keepR h1 (Keep.of_below (F := fun _ => False) hb) (fun _ _ h => h), h2, h3.trans (hb.mono h3.size)⟩

theorem rnum_rr (S : Says RW RR) (w0 w : World) (p : Nat) (l : List UInt8) (h : Rr RR w0 w p l) : Calls Tryd.prog 63 #[ptr p] w fun e w' => e = .returned (.tuple #[u6 (num l).1, errE (num l).2.2]) ∧ Rr RR w0 w' p (l.drop (num l).2.1) := by
  obtain ⟨F, h1, h2, h3⟩ := h
  exact (S.rnum w p F l h1).mono fun _ w' ⟨a, F', b, c, d⟩ => ⟨a, F', b, goesF h3 h2 d, Keep.belowF h3 c h2⟩

theorem rtext_rr (S : Says RW RR) (w0 w : World) (p : Nat) (l : List UInt8) (m : Int) (h : Rr RR w0 w p l) (hm : -9223372036854775808 ≤ m ∧ m ≤ 9223372036854775807) : Calls Tryd.prog 64 #[ptr p, nu m] w fun e w' => e = .returned (.tuple #[.string (tx (taken l m.toNat).1), errE (taken l m.toNat).2.2]) ∧ Rr RR w0 w' p (l.drop (taken l m.toNat).2.1) := by
  obtain ⟨F, h1, h2, h3⟩ := h
  exact (S.rtext w p F l m h1 hm).mono fun _ w' ⟨a, F', b, c, d⟩ => ⟨a, F', b, goesF h3 h2 d, Keep.belowF h3 c h2⟩

theorem left_rr (S : Says RW RR) (w0 w : World) (p : Nat) (l : List UInt8) (h : Rr RR w0 w p l) : Calls Tryd.prog 93 #[ptr p] w fun e w' => e = .returned (nu (l.length : Int)) ∧ Rr RR w0 w' p l := by
  have h0 := h
  obtain ⟨F, h1, h2, h3⟩ := h
  exact (S.left w p F l h1).mono fun _ w' ⟨a, b⟩ => ⟨a, rr_below S h0 b⟩

theorem end_rr (S : Says RW RR) (w0 w : World) (p : Nat) (l : List UInt8) (h : Rr RR w0 w p l) : Calls Tryd.prog 38 #[ptr p] w fun e w' => e = .returned (errE (if l.length = 0 then 0 else 3)) ∧ Rr RR w0 w' p l := by
  have h0 := h
  obtain ⟨F, h1, h2, h3⟩ := h
  exact (S.end_ w p F l h1).mono fun _ w' ⟨a, b⟩ => ⟨a, rr_below S h0 b⟩

theorem bytes_wr (S : Says RW RR) (w0 w : World) (p : Nat) (l : List UInt8) (h : Wr RW w0 w p l) (hl : l.length ≤ 140737488351232) : Calls Tryd.prog 28 #[ptr p] w fun e w' => ∃ v, e = .returned v ∧ w'.ownsRow w.heap.size 5 1 v l.length (l.map by1) ∧ Below w.heap.size w w' ∧ Wr RW w0 w' p l := by
  have h0 := h
  obtain ⟨F, h1, h2, h3⟩ := h
  exact (S.bytes w p F l h1 hl).mono fun _ w' ⟨v, a, b, c⟩ => ⟨v, a, b, c, wr_below S h0 c⟩
end Pk
end Go.Proofs.YtnllplholfhbdaaDoor
