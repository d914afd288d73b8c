/- The document's answer for tokens: a text is read. -/
import Derived.Test.YtkkpcngdpnoidaaRefP8
namespace Go.Proofs.Ytkkpcngdpnoidaa
set_option linter.ambiguousOpen false
open Go.RowKit
namespace Tk
open Sm
set_option linter.unusedSimpArgs false
set_option linter.unusedVariables false

/-- A letter's number. -/
def ixN (c : UInt8) : Nat := (ix c).getD 0

/-- What a text's letters tell. -/
def told (l : List UInt8) : Nat := nd ((l.drop 1).map ixN)

/-- A token, and why a text is none. -/
structure Rd8 where
  no : Nat
  s : Nat
  b : Nat
  t : Nat

def prs (l : List UInt8) : Rd8 :=
  if l.length < 21 then ⟨2, 0, 0, 0⟩
  else if 21 < l.length then ⟨3, 0, 0, 0⟩
  else if byI l 0 ≠ 116 then ⟨4, 0, 0, 0⟩
  else if ((l.drop 1).all fun c => (ix c).isSome) = false then ⟨4, 0, 0, 0⟩
  else if told l % 16 ≠ 0 then ⟨4, 0, 0, 0⟩
  else if mayB ((told l / 2 ^ 92 : Nat) : Int) ((told l / 2 ^ 68 % 16777216 : Nat) : Int) = false then ⟨1, 0, 0, 0⟩
  else ⟨0, told l / 2 ^ 92, told l / 2 ^ 68 % 16777216, told l / 16 % 18446744073709551616⟩

theorem ixN_lt (c : UInt8) : ixN c < 32 := by
  unfold ixN
  cases h : ix c with
  | none => decide
  | some d => exact (ixTo_some c 32 d h).1

theorem byI_at (l : List UInt8) (k : Nat) (h : k < l.length) : byI l k = l[k] := by
  unfold byI
  rw [List.getD_eq_getElem?_getD, List.getElem?_eq_getElem h]; rfl

/-- The bits of letters. -/
def bitsL (l : List UInt8) : List Bool := l.flatMap fun c => bl (ixN c) 5

theorem bitsL_len (l : List UInt8) : (bitsL l).length = 5 * l.length := by
  induction l with
  | nil => rfl
  | cons c l ih =>
    unfold bitsL at *
    rw [List.flatMap_cons, List.length_append, ih, bl_len, List.length_cons]
    omega

theorem bitsL_snoc (l : List UInt8) (c : UInt8) : bitsL (l ++ [c]) = bitsL l ++ bl (ixN c) 5 := by simp [bitsL]

theorem nb_bitsL (l : List UInt8) : nb (bitsL l) = nd (l.map ixN) := by
  refine snoc_ind (P := fun l => nb (bitsL l) = nd (l.map ixN)) rfl (fun l c ih => ?_) l
  rw [bitsL_snoc, nb_append, ih, nb_bl, bl_len, List.map_append, List.map_singleton, nd_snoc, Nat.mod_eq_of_lt (by have := ixN_lt c; simpa using this)]
  omega

/-- A token that lies in a block. -/
def TokAt (w : World) (g : Nat) (s b t : Int) : Prop := w.heap[g]? = some (.cells #[nu s, nu b, u8v t] 24)

theorem tokSize (a b c : Value) : (Try.prog.info? 24).map (·.size) = some #[a, b, c].size := by kernel_rfl

theorem results_tok {fn : Func} {p u : Tmp} (h : fn.results = #[.cell p 24, .tmp u]) (tmps : Array Value) (w : World) (g : Nat) (s b t : Int)
    (hp : tmps.getD p undef = .pointer (some ⟨g, 0, none⟩)) (hg : TokAt w g s b t) :
    (results fn tmps).run Try.prog w = .ok (.tuple #[tok s b t, tmps.getD u undef]) w := by
  rw [results_cell_tmp h, hp]
  simp only [asAddr, Sem.run_pure, Result.andThen_ok, run_loadVar_row w g _ 24 _ _ _ hg Try.underlying24 rfl (tokSize _ _ _)]

theorem TokAt.below {w w' : World} {B g : Nat} {s b t : Int} (h : TokAt w g s b t) (hb : Below B w w') (hg : g < B) : TokAt w' g s b t := (hb.block g hg).trans h

theorem TokAt.free {w : World} {g : Nat} {s b t : Int} (h : TokAt w g s b t) (i : Nat) : w.frozen? ⟨g, i, none⟩ = false := by
  unfold TokAt at h
  simp [World.frozen?, h]

theorem TokAt.put {w : World} {g : Nat} {s b t : Int} (h : TokAt w g s b t) (x y z : Int) : TokAt (((w.setCell ⟨g, 0, none⟩ (.int .i64 x)).setCell ⟨g, 1, none⟩ (.int .i64 y)).setCell ⟨g, 2, none⟩ (.int .u64 z)) g x y z :=
  heap_setCell_same _ g 2 _ _ _ (heap_setCell_same _ g 1 _ _ _ (heap_setCell_same _ g 0 _ _ _ h))

theorem TokAt.other {w : World} {g k : Nat} {s b t : Int} (h : TokAt w g s b t) (x y z : Value) (hk : k ≠ g) : TokAt (((w.setCell ⟨k, 0, none⟩ x).setCell ⟨k, 1, none⟩ y).setCell ⟨k, 2, none⟩ z) g s b t :=
  (Below.heap_setCell _ ⟨k, 2, none⟩ z g (fun e => hk e.symm)).trans ((Below.heap_setCell _ ⟨k, 1, none⟩ y g (fun e => hk e.symm)).trans ((Below.heap_setCell w ⟨k, 0, none⟩ x g (fun e => hk e.symm)).trans h))

theorem below_tok {B : Nat} {a w : World} (h : Below B a w) (g : Nat) (hg : B ≤ g) (x y z : Value) : Below B a (((w.setCell ⟨g, 0, none⟩ x).setCell ⟨g, 1, none⟩ y).setCell ⟨g, 2, none⟩ z) := ((h.setCell (p := ⟨g, 0, none⟩) hg _).setCell (p := ⟨g, 1, none⟩) hg _).setCell (p := ⟨g, 2, none⟩) hg _

end Tk
end Go.Proofs.Ytkkpcngdpnoidaa
