import Derived.Test.YtnllplholfhbdaaDoorRows
import Derived.Test.YtnllplholfhbdaaDoorPoly
import Derived.WalkKit
import Derived.WalkSpells
import Derived.WalkLawsBesides
import Derived.BigQuiet
import Derived.Deep.CutBlock
import Derived.Deep.CutRange
import Derived.Deep.DeepCutAuto
import Derived.Deep.RegionWith
import Derived.Deep.RegionHeld3
import Derived.Laws.BitsAllLaws
/- The calls of package sum, and the document's answer, as plain functions of rows of bytes. -/
namespace Go.Proofs.YtnllplholfhbdaaDoor
set_option linter.ambiguousOpen false
open Go.RowKit
namespace Sm
set_option linter.unusedSimpArgs false
set_option linter.unusedVariables false

/-- A number of 32 bits, a byte and a number as the program holds them. -/
@[reducible] def u4 (x : Nat) : Value := .int .u32 (x : Int)

@[reducible] def by1 (b : UInt8) : Value := .int .u8 (b.toNat : Int)

@[reducible] def nu (i : Int) : Value := .int .i64 i

theorem ret_bool {b c : Bool} (h : b = c) : Ending.returned (.bool b) = .returned (.bool c) := by rw [h]

theorem ret_u4 {a b : Int} (h : a = b) : Ending.returned (.int .u32 a) = .returned (.int .u32 b) := by rw [h]

/-- The value v reads, in w, as the row l. -/
def RdB (w : World) (v : Value) (l : List UInt8) : Prop :=
  ∃ a cap, v = .slice a l.length cap ∧ l.length ≤ cap ∧ cap ≤ maxLen ∧ (0 < l.length → ∃ g o, a = some ⟨g, o, none⟩ ∧ g < w.heap.size ∧ ∀ j (hj : j < l.length), w.cell? ⟨g, o + j, none⟩ = some (by1 l[j]))

theorem RdB.below {w w' : World} {v : Value} {xs : List UInt8} (h : RdB w v xs) (hb : Below w.heap.size w w') : RdB w' v xs := by
  obtain ⟨a, cap, h1, h2, h3, h4⟩ := h
  refine ⟨a, cap, h1, h2, h3, fun h0 => ?_⟩
  obtain ⟨g, o, e1, e2, e3⟩ := h4 h0
  exact ⟨g, o, e1, Nat.lt_of_lt_of_le e2 hb.size, fun j hj => (hb.cell (p := ⟨g, o + j, none⟩) e2).trans (e3 j hj)⟩

/-- One place down, as the walk spells it. -/
theorem dn_odd (n : Nat) (h : n < 4294967296) (h1 : n % 2 = 1) : bits .xor .u32 ((n : Int) / 2) 3988292384 = ((dn n : Nat) : Int) := by
  have := u32_xor_nat (n / 2) 3988292384 (by omega) (by omega)
  rw [show ((n / 2 : Nat) : Int) = (n : Int) / 2 from by omega] at this
  unfold dn
  rw [if_pos h1, ← this]
  rfl

theorem dn_even (n : Nat) (h1 : n % 2 = 0) : (n : Int) / 2 = ((dn n : Nat) : Int) := by
  unfold dn
  simp [h1]

theorem and_one (n : Nat) (h : n < 4294967296) : bits .and .u32 (n : Int) 1 = ((n % 2 : Nat) : Int) := by
  have := u32_and_nat n 1 h (by omega)
  rw [Nat.and_one_is_mod] at this
  exact this

theorem xor_byte (r : Nat) (c : UInt8) (h : r < 4294967296) : bits .xor .u32 (r : Int) (c.toNat : Int) = ((r ^^^ c.toNat : Nat) : Int) :=
  u32_xor_nat r c.toNat h (Nat.lt_of_lt_of_le (byte_lt c) (by decide))

theorem lay_lt (r : Nat) (c : UInt8) (h : r < 4294967296) : r ^^^ c.toNat < 4294967296 := by
  rw [show (4294967296 : Nat) = 2 ^ 32 from rfl]
  exact Nat.xor_lt_two_pow h (Nat.lt_of_lt_of_le (byte_lt c) (by decide))

theorem not_u4 (r : Nat) (h : r < 4294967296) : bits .xor .u32 IntKind.u32.max (r : Int) = ((4294967295 - r : Nat) : Int) := by
  rw [inv_xor r h, Nat.xor_comm]
  exact u32_xor_nat 4294967295 r (by decide) h

theorem reg_take (l : List UInt8) (r k : Nat) (h : k < l.length) : reg r (l.take (k + 1)) = nx (reg r (l.take k)) l[k] := by
  rw [List.take_succ_eq_append_getElem h, reg_append]; rfl

end Sm
end Go.Proofs.YtnllplholfhbdaaDoor
