/- Layer 22: what may be born, as plain functions. -/
import Derived.Test.YtbgggekkkcefcabDoorCut
import Derived.Test.YtbgggekkkcefcabDoorUntil
import Derived.Test.YtbgggekkkcefcabDoorBase2
namespace Go.Proofs.YtbgggekkkcefcabDoor
set_option linter.ambiguousOpen false
open Go.RowKit
namespace Gr
set_option linter.unusedVariables false

@[reducible] def nu (i : Int) : Value := .int .i64 i
@[reducible] def su (n : Nat) : Value := .int .u64 (n : Int)

/-- A session, told by its fields. -/
structure Sn where
  slot : Int
  birth : Int
  us : Int
  ub : Int
  kind : Int
  user : ByteArray
  label : ByteArray
  scopes : Nat
  level : Int
  born : Int
  deadline : Int
  depth : Int

def Sn.arr (s : Sn) : Array Value := #[nu s.slot, nu s.birth, nu s.us, nu s.ub, nu s.kind, .string s.user, .string s.label, su s.scopes, nu s.level, nu s.born, nu s.deadline, nu s.depth]
def Sn.v (s : Sn) : Value := .agg s.arr
def zeroS : Sn := ⟨0, 0, 0, 0, 0, ByteArray.empty, ByteArray.empty, 0, 0, 0, 0, 0⟩

/-- What is asked. -/
structure Rq where
  user : ByteArray
  label : ByteArray
  scopes : Nat
  level : Int
  life : Int

def Rq.arr (r : Rq) : Array Value := #[.string r.user, .string r.label, su r.scopes, nu r.level, nu r.life]
def Rq.v (r : Rq) : Value := .agg r.arr

def i64 (n : Int) : Prop := -9223372036854775808 ≤ n ∧ n ≤ 9223372036854775807
def Sn.fit (s : Sn) : Prop := s.user.size ≤ 281474976710656 ∧ s.label.size ≤ 281474976710656 ∧ s.scopes < 18446744073709551616 ∧ i64 s.slot ∧ i64 s.birth ∧ i64 s.us ∧ i64 s.ub ∧ i64 s.kind ∧ i64 s.level ∧ i64 s.born ∧ i64 s.deadline ∧ i64 s.depth
def Rq.fit (r : Rq) : Prop := r.user.size ≤ 281474976710656 ∧ r.label.size ≤ 281474976710656 ∧ r.scopes < 18446744073709551616 ∧ i64 r.level ∧ i64 r.life

def lvlB (n : Int) : Bool := decide (0 ≤ n) && decide (n ≤ 2)
theorem lvlB_iff {n : Int} : lvlB n = true ↔ 0 ≤ n ∧ n ≤ 2 := by unfold lvlB; simp
def nmB (s : ByteArray) : Bool := Nm.nameB s.data.toList
def inB (a b : Nat) : Bool := Bt.less a b == 0

/-- What refuses every birth. -/
def roomE (births : Int) (full : Bool) : Int := if births < 0 ∨ 1048576 ≤ births then 18 else if full then 19 else 0

def loginE (r : Rq) (now births : Int) (full : Bool) : Int :=
  if nmB r.user = false then 8 else if lvlB r.level = false then 13 else if Ck.untilB now r.life 1099511627776 = false then 12 else roomE births full
def loginS (r : Rq) (now births : Int) : Sn :=
  ⟨0, births + 1, 0, 0, 0, r.user, ByteArray.empty, r.scopes, r.level, now, Ck.untilI now r.life 1099511627776, 0⟩

def belowE (p : Sn) (r : Rq) (now : Int) : Int :=
  if nmB r.label = false then 8 else if Ck.untilB now r.life p.deadline = false then 12 else if p.depth < 0 ∨ 6 ≤ p.depth then 17 else 0
def belowS (p : Sn) (r : Rq) (now births : Int) : Sn :=
  ⟨0, births + 1, p.slot, p.birth, 0, p.user, r.label, 0, 0, now, Ck.untilI now r.life p.deadline, p.depth + 1⟩

def childE (p : Sn) (r : Rq) (now births : Int) (full : Bool) : Int :=
  if belowE p r now ≠ 0 then belowE p r now else if inB r.scopes p.scopes = false then 11 else roomE births full
def childS (p : Sn) (r : Rq) (now births : Int) : Sn := { belowS p r now births with kind := 1, scopes := r.scopes, level := p.level }

def raiseE (p : Sn) (r : Rq) (now births : Int) (full : Bool) : Int :=
  if belowE p r now = 8 then 8 else if r.life < 1 ∨ 300 < r.life then 12 else if belowE p r now ≠ 0 then belowE p r now
  else if lvlB p.level = false ∨ lvlB r.level = false ∨ r.level ≤ p.level then 13 else roomE births full
def raiseS (p : Sn) (r : Rq) (now births : Int) : Sn := { belowS p r now births with kind := 2, scopes := p.scopes, level := r.level }

/-- A session, where nothing refuses it. -/
def orS (e : Int) (s : Sn) : Sn := if e = 0 then s else zeroS

theorem room_yes {b : Int} {f : Bool} (h : roomE b f = 0) : 0 ≤ b ∧ b < 1048576 ∧ f = false := by
  unfold roomE at h
  by_cases h1 : b < 0 ∨ 1048576 ≤ b
  · simp [h1] at h
  · cases f
    · exact ⟨by omega, by omega, rfl⟩
    · simp [h1] at h
end Gr
end Go.Proofs.YtbgggekkkcefcabDoor
