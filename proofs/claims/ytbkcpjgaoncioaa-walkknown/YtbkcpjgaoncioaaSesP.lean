/- Sessions as rows of cells. -/
import Derived.WalkKit
import Derived.WalkSpells
import Derived.WalkLawsBesides
import Derived.BigQuiet
import Derived.Deep.MidRow
import Derived.Deep.RegionHeld3
import Derived.Handy
import Derived.Test.YtbkcpjgaoncioaaProg
namespace Go.Proofs.Ytbkcpjgaoncioaa
set_option linter.ambiguousOpen false
open Go.RowKit
namespace Lv
set_option linter.unusedSimpArgs false
set_option linter.unusedVariables false

/-- A session, told by its fields. -/
structure Ses where
  slot : Int
  birth : Int
  us : Int
  ub : Int
  kind : Int
  user : ByteArray
  label : ByteArray
  scopes : Int
  level : Int
  born : Int
  deadline : Int
  depth : Int

/-- Its cells. -/
def Ses.cells (s : Ses) : List Value := [.int .i64 s.slot, .int .i64 s.birth, .int .i64 s.us, .int .i64 s.ub, .int .i64 s.kind, .string s.user, .string s.label, .int .u64 s.scopes, .int .i64 s.level, .int .i64 s.born, .int .i64 s.deadline, .int .i64 s.depth]

def Ses.arr (s : Ses) : Array Value := #[.int .i64 s.slot, .int .i64 s.birth, .int .i64 s.us, .int .i64 s.ub, .int .i64 s.kind, .string s.user, .string s.label, .int .u64 s.scopes, .int .i64 s.level, .int .i64 s.born, .int .i64 s.deadline, .int .i64 s.depth]

theorem Ses.arr_cells (s : Ses) : s.arr = s.cells.toArray := rfl

/-- The session's texts may be copied. -/
def Ses.fits (s : Ses) : Prop := s.user.size ≤ 281474976710656 ∧ s.label.size ≤ 281474976710656

/-- A session lies here. -/
def At (w : World) (g o : Nat) (s : Ses) : Prop := w.rangeAt g o s.cells

theorem At.below {w w' : World} {b g o : Nat} {s : Ses} (h : At w g o s) (hb : Below b w w') (hg : g < b) : At w' g o s := fun j v hv => (hb.cell (p := ⟨g, o + j, none⟩) hg).trans (h j v hv)

theorem At.lt {w : World} {g o : Nat} {s : Ses} (h : At w g o s) : g < w.heap.size := by
  have h0 := h 0 _ rfl
  rcases Nat.lt_or_ge g w.heap.size with k | k
  · exact k
  · simp [World.cell?, Array.getElem?_eq_none k] at h0

/-- A list of sessions lies here. -/
def RdS (w : World) (v : Value) (l : List Ses) : Prop :=
  ∃ a cap, v = .slice a l.length cap ∧ l.length ≤ cap ∧ cap ≤ maxLen ∧ (0 < l.length → ∃ g o, a = some ⟨g, o, none⟩ ∧ ∀ j (hj : j < l.length), At w g (o + j * 12) l[j])

theorem RdS.below {w w' : World} {v : Value} {l : List Ses} (h : RdS w v l) (hb : Below w.heap.size w w') : RdS w' v l := by
  obtain ⟨a, cap, e, h1, h2, h3⟩ := h
  refine ⟨a, cap, e, h1, h2, fun h0 => ?_⟩
  obtain ⟨g, o, ea, hc⟩ := h3 h0
  exact ⟨g, o, ea, fun j hj => (hc j hj).below hb (hc j hj).lt⟩
end Lv
end Go.Proofs.Ytbkcpjgaoncioaa
