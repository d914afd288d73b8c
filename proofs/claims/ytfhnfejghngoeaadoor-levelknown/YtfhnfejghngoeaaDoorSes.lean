/- Sessions as rows of cells: which is better, and what a copy of one is. -/
import Derived.Test.YtfhnfejghngoeaaDoorShelf
import Derived.WalkKit
import Derived.WalkSpells
import Derived.WalkLawsBesides
import Derived.BigQuiet
import Derived.Deep.MidRow
import Derived.Deep.RegionHeld3
import Derived.Handy
namespace Go.Proofs.YtfhnfejghngoeaaDoor
set_option linter.ambiguousOpen false
open Go.RowKit
namespace Lv
set_option linter.unusedSimpArgs false
set_option linter.unusedVariables false

/-- A session, told by its fields. -/
structure Ses where
  slot : Int
  birth : Int
  us : Int
  ub : Int
  kind : Int
  user : ByteArray
  label : ByteArray
  scopes : Int
  level : Int
  born : Int
  deadline : Int
  depth : Int

/-- Its cells. -/
def Ses.cells (s : Ses) : List Value := [.int .i64 s.slot, .int .i64 s.birth, .int .i64 s.us, .int .i64 s.ub, .int .i64 s.kind, .string s.user, .string s.label, .int .u64 s.scopes, .int .i64 s.level, .int .i64 s.born, .int .i64 s.deadline, .int .i64 s.depth]

def Ses.arr (s : Ses) : Array Value := #[.int .i64 s.slot, .int .i64 s.birth, .int .i64 s.us, .int .i64 s.ub, .int .i64 s.kind, .string s.user, .string s.label, .int .u64 s.scopes, .int .i64 s.level, .int .i64 s.born, .int .i64 s.deadline, .int .i64 s.depth]

theorem Ses.arr_cells (s : Ses) : s.arr = s.cells.toArray := rfl

/-- The session's texts may be copied. -/
def Ses.fits (s : Ses) : Prop := s.user.size ≤ 281474976710656 ∧ s.label.size ≤ 281474976710656

/-- A session lies here. -/
def At (w : World) (g o : Nat) (s : Ses) : Prop := w.rangeAt g o s.cells

theorem At.below {w w' : World} {b g o : Nat} {s : Ses} (h : At w g o s) (hb : Below b w w') (hg : g < b) : At w' g o s := fun j v hv => (hb.cell (p := ⟨g, o + j, none⟩) hg).trans (h j v hv)

theorem At.lt {w : World} {g o : Nat} {s : Ses} (h : At w g o s) : g < w.heap.size := by
  have h0 := h 0 _ rfl
  rcases Nat.lt_or_ge g w.heap.size with k | k
  · exact k
  · simp [World.cell?, Array.getElem?_eq_none k] at h0

/-- A list of sessions lies here. -/
def RdS (w : World) (v : Value) (l : List Ses) : Prop :=
  ∃ a cap, v = .slice a l.length cap ∧ l.length ≤ cap ∧ cap ≤ maxLen ∧ (0 < l.length → ∃ g o, a = some ⟨g, o, none⟩ ∧ ∀ j (hj : j < l.length), At w g (o + j * 12) l[j])

theorem RdS.below {w w' : World} {v : Value} {l : List Ses} (h : RdS w v l) (hb : Below w.heap.size w w') : RdS w' v l := by
  obtain ⟨a, cap, e, h1, h2, h3⟩ := h
  refine ⟨a, cap, e, h1, h2, fun h0 => ?_⟩
  obtain ⟨g, o, ea, hc⟩ := h3 h0
  exact ⟨g, o, ea, fun j hj => (hc j hj).below hb (hc j hj).lt⟩

/-! ### Which is better -/

theorem clone_t (s : ByteArray) (w : World) (h : s.size ≤ 281474976710656) :
    Calls Tryd.prog 22 #[.string s] w fun e w' => e = .returned (.string s) ∧ Below w.heap.size w w' := by
  go_enter Tryd.func22, Tryd.ntmps22
  go_wp2_with (go_at_call 29; refine (Tryd.stringslite_Clone _ _ h).mono ?_; rintro e w1 ⟨rfl, hb1⟩)
  go_ret
  exact ⟨rfl, hb1⟩

/-- The first of three that isn't 0. -/
def orI (x y z : Int) : Int := if x ≠ 0 then x else if y ≠ 0 then y else z

set_option maxRecDepth 100000 in
theorem or_first (x y z : Int) (g : Nat) (w : World) (h0 : w.cell? ⟨g, 0, none⟩ = some (.int .i64 x)) (hx : (x != 0) = true) :
    Calls Tryd.prog 34 #[.slice (some ⟨g, 0, none⟩) 3 3] w fun e w' => e = .returned (.int .i64 x) ∧ w' = w := by
  go_enter Tryd.func34, Tryd.ntmps34
  go_wp2
  go_loopw [8] (fun i wr => i = .int .i64 0 ∧ wr = w) (fun i _ => 3 - (intOf i).toNat)
  case atStart => exact ⟨rfl, rfl⟩
  case round =>
    obtain ⟨rfl, hq⟩ := hrel
    subst wr
    go_wp2
    go_ret
    exact ⟨rfl, rfl⟩

set_option maxRecDepth 100000 in
theorem or_second (y z : Int) (g : Nat) (w : World) (h0 : w.cell? ⟨g, 0, none⟩ = some (.int .i64 0)) (h1 : w.cell? ⟨g, 1, none⟩ = some (.int .i64 y)) (hy : (y != 0) = true) :
    Calls Tryd.prog 34 #[.slice (some ⟨g, 0, none⟩) 3 3] w fun e w' => e = .returned (.int .i64 y) ∧ w' = w := by
  go_enter Tryd.func34, Tryd.ntmps34
  go_wp2
  go_loopw [8] (fun i wr => (i = .int .i64 0 ∨ i = .int .i64 1) ∧ wr = w) (fun i _ => 3 - (intOf i).toNat)
  case atStart => exact ⟨.inl rfl, rfl⟩
  case round =>
    obtain ⟨hi, hq⟩ := hrel
    subst wr
    rcases hi with rfl | rfl
    · go_wp2
      go_roundw
      case rel => exact ⟨.inr rfl, by trivial⟩
      case measure => simp [intOf]
    · go_wp2
      go_ret
      exact ⟨rfl, rfl⟩

set_option maxRecDepth 100000 in
theorem or_third (z : Int) (g : Nat) (w : World) (h0 : w.cell? ⟨g, 0, none⟩ = some (.int .i64 0)) (h1 : w.cell? ⟨g, 1, none⟩ = some (.int .i64 0)) (h2 : w.cell? ⟨g, 2, none⟩ = some (.int .i64 z)) :
    Calls Tryd.prog 34 #[.slice (some ⟨g, 0, none⟩) 3 3] w fun e w' => e = .returned (.int .i64 z) ∧ w' = w := by
  by_cases hz : z = 0
  · subst hz
    go_enter Tryd.func34, Tryd.ntmps34
    go_wp2
    go_loopw [8] (fun i wr => (i = .int .i64 0 ∨ i = .int .i64 1 ∨ i = .int .i64 2 ∨ i = .int .i64 3) ∧ wr = w) (fun i _ => 3 - (intOf i).toNat)
    case atStart => exact ⟨.inl rfl, rfl⟩
    case round =>
      obtain ⟨hi, hq⟩ := hrel
      subst wr
      rcases hi with rfl | rfl | rfl | rfl
      · go_wp2
        go_roundw
        case rel => exact ⟨.inr (.inl rfl), by trivial⟩
        case measure => simp [intOf]
      · go_wp2
        go_roundw
        case rel => exact ⟨.inr (.inr (.inl rfl)), by trivial⟩
        case measure => simp [intOf]
      · go_wp2
        go_roundw
        case rel => exact ⟨.inr (.inr (.inr rfl)), by trivial⟩
        case measure => simp [intOf]
      · go_wp2
        go_ret
        exact ⟨rfl, rfl⟩
  · have hz' : (z != 0) = true := by simpa using hz
    clear hz
    go_enter Tryd.func34, Tryd.ntmps34
    go_wp2
    go_loopw [8] (fun i wr => (i = .int .i64 0 ∨ i = .int .i64 1 ∨ i = .int .i64 2) ∧ wr = w) (fun i _ => 3 - (intOf i).toNat)
    case atStart => exact ⟨.inl rfl, rfl⟩
    case round =>
      obtain ⟨hi, hq⟩ := hrel
      subst wr
      rcases hi with rfl | rfl | rfl
      · go_wp2
        go_roundw
        case rel => exact ⟨.inr (.inl rfl), by trivial⟩
        case measure => simp [intOf]
      · go_wp2
        go_roundw
        case rel => exact ⟨.inr (.inr rfl), by trivial⟩
        case measure => simp [intOf]
      · go_wp2
        go_ret
        exact ⟨rfl, rfl⟩

theorem or_any (x y z : Int) (g : Nat) (w : World) (h0 : w.cell? ⟨g, 0, none⟩ = some (.int .i64 x)) (h1 : w.cell? ⟨g, 1, none⟩ = some (.int .i64 y)) (h2 : w.cell? ⟨g, 2, none⟩ = some (.int .i64 z)) :
    Calls Tryd.prog 34 #[.slice (some ⟨g, 0, none⟩) 3 3] w fun e w' => e = .returned (.int .i64 (orI x y z)) ∧ w' = w := by
  unfold orI
  by_cases hx : x = 0
  · subst hx
    by_cases hy : y = 0
    · subst hy
      simpa using or_third z g w h0 h1 h2
    · simpa [hy] using or_second y z g w h0 h1 (by simpa using hy)
  · simpa [hx] using or_first x y z g w h0 (by simpa using hx)

/-- How two sessions are ordered. -/
def ordI (a b : Ses) : Int := orI (Lib.compareInt a.level b.level) (Lib.compareInt a.deadline b.deadline) (Lib.compareInt b.birth a.birth)

/-- Is it the better one? -/
def betterB (a b : Ses) : Bool := if a.level ≠ b.level then decide (b.level < a.level) else if a.deadline ≠ b.deadline then decide (b.deadline < a.deadline) else decide (a.birth < b.birth)

theorem cmp_cases (x y : Int) : (x < y ∧ Lib.compareInt x y = -1) ∨ (x = y ∧ Lib.compareInt x y = 0) ∨ (y < x ∧ Lib.compareInt x y = 1) := by
  unfold Lib.compareInt
  rcases Int.lt_trichotomy x y with h | h | h
  · exact .inl ⟨h, by simp [h]⟩
  · exact .inr (.inl ⟨h, by simp [h]⟩)
  · exact .inr (.inr ⟨h, by rw [if_neg (by omega), if_pos h]⟩)

theorem ordI_pos (a b : Ses) : decide (0 < ordI a b) = betterB a b := by
  unfold ordI betterB orI
  rcases cmp_cases a.level b.level with ⟨h, e⟩ | ⟨h, e⟩ | ⟨h, e⟩
  · have h1 : a.level ≠ b.level := by omega
    rw [e]; simp [h1]; omega
  · rw [e]
    rcases cmp_cases a.deadline b.deadline with ⟨k, e2⟩ | ⟨k, e2⟩ | ⟨k, e2⟩
    · have h1 : a.deadline ≠ b.deadline := by omega
      rw [e2]; simp [h, h1]; omega
    · rw [e2]
      rcases cmp_cases b.birth a.birth with ⟨m, e3⟩ | ⟨m, e3⟩ | ⟨m, e3⟩ <;> (rw [e3]; simp [h, k]; omega)
    · have h1 : a.deadline ≠ b.deadline := by omega
      rw [e2]; simp [h, h1]; omega
  · have h1 : a.level ≠ b.level := by omega
    rw [e]; simp [h1]; omega

set_option maxRecDepth 100000 in
set_option maxHeartbeats 2000000 in
theorem order_any (a b : Ses) (g1 o1 g2 o2 : Nat) (w : World) (h1 : At w g1 o1 a) (h2 : At w g2 o2 b) :
    Calls Tryd.prog 26 #[.pointer (some ⟨g1, o1, none⟩), .pointer (some ⟨g2, o2, none⟩)] w fun e w' => e = .returned (.int .i64 (ordI a b)) ∧ Below w.heap.size w w' := by
  have a1 := h1 1 _ rfl
  have a8 := h1 8 _ rfl
  have a10 := h1 10 _ rfl
  have b1 := h2 1 _ rfl
  have b8 := h2 8 _ rfl
  have b10 := h2 10 _ rfl
  have hg1 := h1.lt
  have hg2 := h2.lt
  unfold ordI
  clear h1 h2
  have hB := Below.refl w.heap.size w
  go_enter Tryd.func26, Tryd.ntmps26
  go_wp2_with fail
  go_region_held3 (fun w' => w'.cell? ⟨g1, o1 + 1, none⟩ = some (.int .i64 a.birth) ∧ w'.cell? ⟨g1, o1 + 8, none⟩ = some (.int .i64 a.level) ∧ w'.cell? ⟨g1, o1 + 10, none⟩ = some (.int .i64 a.deadline) ∧ w'.cell? ⟨g2, o2 + 1, none⟩ = some (.int .i64 b.birth) ∧ w'.cell? ⟨g2, o2 + 8, none⟩ = some (.int .i64 b.level) ∧ w'.cell? ⟨g2, o2 + 10, none⟩ = some (.int .i64 b.deadline) ∧ Below w.heap.size w w') (first | assumption | exact ⟨(by first | assumption | exact (World.cell?_alloc_lt _ _ _ hg1).trans (by assumption) | exact (World.cell?_alloc_lt _ _ _ hg2).trans (by assumption)), (by first | assumption | exact (World.cell?_alloc_lt _ _ _ hg1).trans (by assumption) | exact (World.cell?_alloc_lt _ _ _ hg2).trans (by assumption)), (by first | assumption | exact (World.cell?_alloc_lt _ _ _ hg1).trans (by assumption) | exact (World.cell?_alloc_lt _ _ _ hg2).trans (by assumption)), (by first | assumption | exact (World.cell?_alloc_lt _ _ _ hg1).trans (by assumption) | exact (World.cell?_alloc_lt _ _ _ hg2).trans (by assumption)), (by first | assumption | exact (World.cell?_alloc_lt _ _ _ hg1).trans (by assumption) | exact (World.cell?_alloc_lt _ _ _ hg2).trans (by assumption)), (by first | assumption | exact (World.cell?_alloc_lt _ _ _ hg1).trans (by assumption) | exact (World.cell?_alloc_lt _ _ _ hg2).trans (by assumption)), (by first | assumption | exact Below.drew (by assumption) | exact hB.drew.alloc (Nat.le_refl _) _)⟩) (first | (go_at_call 35; refine (Tryd.cmp_Compare_int _ _ _).mono ?_; rintro e w2 ⟨rfl, hq⟩; subst w2) | (go_at_call 34; refine (or_any _ _ _ _ _ (by simp; rfl) (by simp; rfl) (by simp; rfl)).mono ?_; rintro e w2 ⟨rfl, hq⟩; subst w2))
  go_wp2
  go_ret
  exact ⟨rfl, hB.drew.alloc (Nat.le_refl _) _⟩
end Lv
end Go.Proofs.YtfhnfejghngoeaaDoor
