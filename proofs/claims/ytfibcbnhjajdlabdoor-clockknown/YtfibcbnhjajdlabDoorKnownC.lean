/- The walk of ClockKnown. -/
import Derived.Test.YtfibcbnhjajdlabDoorLives
import Derived.Test.YtfibcbnhjajdlabDoorRefPr
import Derived.Test.YtfibcbnhjajdlabDoorRefPa
import Derived.Deep.RegionHeld3
namespace Go.Proofs.YtfibcbnhjajdlabDoor
set_option linter.ambiguousOpen false
open Go.RowKit Er Nm
namespace Ck
set_option linter.unusedSimpArgs false
set_option linter.unusedVariables false

def endsL : List Int := [-9223372036854775808, -1, 0, 1, 59, 60, 61, 3599, 3600, 86399, 86400, 1073741824, 1073741825, 1099511627775, 1099511627776, 1099511627777, 9223372036854775807]
def textsL : List (List UInt8) := [[], [48, 115], [49, 115], [48, 49, 115], [48, 100], [54, 48, 115], [53, 57, 115], [54, 48, 109], [53, 57, 109], [50, 52, 104], [50, 51, 104], [49, 100], [57, 57, 57, 57, 57, 57, 57, 57, 57, 57, 57, 57, 57, 57, 57, 57, 57, 57, 57, 57, 100], [49, 50, 55, 50, 53, 56, 51, 48, 100], [49], [115], [49, 120], [45, 49, 115], [43, 49, 115], [32, 49, 115], [49, 115, 32], [49, 68], [48, 104]]

theorem ends_ok (i : Nat) (h : i < 17) : -9223372036854775808 ≤ endsL.getD i 0 ∧ endsL.getD i 0 ≤ 9223372036854775807 := by
  have : ∀ i : Fin 17, -9223372036854775808 ≤ endsL.getD i.val 0 ∧ endsL.getD i.val 0 ≤ 9223372036854775807 := by decide
  exact this ⟨i, h⟩

theorem texts_ok (i : Nat) (h : i < 23) : (textsL.getD i []).length ≤ 21 := by
  have : ∀ i : Fin 23, (textsL.getD i.val []).length ≤ 21 := by decide
  exact this ⟨i, h⟩

/-- What the laws ask of a world. -/
structure Asks (w : World) : Prop where
  e : Handle w
  u : Units w
  p : Pow w

theorem Asks.below {w w' : World} (h : Asks w) (hb : Below w.heap.size w w') : Asks w' := ⟨h.e.below hb, h.u.below hb, h.p.below hb⟩

theorem then_b {a b c : World} (h : Below a.heap.size a b) (k : Below b.heap.size b c) : Below a.heap.size a c := h.trans (k.mono h.size)

theorem form_max : formL 1099511627776 = [49, 50, 55, 50, 53, 56, 50, 57, 100, 51, 54, 109, 49, 54, 115] := by
  have h1 : Lib.decDigits 12725829 = [49, 50, 55, 50, 53, 56, 50, 57] := by
    rw [dec_big (by omega), dec_big (by omega), dec_big (by omega), dec_big (by omega), dec_big (by omega), dec_big (by omega), dec_big (by omega), dec_small (by omega)]; rfl
  have h2 : Lib.decDigits 36 = [51, 54] := by rw [dec_big (by omega), dec_small (by omega)]; rfl
  have h3 : Lib.decDigits 16 = [49, 54] := by rw [dec_big (by omega), dec_small (by omega)]; rfl
  simp [formL, fo, re, part, tk, lt', h1, h2, h3]

theorem parse_over : parseG [49, 50, 55, 50, 53, 56, 50, 57, 100, 51, 54, 109, 49, 55, 115] = (0, 12) := by decide

/-! The walks -/

set_option maxRecDepth 100000 in
set_option maxHeartbeats 4000000 in
theorem knownTexts_c (w : World) (hA : Asks w) :
    Calls Tryd.prog 11 #[] w fun e w' => e = .returned (.bool true) ∧ Below w.heap.size w w' := by
  have hBw : Below w.heap.size w (w.alloc (.cells #[.string ⟨#[]⟩, .string ⟨#[48, 115]⟩, .string ⟨#[49, 115]⟩, .string ⟨#[48, 49, 115]⟩, .string ⟨#[48, 100]⟩, .string ⟨#[54, 48, 115]⟩, .string ⟨#[53, 57, 115]⟩, .string ⟨#[54, 48, 109]⟩, .string ⟨#[53, 57, 109]⟩, .string ⟨#[50, 52, 104]⟩, .string ⟨#[50, 51, 104]⟩, .string ⟨#[49, 100]⟩, .string ⟨#[57, 57, 57, 57, 57, 57, 57, 57, 57, 57, 57, 57, 57, 57, 57, 57, 57, 57, 57, 57, 100]⟩, .string ⟨#[49, 50, 55, 50, 53, 56, 51, 48, 100]⟩, .string ⟨#[49]⟩, .string ⟨#[115]⟩, .string ⟨#[49, 120]⟩, .string ⟨#[45, 49, 115]⟩, .string ⟨#[43, 49, 115]⟩, .string ⟨#[32, 49, 115]⟩, .string ⟨#[49, 115, 32]⟩, .string ⟨#[49, 68]⟩, .string ⟨#[48, 104]⟩] 9)) := (Below.refl _ w).alloc (Nat.le_refl _) _
  have hb0 : w.heap.size < (w.alloc (.cells #[.string ⟨#[]⟩, .string ⟨#[48, 115]⟩, .string ⟨#[49, 115]⟩, .string ⟨#[48, 49, 115]⟩, .string ⟨#[48, 100]⟩, .string ⟨#[54, 48, 115]⟩, .string ⟨#[53, 57, 115]⟩, .string ⟨#[54, 48, 109]⟩, .string ⟨#[53, 57, 109]⟩, .string ⟨#[50, 52, 104]⟩, .string ⟨#[50, 51, 104]⟩, .string ⟨#[49, 100]⟩, .string ⟨#[57, 57, 57, 57, 57, 57, 57, 57, 57, 57, 57, 57, 57, 57, 57, 57, 57, 57, 57, 57, 100]⟩, .string ⟨#[49, 50, 55, 50, 53, 56, 51, 48, 100]⟩, .string ⟨#[49]⟩, .string ⟨#[115]⟩, .string ⟨#[49, 120]⟩, .string ⟨#[45, 49, 115]⟩, .string ⟨#[43, 49, 115]⟩, .string ⟨#[32, 49, 115]⟩, .string ⟨#[49, 115, 32]⟩, .string ⟨#[49, 68]⟩, .string ⟨#[48, 104]⟩] 9)).heap.size := by simp
  have hc0 : ∀ j, j < 23 → (w.alloc (.cells #[.string ⟨#[]⟩, .string ⟨#[48, 115]⟩, .string ⟨#[49, 115]⟩, .string ⟨#[48, 49, 115]⟩, .string ⟨#[48, 100]⟩, .string ⟨#[54, 48, 115]⟩, .string ⟨#[53, 57, 115]⟩, .string ⟨#[54, 48, 109]⟩, .string ⟨#[53, 57, 109]⟩, .string ⟨#[50, 52, 104]⟩, .string ⟨#[50, 51, 104]⟩, .string ⟨#[49, 100]⟩, .string ⟨#[57, 57, 57, 57, 57, 57, 57, 57, 57, 57, 57, 57, 57, 57, 57, 57, 57, 57, 57, 57, 100]⟩, .string ⟨#[49, 50, 55, 50, 53, 56, 51, 48, 100]⟩, .string ⟨#[49]⟩, .string ⟨#[115]⟩, .string ⟨#[49, 120]⟩, .string ⟨#[45, 49, 115]⟩, .string ⟨#[43, 49, 115]⟩, .string ⟨#[32, 49, 115]⟩, .string ⟨#[49, 115, 32]⟩, .string ⟨#[49, 68]⟩, .string ⟨#[48, 104]⟩] 9)).cell? ⟨w.heap.size, j, none⟩ = some (.string (B (textsL.getD j []))) := by
    intro j hj
    have h := World.alloc_heap_new w (.cells (textsL.map fun p => Value.string (B p)).toArray 9)
    have h2 : (w.alloc (.cells (textsL.map fun p => Value.string (B p)).toArray 9)).cell? ⟨w.heap.size, j, none⟩ = some (.string (B (textsL.getD j []))) := by
      rw [Lib.cell_of_heap h]
      have hj2 : j < textsL.length := hj
      simp [hj2]
    exact h2
  have hA0 : Asks (w.alloc (.cells #[.string ⟨#[]⟩, .string ⟨#[48, 115]⟩, .string ⟨#[49, 115]⟩, .string ⟨#[48, 49, 115]⟩, .string ⟨#[48, 100]⟩, .string ⟨#[54, 48, 115]⟩, .string ⟨#[53, 57, 115]⟩, .string ⟨#[54, 48, 109]⟩, .string ⟨#[53, 57, 109]⟩, .string ⟨#[50, 52, 104]⟩, .string ⟨#[50, 51, 104]⟩, .string ⟨#[49, 100]⟩, .string ⟨#[57, 57, 57, 57, 57, 57, 57, 57, 57, 57, 57, 57, 57, 57, 57, 57, 57, 57, 57, 57, 100]⟩, .string ⟨#[49, 50, 55, 50, 53, 56, 51, 48, 100]⟩, .string ⟨#[49]⟩, .string ⟨#[115]⟩, .string ⟨#[49, 120]⟩, .string ⟨#[45, 49, 115]⟩, .string ⟨#[43, 49, 115]⟩, .string ⟨#[32, 49, 115]⟩, .string ⟨#[49, 115, 32]⟩, .string ⟨#[49, 68]⟩, .string ⟨#[48, 104]⟩] 9)) := hA.below hBw
  have HC0 : Hid (∀ j, j < 23 → (w.alloc (.cells #[.string ⟨#[]⟩, .string ⟨#[48, 115]⟩, .string ⟨#[49, 115]⟩, .string ⟨#[48, 49, 115]⟩, .string ⟨#[48, 100]⟩, .string ⟨#[54, 48, 115]⟩, .string ⟨#[53, 57, 115]⟩, .string ⟨#[54, 48, 109]⟩, .string ⟨#[53, 57, 109]⟩, .string ⟨#[50, 52, 104]⟩, .string ⟨#[50, 51, 104]⟩, .string ⟨#[49, 100]⟩, .string ⟨#[57, 57, 57, 57, 57, 57, 57, 57, 57, 57, 57, 57, 57, 57, 57, 57, 57, 57, 57, 57, 100]⟩, .string ⟨#[49, 50, 55, 50, 53, 56, 51, 48, 100]⟩, .string ⟨#[49]⟩, .string ⟨#[115]⟩, .string ⟨#[49, 120]⟩, .string ⟨#[45, 49, 115]⟩, .string ⟨#[43, 49, 115]⟩, .string ⟨#[32, 49, 115]⟩, .string ⟨#[49, 115, 32]⟩, .string ⟨#[49, 68]⟩, .string ⟨#[48, 104]⟩] 9)).cell? ⟨w.heap.size, j, none⟩ = some (.string (B (textsL.getD j [])))) := hc0
  have HA0 : Hid (Asks (w.alloc (.cells #[.string ⟨#[]⟩, .string ⟨#[48, 115]⟩, .string ⟨#[49, 115]⟩, .string ⟨#[48, 49, 115]⟩, .string ⟨#[48, 100]⟩, .string ⟨#[54, 48, 115]⟩, .string ⟨#[53, 57, 115]⟩, .string ⟨#[54, 48, 109]⟩, .string ⟨#[53, 57, 109]⟩, .string ⟨#[50, 52, 104]⟩, .string ⟨#[50, 51, 104]⟩, .string ⟨#[49, 100]⟩, .string ⟨#[57, 57, 57, 57, 57, 57, 57, 57, 57, 57, 57, 57, 57, 57, 57, 57, 57, 57, 57, 57, 100]⟩, .string ⟨#[49, 50, 55, 50, 53, 56, 51, 48, 100]⟩, .string ⟨#[49]⟩, .string ⟨#[115]⟩, .string ⟨#[49, 120]⟩, .string ⟨#[45, 49, 115]⟩, .string ⟨#[43, 49, 115]⟩, .string ⟨#[32, 49, 115]⟩, .string ⟨#[49, 115, 32]⟩, .string ⟨#[49, 68]⟩, .string ⟨#[48, 104]⟩] 9))) := hA0
  clear hc0 hA hA0
  go_enter Tryd.func11, Tryd.ntmps11
  go_wp2
  generalize (w.alloc (.cells #[.string ⟨#[]⟩, .string ⟨#[48, 115]⟩, .string ⟨#[49, 115]⟩, .string ⟨#[48, 49, 115]⟩, .string ⟨#[48, 100]⟩, .string ⟨#[54, 48, 115]⟩, .string ⟨#[53, 57, 115]⟩, .string ⟨#[54, 48, 109]⟩, .string ⟨#[53, 57, 109]⟩, .string ⟨#[50, 52, 104]⟩, .string ⟨#[50, 51, 104]⟩, .string ⟨#[49, 100]⟩, .string ⟨#[57, 57, 57, 57, 57, 57, 57, 57, 57, 57, 57, 57, 57, 57, 57, 57, 57, 57, 57, 57, 100]⟩, .string ⟨#[49, 50, 55, 50, 53, 56, 51, 48, 100]⟩, .string ⟨#[49]⟩, .string ⟨#[115]⟩, .string ⟨#[49, 120]⟩, .string ⟨#[45, 49, 115]⟩, .string ⟨#[43, 49, 115]⟩, .string ⟨#[32, 49, 115]⟩, .string ⟨#[49, 115, 32]⟩, .string ⟨#[49, 68]⟩, .string ⟨#[48, 104]⟩] 9)) = w0 at *
  have cP : Hid (∀ (l : List UInt8) (w1 : World), l.length ≤ 1000 → Below w0.heap.size w0 w1 → Calls Tryd.prog 20 #[.string (B l)] w1 fun e w' => e = .returned (.bool true) ∧ Below w1.heap.size w1 w') := fun l w1 hl h => by
    have a1 := HA0.out.below h
    exact clockParses_walk l w1 (by unfold maxLen; omega) a1.e a1.u
  have cB : Hid (∀ (l : List UInt8) (w1 : World), l.length ≤ 1000 → Below w0.heap.size w0 w1 → Calls Tryd.prog 21 #[.string (B l)] w1 fun e w' => e = .returned (.bool true) ∧ Below w1.heap.size w1 w') := fun l w1 hl h => by
    have a1 := HA0.out.below h
    exact clockBack_walk l w1 (by unfold maxLen; omega) a1.u a1.p
  go_loopw [2] (fun x wr => ∃ i : Nat, i ≤ 23 ∧ x = .int .i64 i ∧ Below w0.heap.size w0 wr) (fun x _ => 23 - (intOf x).toNat)
  case atStart => exact ⟨0, by omega, rfl, Below.refl _ _⟩
  case round =>
    obtain ⟨i, hi, rfl, hS⟩ := hrel
    by_cases hlt : i < 23
    · have HCI : Hid (w0.cell? ⟨w.heap.size, i, none⟩ = some (.string (B (textsL.getD i [])))) := HC0.out i hlt
      have hpl := texts_ok i hlt
      obtain ⟨p, HPI⟩ : ∃ p, Hid (textsL.getD i [] = p) := ⟨_, rfl⟩
      rw [HPI.out] at HCI hpl
      have hi0 : (0 : Int) ≤ (i : Int) := by omega
      have hi1 : (i : Int) < 23 := by omega
      rename World => w9
      go_wp2
      go_loopw [3] (fun x wr => ∃ k : Nat, k ≤ 23 ∧ x = .int .i64 k ∧ Below w0.heap.size w0 wr) (fun x _ => 23 - (intOf x).toNat)
      case atStart => exact ⟨0, by omega, rfl, hS⟩
      case round =>
        clear hS
        obtain ⟨k, hk, rfl, hB0⟩ := hrel
        by_cases hlk : k < 23
        · have HCK : Hid (w0.cell? ⟨w.heap.size, k, none⟩ = some (.string (B (textsL.getD k [])))) := HC0.out k hlk
          have hql := texts_ok k hlk
          obtain ⟨q, HQK⟩ : ∃ q, Hid (textsL.getD k [] = q) := ⟨_, rfl⟩
          rw [HQK.out] at HCK hql
          have ti0 := (hB0.cell (p := ⟨w.heap.size, i, none⟩) hb0).trans HCI.out
          have tk0 := (hB0.cell (p := ⟨w.heap.size, k, none⟩) hb0).trans HCK.out
          obtain ⟨t1, e1, z3⟩ : ∃ t, B p ++ B q = B t ∧ (B t).size = p.length + q.length := ⟨p ++ q, cat_b p q, by rw [B_size]; simp⟩
          obtain ⟨t2, e2, y2⟩ : ∃ t, B t1 ++ ⟨#[53, 115]⟩ = B t ∧ (B t).size = (B t1).size + 2 := ⟨t1 ++ [53, 115], cat_b t1 [53, 115], by rw [B_size, B_size]; simp⟩
          obtain ⟨t3, e3, z4⟩ : ∃ t, ⟨#[55, 100]⟩ ++ B p = B t ∧ (B t).size = p.length + 2 := ⟨[55, 100] ++ p, cat_b [55, 100] p, by rw [B_size]; simp⟩
          obtain ⟨t4, e4, y4⟩ : ∃ t, B t3 ++ B q = B t ∧ (B t).size = (B t3).size + (B q).size := ⟨t3 ++ q, cat_b t3 q, by rw [B_size, B_size, B_size]; simp⟩
          have z1 : (B p).size = p.length := rfl
          have z2 : (B q).size = q.length := rfl
          have z5 : (⟨#[53, 115]⟩ : ByteArray).size = 2 := rfl
          have z6 : (⟨#[55, 100]⟩ : ByteArray).size = 2 := rfl
          have g1 : ¬ 9223372036854775807 < p.length + q.length := by omega
          have g2 : ¬ 9223372036854775807 < p.length + q.length + 2 := by omega
          have g3 : ¬ 9223372036854775807 < 2 + p.length := by omega
          have g4 : ¬ 9223372036854775807 < p.length + 2 + q.length := by omega
          have m1 : t1.length ≤ 1000 := by have : t1.length = (B t1).size := rfl; omega
          have m2 : t2.length ≤ 1000 := by have : t2.length = (B t2).size := rfl; omega
          have m3 : t4.length ≤ 1000 := by have : t4.length = (B t4).size := rfl; omega
          clear y2 y4
          have hk0 : (0 : Int) ≤ (k : Int) := by omega
          have hk1 : (k : Int) < 23 := by omega
          go_wp2
          go_region_held3 (fun w' => w'.cell? ⟨w.heap.size, i, none⟩ = some (.string (B p)) ∧ w'.cell? ⟨w.heap.size, k, none⟩ = some (.string (B q)) ∧ Below w0.heap.size w0 w') (first | assumption | exact ⟨by assumption, by assumption, (by first | assumption | exact Below.drew (by assumption))⟩) (first | (go_at_call 20; refine (cP.out _ _ (by assumption) (by first | assumption | exact Below.drew (by assumption))).mono ?_; rintro e w2 ⟨rfl, hq2⟩; have hB2 : Below w0.heap.size w0 w2 := (by refine then_b ?_ hq2; first | assumption | exact Below.drew (by assumption)); have ti2 := (hB2.cell (p := ⟨w.heap.size, i, none⟩) hb0).trans HCI.out; have tk2 := (hB2.cell (p := ⟨w.heap.size, k, none⟩) hb0).trans HCK.out; have hS2 : w2.cell? ⟨w.heap.size, i, none⟩ = some (.string (B p)) ∧ w2.cell? ⟨w.heap.size, k, none⟩ = some (.string (B q)) ∧ Below w0.heap.size w0 w2 := ⟨ti2, tk2, hB2⟩) | (go_at_call 21; refine (cB.out _ _ (by assumption) (by first | assumption | exact Below.drew (by assumption))).mono ?_; rintro e w2 ⟨rfl, hq2⟩; have hB2 : Below w0.heap.size w0 w2 := (by refine then_b ?_ hq2; first | assumption | exact Below.drew (by assumption)); have ti2 := (hB2.cell (p := ⟨w.heap.size, i, none⟩) hb0).trans HCI.out; have tk2 := (hB2.cell (p := ⟨w.heap.size, k, none⟩) hb0).trans HCK.out; have hS2 : w2.cell? ⟨w.heap.size, i, none⟩ = some (.string (B p)) ∧ w2.cell? ⟨w.heap.size, k, none⟩ = some (.string (B q)) ∧ Below w0.heap.size w0 w2 := ⟨ti2, tk2, hB2⟩))
          go_wp2
          go_roundw
          case rel => exact ⟨k + 1, by omega, by go_num, hB2⟩
          case measure => simp [intOf]; omega
        · go_wp2
          go_roundw
          case rel => exact ⟨i + 1, by omega, by go_num, hB0⟩
          case measure => simp [intOf]; omega
    · go_wp2
      go_ret
      exact ⟨rfl, hBw.trans (hS.mono (Nat.le_of_lt hb0))⟩

set_option maxRecDepth 100000 in
set_option maxHeartbeats 4000000 in
theorem knownEnds_c (w : World) (hA : Asks w) :
    Calls Tryd.prog 10 #[] w fun e w' => e = .returned (.bool true) ∧ Below w.heap.size w w' := by
  have hBw : Below w.heap.size w (w.alloc (.cells #[.int .i64 (-9223372036854775808), .int .i64 (-1), .int .i64 0, .int .i64 1, .int .i64 59, .int .i64 60, .int .i64 61, .int .i64 3599, .int .i64 3600, .int .i64 86399, .int .i64 86400, .int .i64 1073741824, .int .i64 1073741825, .int .i64 1099511627775, .int .i64 1099511627776, .int .i64 1099511627777, .int .i64 9223372036854775807] 3)) := (Below.refl _ w).alloc (Nat.le_refl _) _
  have hb0 : w.heap.size < (w.alloc (.cells #[.int .i64 (-9223372036854775808), .int .i64 (-1), .int .i64 0, .int .i64 1, .int .i64 59, .int .i64 60, .int .i64 61, .int .i64 3599, .int .i64 3600, .int .i64 86399, .int .i64 86400, .int .i64 1073741824, .int .i64 1073741825, .int .i64 1099511627775, .int .i64 1099511627776, .int .i64 1099511627777, .int .i64 9223372036854775807] 3)).heap.size := by simp
  have hc0 : ∀ j, j < 17 → (w.alloc (.cells #[.int .i64 (-9223372036854775808), .int .i64 (-1), .int .i64 0, .int .i64 1, .int .i64 59, .int .i64 60, .int .i64 61, .int .i64 3599, .int .i64 3600, .int .i64 86399, .int .i64 86400, .int .i64 1073741824, .int .i64 1073741825, .int .i64 1099511627775, .int .i64 1099511627776, .int .i64 1099511627777, .int .i64 9223372036854775807] 3)).cell? ⟨w.heap.size, j, none⟩ = some (.int .i64 (endsL.getD j 0)) := by
    intro j hj
    have h := World.alloc_heap_new w (.cells (endsL.map fun p => Value.int .i64 p).toArray 3)
    have h2 : (w.alloc (.cells (endsL.map fun p => Value.int .i64 p).toArray 3)).cell? ⟨w.heap.size, j, none⟩ = some (.int .i64 (endsL.getD j 0)) := by
      rw [Lib.cell_of_heap h]
      have hj2 : j < endsL.length := hj
      simp [hj2]
    exact h2
  have hA0 : Asks (w.alloc (.cells #[.int .i64 (-9223372036854775808), .int .i64 (-1), .int .i64 0, .int .i64 1, .int .i64 59, .int .i64 60, .int .i64 61, .int .i64 3599, .int .i64 3600, .int .i64 86399, .int .i64 86400, .int .i64 1073741824, .int .i64 1073741825, .int .i64 1099511627775, .int .i64 1099511627776, .int .i64 1099511627777, .int .i64 9223372036854775807] 3)) := hA.below hBw
  have HC0 : Hid (∀ j, j < 17 → (w.alloc (.cells #[.int .i64 (-9223372036854775808), .int .i64 (-1), .int .i64 0, .int .i64 1, .int .i64 59, .int .i64 60, .int .i64 61, .int .i64 3599, .int .i64 3600, .int .i64 86399, .int .i64 86400, .int .i64 1073741824, .int .i64 1073741825, .int .i64 1099511627775, .int .i64 1099511627776, .int .i64 1099511627777, .int .i64 9223372036854775807] 3)).cell? ⟨w.heap.size, j, none⟩ = some (.int .i64 (endsL.getD j 0))) := hc0
  have HA0 : Hid (Asks (w.alloc (.cells #[.int .i64 (-9223372036854775808), .int .i64 (-1), .int .i64 0, .int .i64 1, .int .i64 59, .int .i64 60, .int .i64 61, .int .i64 3599, .int .i64 3600, .int .i64 86399, .int .i64 86400, .int .i64 1073741824, .int .i64 1073741825, .int .i64 1099511627775, .int .i64 1099511627776, .int .i64 1099511627777, .int .i64 9223372036854775807] 3))) := hA0
  clear hc0 hA hA0
  go_enter Tryd.func10, Tryd.ntmps10
  go_wp2
  generalize (w.alloc (.cells #[.int .i64 (-9223372036854775808), .int .i64 (-1), .int .i64 0, .int .i64 1, .int .i64 59, .int .i64 60, .int .i64 61, .int .i64 3599, .int .i64 3600, .int .i64 86399, .int .i64 86400, .int .i64 1073741824, .int .i64 1073741825, .int .i64 1099511627775, .int .i64 1099511627776, .int .i64 1099511627777, .int .i64 9223372036854775807] 3)) = w0 at *
  have cP : Hid (∀ (x : Int) (w1 : World), (-9223372036854775808 ≤ x ∧ x ≤ 9223372036854775807) → Below w0.heap.size w0 w1 → Calls Tryd.prog 14 #[.int .i64 x] w1 fun e w' => e = .returned (.bool true) ∧ Below w1.heap.size w1 w') := fun x w1 hx h => by
    have a1 := HA0.out.below h
    exact clockPrints_walk x w1 hx a1.e a1.u a1.p
  have cT : Hid (∀ (x : Int) (w1 : World), (-9223372036854775808 ≤ x ∧ x ≤ 9223372036854775807) → Below w0.heap.size w0 w1 → Calls Tryd.prog 15 #[.int .i64 x] w1 fun e w' => e = .returned (.bool true) ∧ Below w1.heap.size w1 w') := fun x w1 hx h => by
    have a1 := HA0.out.below h
    exact clockThere_walk x w1 hx a1.u a1.p
  have cA : Hid (∀ (x y : Int) (w1 : World), (-9223372036854775808 ≤ x ∧ x ≤ 9223372036854775807) → (-9223372036854775808 ≤ y ∧ y ≤ 9223372036854775807) → Below w0.heap.size w0 w1 → Calls Tryd.prog 16 #[.int .i64 x, .int .i64 y] w1 fun e w' => e = .returned (.bool true) ∧ Below w1.heap.size w1 w') := fun x y w1 hx hy h => by
    have a1 := HA0.out.below h
    exact clockAfter_walk x y w1 hx hy a1.e
  have cL : Hid (∀ (x y : Int) (w1 : World), (-9223372036854775808 ≤ x ∧ x ≤ 9223372036854775807) → (-9223372036854775808 ≤ y ∧ y ≤ 9223372036854775807) → Below w0.heap.size w0 w1 → Calls Tryd.prog 4 #[.int .i64 x, .int .i64 y] w1 fun e w' => e = .returned (.bool true) ∧ Below w1.heap.size w1 w') := fun x y w1 hx hy h => by
    have a1 := HA0.out.below h
    exact clockLeft_walk x y w1 hx hy a1.u a1.p
  have cU : Hid (∀ (x y z : Int) (w1 : World), (-9223372036854775808 ≤ x ∧ x ≤ 9223372036854775807) → (-9223372036854775808 ≤ y ∧ y ≤ 9223372036854775807) → (-9223372036854775808 ≤ z ∧ z ≤ 9223372036854775807) → Below w0.heap.size w0 w1 → Calls Tryd.prog 17 #[.int .i64 x, .int .i64 y, .int .i64 z] w1 fun e w' => e = .returned (.bool true) ∧ Below w1.heap.size w1 w') := fun x y z w1 hx hy hz h => by
    have a1 := HA0.out.below h
    exact clockUntil_walk x y z w1 hx hy hz a1.e
  have cV : Hid (∀ (x y z : Int) (w1 : World), (-9223372036854775808 ≤ x ∧ x ≤ 9223372036854775807) → (-9223372036854775808 ≤ y ∧ y ≤ 9223372036854775807) → (-9223372036854775808 ≤ z ∧ z ≤ 9223372036854775807) → Below w0.heap.size w0 w1 → Calls Tryd.prog 3 #[.int .i64 x, .int .i64 y, .int .i64 z] w1 fun e w' => e = .returned (.bool true) ∧ Below w1.heap.size w1 w') := fun x y z w1 hx hy hz h => by
    have a1 := HA0.out.below h
    exact clockLives_walk x y z w1 hx hy hz a1.u a1.p
  have cW : Hid (∀ w1, Below w0.heap.size w0 w1 → Calls Tryd.prog 7 #[] w1 fun e w' => e = .returned (.bool true) ∧ Below w1.heap.size w1 w') := fun w1 h => works_c w1 (HA0.out.below h).u (HA0.out.below h).p
  have cR : Hid (∀ w1, Below w0.heap.size w0 w1 → Calls Tryd.prog 13 #[.int .i64 1099511627776] w1 fun e w' => e = .returned (.tuple #[.string ⟨#[49, 50, 55, 50, 53, 56, 50, 57, 100, 51, 54, 109, 49, 54, 115]⟩, .nilIface]) ∧ Below w1.heap.size w1 w') := fun w1 h => by
    have := print_c 1099511627776 w1 (by omega) (HA0.out.below h).u (HA0.out.below h).p
    rw [form_max] at this
    exact this
  have cS : Hid (∀ w1, Below w0.heap.size w0 w1 → Calls Tryd.prog 18 #[.string ⟨#[49, 50, 55, 50, 53, 56, 50, 57, 100, 51, 54, 109, 49, 55, 115]⟩] w1 fun e w' => e = .returned (.tuple #[.int .i64 0, noV 12]) ∧ Below w1.heap.size w1 w') := fun w1 h => by
    have := parse_c [49, 50, 55, 50, 53, 56, 50, 57, 100, 51, 54, 109, 49, 55, 115] w1 (by decide) (HA0.out.below h).u
    rw [parse_over] at this
    exact this
  have cX : Hid (∀ w1, Below w0.heap.size w0 w1 → Calls Tryd.prog 19 #[noV 12, .int .i64 12] w1 fun e w' => e = .returned (.bool true) ∧ Below w1.heap.size w1 w') := fun w1 h => plain_same 12 12 rfl (by omega) (by omega) w1 (HA0.out.below h).e
  unfold noV at cS cX
  go_loopw [2] (fun x wr => ∃ i : Nat, i ≤ 17 ∧ x = .int .i64 i ∧ Below w0.heap.size w0 wr) (fun x _ => 17 - (intOf x).toNat)
  case atStart => exact ⟨0, by omega, rfl, Below.refl _ _⟩
  case round =>
    obtain ⟨i, hi, rfl, hB0⟩ := hrel
    by_cases hli : i < 17
    · have HCI : Hid (w0.cell? ⟨w.heap.size, i, none⟩ = some (.int .i64 (endsL.getD i 0))) := HC0.out i hli
      have hei := ends_ok i hli
      obtain ⟨x, HVI⟩ : ∃ x, Hid (endsL.getD i 0 = x) := ⟨_, rfl⟩
      rw [HVI.out] at HCI hei
      have hi0 : (0 : Int) ≤ (i : Int) := by omega
      have hi1 : (i : Int) < 17 := by omega
      have ti0 := (hB0.cell (p := ⟨w.heap.size, i, none⟩) hb0).trans HCI.out
      go_wp2_with fail
      refine (cP.out _ _ (by assumption) hB0).mono ?_
      rintro e w2 ⟨rfl, hq⟩
      have hB2 := then_b hB0 hq
      have ti2 := (hB2.cell (p := ⟨w.heap.size, i, none⟩) hb0).trans HCI.out
      clear hq hB0 ti0
      go_wp2_with fail
      refine (cT.out _ _ (by assumption) hB2).mono ?_
      rintro e w3 ⟨rfl, hq⟩
      have hB3 := then_b hB2 hq
      clear hq hB2 ti2
      rename World => w9
      go_wp2
      go_loopw [3] (fun x wr => ∃ k : Nat, k ≤ 17 ∧ x = .int .i64 k ∧ Below w0.heap.size w0 wr) (fun x _ => 17 - (intOf x).toNat)
      case atStart => exact ⟨0, by omega, rfl, hB3⟩
      case round =>
        clear hB3
        obtain ⟨k, hk, rfl, hB0⟩ := hrel
        by_cases hlk : k < 17
        · have HCK : Hid (w0.cell? ⟨w.heap.size, k, none⟩ = some (.int .i64 (endsL.getD k 0))) := HC0.out k hlk
          have hek := ends_ok k hlk
          obtain ⟨y, HVK⟩ : ∃ y, Hid (endsL.getD k 0 = y) := ⟨_, rfl⟩
          rw [HVK.out] at HCK hek
          have hk0 : (0 : Int) ≤ (k : Int) := by omega
          have hk1 : (k : Int) < 17 := by omega
          have ti0 := (hB0.cell (p := ⟨w.heap.size, i, none⟩) hb0).trans HCI.out
          have tk0 := (hB0.cell (p := ⟨w.heap.size, k, none⟩) hb0).trans HCK.out
          go_wp2
          go_region_held3 (fun w' => w'.cell? ⟨w.heap.size, i, none⟩ = some (.int .i64 x) ∧ w'.cell? ⟨w.heap.size, k, none⟩ = some (.int .i64 y) ∧ Below w0.heap.size w0 w') (first | assumption | exact ⟨by assumption, by assumption, (by first | assumption | exact Below.drew (by assumption))⟩) (first | (go_at_call 16; refine (cA.out _ _ _ (by assumption) (by assumption) (by first | assumption | exact Below.drew (by assumption))).mono ?_; rintro e w2 ⟨rfl, hq2⟩; have hB2 : Below w0.heap.size w0 w2 := (by refine then_b ?_ hq2; first | assumption | exact Below.drew (by assumption)); have ti2 := (hB2.cell (p := ⟨w.heap.size, i, none⟩) hb0).trans HCI.out; have tk2 := (hB2.cell (p := ⟨w.heap.size, k, none⟩) hb0).trans HCK.out; have hS2 : w2.cell? ⟨w.heap.size, i, none⟩ = some (.int .i64 x) ∧ w2.cell? ⟨w.heap.size, k, none⟩ = some (.int .i64 y) ∧ Below w0.heap.size w0 w2 := ⟨ti2, tk2, hB2⟩) | (go_at_call 4; refine (cL.out _ _ _ (by assumption) (by assumption) (by first | assumption | exact Below.drew (by assumption))).mono ?_; rintro e w2 ⟨rfl, hq2⟩; have hB2 : Below w0.heap.size w0 w2 := (by refine then_b ?_ hq2; first | assumption | exact Below.drew (by assumption)); have ti2 := (hB2.cell (p := ⟨w.heap.size, i, none⟩) hb0).trans HCI.out; have tk2 := (hB2.cell (p := ⟨w.heap.size, k, none⟩) hb0).trans HCK.out; have hS2 : w2.cell? ⟨w.heap.size, i, none⟩ = some (.int .i64 x) ∧ w2.cell? ⟨w.heap.size, k, none⟩ = some (.int .i64 y) ∧ Below w0.heap.size w0 w2 := ⟨ti2, tk2, hB2⟩))
          have hB5 : Below w0.heap.size w0 w2 := hB2
          clear hB0 ti0 tk0
          rename World => w8
          go_wp2
          go_loopw [4] (fun x wr => ∃ j : Nat, j ≤ 17 ∧ x = .int .i64 j ∧ Below w0.heap.size w0 wr) (fun x _ => 17 - (intOf x).toNat)
          case atStart => exact ⟨0, by omega, rfl, hB5⟩
          case round =>
            clear hB5
            obtain ⟨j, hj, rfl, hB0⟩ := hrel
            by_cases hlj : j < 17
            · have HCJ : Hid (w0.cell? ⟨w.heap.size, j, none⟩ = some (.int .i64 (endsL.getD j 0))) := HC0.out j hlj
              have hej := ends_ok j hlj
              obtain ⟨z, HVJ⟩ : ∃ z, Hid (endsL.getD j 0 = z) := ⟨_, rfl⟩
              rw [HVJ.out] at HCJ hej
              have hj0 : (0 : Int) ≤ (j : Int) := by omega
              have hj1 : (j : Int) < 17 := by omega
              have ti0 := (hB0.cell (p := ⟨w.heap.size, i, none⟩) hb0).trans HCI.out
              have tk0 := (hB0.cell (p := ⟨w.heap.size, k, none⟩) hb0).trans HCK.out
              have tj0 := (hB0.cell (p := ⟨w.heap.size, j, none⟩) hb0).trans HCJ.out
              go_wp2
              go_region_held3 (fun w' => w'.cell? ⟨w.heap.size, i, none⟩ = some (.int .i64 x) ∧ w'.cell? ⟨w.heap.size, k, none⟩ = some (.int .i64 y) ∧ w'.cell? ⟨w.heap.size, j, none⟩ = some (.int .i64 z) ∧ Below w0.heap.size w0 w') (first | assumption | exact ⟨by assumption, by assumption, by assumption, (by first | assumption | exact Below.drew (by assumption))⟩) (first | (go_at_call 17; refine (cU.out _ _ _ _ (by assumption) (by assumption) (by assumption) (by first | assumption | exact Below.drew (by assumption))).mono ?_; rintro e w2 ⟨rfl, hq2⟩; have hB2 : Below w0.heap.size w0 w2 := (by refine then_b ?_ hq2; first | assumption | exact Below.drew (by assumption)); have ti2 := (hB2.cell (p := ⟨w.heap.size, i, none⟩) hb0).trans HCI.out; have tk2 := (hB2.cell (p := ⟨w.heap.size, k, none⟩) hb0).trans HCK.out; have tj2 := (hB2.cell (p := ⟨w.heap.size, j, none⟩) hb0).trans HCJ.out; have hS2 : w2.cell? ⟨w.heap.size, i, none⟩ = some (.int .i64 x) ∧ w2.cell? ⟨w.heap.size, k, none⟩ = some (.int .i64 y) ∧ w2.cell? ⟨w.heap.size, j, none⟩ = some (.int .i64 z) ∧ Below w0.heap.size w0 w2 := ⟨ti2, tk2, tj2, hB2⟩) | (go_at_call 3; refine (cV.out _ _ _ _ (by assumption) (by assumption) (by assumption) (by first | assumption | exact Below.drew (by assumption))).mono ?_; rintro e w2 ⟨rfl, hq2⟩; have hB2 : Below w0.heap.size w0 w2 := (by refine then_b ?_ hq2; first | assumption | exact Below.drew (by assumption)); have ti2 := (hB2.cell (p := ⟨w.heap.size, i, none⟩) hb0).trans HCI.out; have tk2 := (hB2.cell (p := ⟨w.heap.size, k, none⟩) hb0).trans HCK.out; have tj2 := (hB2.cell (p := ⟨w.heap.size, j, none⟩) hb0).trans HCJ.out; have hS2 : w2.cell? ⟨w.heap.size, i, none⟩ = some (.int .i64 x) ∧ w2.cell? ⟨w.heap.size, k, none⟩ = some (.int .i64 y) ∧ w2.cell? ⟨w.heap.size, j, none⟩ = some (.int .i64 z) ∧ Below w0.heap.size w0 w2 := ⟨ti2, tk2, tj2, hB2⟩))
              go_wp2
              go_roundw
              case rel => exact ⟨j + 1, by omega, by go_num, hB2⟩
              case measure => simp [intOf]; omega
            · go_wp2
              go_roundw
              case rel => exact ⟨k + 1, by omega, by go_num, hB0⟩
              case measure => simp [intOf]; omega
        · go_wp2
          go_roundw
          case rel => exact ⟨i + 1, by omega, by go_num, hB0⟩
          case measure => simp [intOf]; omega
    · go_wp2_with fail
      refine (cR.out _ hB0).mono ?_
      rintro e w2 ⟨rfl, hq⟩
      have hB2 := then_b hB0 hq
      clear hq
      go_wp2_with fail
      refine (cS.out _ hB2).mono ?_
      rintro e w3 ⟨rfl, hq⟩
      have hB3 := then_b hB2 hq
      clear hq
      go_wp2_with fail
      refine (cW.out _ hB3).mono ?_
      rintro e w4 ⟨rfl, hq⟩
      have hB4 := then_b hB3 hq
      clear hq
      go_wp2_with fail
      refine (cX.out _ hB4).mono ?_
      rintro e w5 ⟨rfl, hq⟩
      have hB5 := then_b hB4 hq
      go_wp2
      go_ret
      exact ⟨rfl, hBw.trans (hB5.mono (Nat.le_of_lt hb0))⟩

set_option maxRecDepth 100000 in
theorem clockKnown_walk (w : World) (hE : Handle w) (hU : Units w) (hP : Pow w) :
    Calls Tryd.prog 5 #[] w fun e w' => e = .returned (.bool true) ∧ Below w.heap.size w w' := by
  have c1 := knownEnds_c w ⟨hE, hU, hP⟩
  have c2 : Hid (∀ w1, Below w.heap.size w w1 → Calls Tryd.prog 11 #[] w1 fun e w' => e = .returned (.bool true) ∧ Below w1.heap.size w1 w') := fun w1 h => knownTexts_c w1 (Asks.below ⟨hE, hU, hP⟩ h)
  clear hE hU hP
  go_enter Tryd.func5, Tryd.ntmps5
  go_wp2_with fail
  refine c1.mono ?_
  rintro e w2 ⟨rfl, hB2⟩
  go_wp2_with fail
  refine (c2.out _ hB2).mono ?_
  rintro e w3 ⟨rfl, hq⟩
  have hB3 := then_b hB2 hq
  go_wp2
  go_ret
  exact ⟨rfl, hB3⟩
end Ck
end Go.Proofs.YtfibcbnhjajdlabDoor
