/- The chapter's examples: links of all kinds; all of them. -/
import Derived.Test.YtckgecmcjnhceaaDoorRngV
import Derived.Test.YtckgecmcjnhceaaDoorRngK
import Derived.Test.YtckgecmcjnhceaaDoorRngZ
namespace Go.Proofs.YtckgecmcjnhceaaDoor
set_option linter.ambiguousOpen false
open Go.RowKit
namespace Rg
open An Ft Lv
set_option linter.unusedSimpArgs false
set_option linter.unusedVariables false

theorem flat_at : ∀ (L : List Rct) (n : Nat) (x : Rct), L[n]? = some x → ∀ j, j < 4 → (L.flatMap Rct.cells)[n * 4 + j]? = x.cells[j]?
  | [], n, x, h, j, _ => by simp at h
  | y :: r, 0, x, h, j, hj => by
    obtain rfl : y = x := by simpa using h
    rw [List.flatMap_cons, List.getElem?_append_left (by simp; omega), Nat.zero_mul, Nat.zero_add]
  | y :: r, n + 1, x, h, j, hj => by
    have := flat_at r n x (by simpa using h) j hj
    rw [List.flatMap_cons, List.getElem?_append_right (by simp; omega), ← this]
    congr 1
    simp
    omega

/-- Acts that are laid out. -/
theorem rdC_lit (w : World) (L : List Rct) (ar : Array Value) (n : Nat) (ha : ar = (L.flatMap Rct.cells).toArray) (hn : L.length = n) (h0 : 0 < n) (hm : n ≤ 1000) : RdC (w.alloc (.cells ar 28)) (.slice (some ⟨w.heap.size, 0, none⟩) n n) L := by
  subst ha hn
  refine ⟨_, _, rfl, Nat.le_refl _, by unfold maxLen; omega, fun _ => ⟨_, _, rfl, by simp, fun k x hx j v hv => ?_⟩⟩
  have hj : j < 4 := by
    have := (List.getElem?_eq_some_iff.1 hv).1
    simpa using this
  rw [cell_of_row _ w.heap.size _ _ _ _ (heap_alloc_new _ _), List.getElem?_toArray, Nat.zero_add, flat_at L k x hx j hj]
  exact hv

theorem RdC.drew {w : World} {v : Value} {L : List Rct} (h : RdC w v L) : RdC w.drew v L := h

def endsL : List Int := [-9223372036854775808, -2, -1, 0, 1, 2, 31, 32, 9223372036854775807]

theorem ends_in : ∀ x ∈ endsL, I64 x := by
  intro x hx
  simp [endsL] at hx
  unfold I64
  omega

/-- What is done with two of them. -/
def kActs (x y : Int) : List Rct := [⟨0, 0, -1, 0⟩, ⟨0, 1, 0, 0⟩, ⟨0, 2, 1, 0⟩, ⟨0, x, y, 0⟩, ⟨2, x, y, 0⟩, ⟨3, x, y, 0⟩, ⟨4, x, 99, 0⟩, ⟨5, 1, x, y⟩, ⟨4, 2, 39, 0⟩, ⟨2, 2, 0, 0⟩, ⟨2, 0, 2, 0⟩, ⟨0, 5, 2, 0⟩, ⟨3, 2, 5, 0⟩, ⟨5, y, x, 0⟩, ⟨3, 0, y, 0⟩]

theorem kActs_fit (x y : Int) (hx : I64 x) (hy : I64 y) : ∀ r ∈ kActs x y, r.fits := by
  intro r hr
  simp [kActs] at hr
  rcases hr with rfl | rfl | rfl | rfl | rfl | rfl | rfl | rfl | rfl | rfl | rfl | rfl | rfl | rfl | rfl <;> (refine ⟨?_, ?_, ?_, ?_⟩ <;> first | exact hx | exact hy | (dsimp only; exact ⟨by decide, by decide⟩))

set_option maxRecDepth 1000000 in
set_option maxHeartbeats 8000000 in
theorem knownLinks_yes (w : World) (hE : Er.Handle w) (CP : ∀ wx v L, RdC wx v L → (∀ x ∈ L, x.fits) → Er.Handle wx → Calls Tryd.prog 3 #[v] wx fun e w' => e = .returned (.bool true) ∧ Below wx.heap.size wx w') :
    Calls Tryd.prog 18 #[] w fun e w' => e = .returned (.bool true) ∧ Below w.heap.size w w' := by
  have cP : Hid (∀ wx v L, RdC wx v L → (∀ x ∈ L, x.fits) → Below w.heap.size w wx → Calls Tryd.prog 3 #[v] wx fun e w' => e = .returned (.bool true) ∧ Below wx.heap.size wx w') := fun wx v L h1 h2 h3 => CP wx v L h1 h2 (hE.below h3)
  have hB1 : Below w.heap.size w (w.alloc (.cells #[.int .i64 (-9223372036854775808), .int .i64 (-2), .int .i64 (-1), .int .i64 0, .int .i64 1, .int .i64 2, .int .i64 31, .int .i64 32, .int .i64 9223372036854775807] 3)) := (Below.refl _ _).alloc (Nat.le_refl _) _
  have hC1 : ∀ k x, endsL[k]? = some x → (w.alloc (.cells #[.int .i64 (-9223372036854775808), .int .i64 (-2), .int .i64 (-1), .int .i64 0, .int .i64 1, .int .i64 2, .int .i64 31, .int .i64 32, .int .i64 9223372036854775807] 3)).cell? ⟨w.heap.size, k, none⟩ = some (nu x) := fun k x hk => by
    rw [cell_of_row _ w.heap.size _ _ _ _ (heap_alloc_new _ _)]
    have : (#[.int .i64 (-9223372036854775808), .int .i64 (-2), .int .i64 (-1), .int .i64 0, .int .i64 1, .int .i64 2, .int .i64 31, .int .i64 32, .int .i64 9223372036854775807] : Array Value) = (endsL.map nu).toArray := rfl
    rw [this, List.getElem?_toArray, List.getElem?_map, hk]
    rfl
  have hs1 : (w.alloc (.cells #[.int .i64 (-9223372036854775808), .int .i64 (-2), .int .i64 (-1), .int .i64 0, .int .i64 1, .int .i64 2, .int .i64 31, .int .i64 32, .int .i64 9223372036854775807] 3)).heap.size = w.heap.size + 1 := by simp
  obtain ⟨W1, hW1⟩ : ∃ W1, w.alloc (.cells #[.int .i64 (-9223372036854775808), .int .i64 (-2), .int .i64 (-1), .int .i64 0, .int .i64 1, .int .i64 2, .int .i64 31, .int .i64 32, .int .i64 9223372036854775807] 3) = W1 := ⟨_, rfl⟩
  rw [hW1] at hB1 hC1 hs1
  have HW1 := Hid.mk' hW1
  have HB1 := Hid.mk' hB1
  have HC1 := Hid.mk' hC1
  have HS1 := Hid.mk' hs1
  clear CP hE hW1 hB1 hC1 hs1
  go_enter Tryd.func18, Tryd.ntmps18
  go_wp2
  rw [HW1.out]
  go_loopw [2] (fun iv wr => ∃ i : Nat, i ≤ 9 ∧ iv = nun i ∧ Hid (Below W1.heap.size W1 wr)) (fun iv _ => 9 - (intOf iv).toNat)
  case atStart => exact ⟨0, by omega, rfl, Below.refl _ _⟩
  case round =>
    obtain ⟨i, hi, rfl, HB⟩ := hrel
    by_cases hi9 : i < 9
    · have hiI : (i : Int) < 9 := by omega
      obtain ⟨x, hx⟩ : ∃ x, endsL[i]? = some x := ⟨_, List.getElem?_eq_getElem (by simp [endsL]; omega)⟩
      have hXI : Hid (I64 x) := ends_in x (List.mem_of_getElem? hx)
      have HX : Hid (W1.cell? ⟨w.heap.size, i, none⟩ = some (nu x)) := HC1.out i x hx
      clear hx
      rename World => w2
      go_wp2
      go_loopw [3] (fun kv wr => ∃ k : Nat, k ≤ 9 ∧ kv = nun k ∧ Hid (Below W1.heap.size W1 wr)) (fun kv _ => 9 - (intOf kv).toNat)
      case atStart => exact ⟨0, by omega, rfl, HB⟩
      case round =>
        obtain ⟨k, hk, rfl, HBk⟩ := hrel
        by_cases hk9 : k < 9
        · have hkI : (k : Int) < 9 := by omega
          obtain ⟨y, hy⟩ : ∃ y, endsL[k]? = some y := ⟨_, List.getElem?_eq_getElem (by simp [endsL]; omega)⟩
          have hYI : Hid (I64 y) := ends_in y (List.mem_of_getElem? hy)
          have hcx : wr.cell? ⟨w.heap.size, i, none⟩ = some (nu x) := (HBk.out.cell (p := ⟨w.heap.size, i, none⟩) (by rw [HS1.out]; exact Nat.lt_succ_self _)).trans HX.out
          have hcy : wr.cell? ⟨w.heap.size, k, none⟩ = some (nu y) := (HBk.out.cell (p := ⟨w.heap.size, k, none⟩) (by rw [HS1.out]; exact Nat.lt_succ_self _)).trans (HC1.out k y hy)
          clear hy
          go_wp2_with fail
          simp only [List.append_eq, List.cons_append, List.nil_append]
          have hS0 : wr.drew.cell? ⟨w.heap.size, i, none⟩ = some (nu x) ∧ wr.drew.cell? ⟨w.heap.size, k, none⟩ = some (nu y) := ⟨hcx, hcy⟩
          have HSA : Hid (∀ o : Obj, (wr.alloc o).drew.cell? ⟨w.heap.size, i, none⟩ = some (nu x) ∧ (wr.alloc o).drew.cell? ⟨w.heap.size, k, none⟩ = some (nu y)) := fun o => ⟨(World.cell?_alloc_some wr ⟨w.heap.size, i, none⟩ o (by rw [hcx]; rfl)).trans hcx, (World.cell?_alloc_some wr ⟨w.heap.size, k, none⟩ o (by rw [hcy]; rfl)).trans hcy⟩
          have HBA : Hid (∀ o : Obj, Below W1.heap.size W1 (wr.alloc o).drew) := fun o => (HBk.out.alloc HBk.out.size o).drew
          go_region_held3 (fun w' => w'.cell? ⟨w.heap.size, i, none⟩ = some (nu x) ∧ w'.cell? ⟨w.heap.size, k, none⟩ = some (nu y)) (first | assumption | exact HSA.out _ | fail) (fail)
          clear hS0 HSA
          go_wp2_with fail
          refine (cP.out _ _ (kActs x y) (rdC_lit wr (kActs x y) _ 15 rfl rfl (by decide) (by decide)).drew (kActs_fit x y hXI.out hYI.out) (HB1.out.trans ((HBA.out _).mono HB1.out.size))).mono ?_
          rintro e w5 ⟨rfl, hb5⟩
          have HB5 : Hid (Below W1.heap.size W1 w5) := (HBA.out _).trans (hb5.mono (HBA.out _).size)
          clear hb5 hcx hcy
          go_wp2
          go_roundw
          case rel => exact ⟨k + 1, by omega, by go_num, HB5⟩
          case measure => simp [intOf]; omega
        · have hkI : ¬ (k : Int) < 9 := by omega
          go_wp2
          go_roundw
          case rel => exact ⟨i + 1, by omega, by go_num, HBk⟩
          case measure => simp [intOf]; omega
    · have hiI : ¬ (i : Int) < 9 := by omega
      have HBw : Hid (Below w.heap.size w wr) := HB1.out.trans (HB.out.mono HB1.out.size)
      go_wp2
      go_ret
      exact ⟨rfl, HBw.out⟩
end Rg
end Go.Proofs.YtckgecmcjnhceaaDoor
