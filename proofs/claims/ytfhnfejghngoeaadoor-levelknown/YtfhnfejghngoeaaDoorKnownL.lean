/- The walk of LevelKnown. -/
import Derived.Test.YtfhnfejghngoeaaDoorRows3
import Derived.Test.YtfhnfejghngoeaaDoorSmall
namespace Go.Proofs.YtfhnfejghngoeaaDoor
set_option linter.ambiguousOpen false
open Go.RowKit Er
namespace Lv
set_option linter.unusedSimpArgs false
set_option linter.unusedVariables false

theorem num_m (n : Nat) (m : Int) (hm : (n : Int) = m) (h1 : 1 ≤ n) (h2 : n ≤ 24) (w : World) :
    Calls Tryd.prog 20 #[noV m] w fun e w' => e = .returned (.int .i64 m) ∧ Below w.heap.size w w' := by
  subst hm
  exact num_no n h1 h2 w

theorem ne_size {a b : ByteArray} (h : a.size ≠ b.size) : a ≠ b := fun e => h (by rw [e])

theorem row_rd {w : World} {g : Nat} {L : List Ses} (h : w.heap[g]? = some (.cells (L.flatMap Ses.cells).toArray 46 (0, 0))) (hl : L.length ≤ 1000) : RdS w (.slice (some ⟨g, 0, none⟩) L.length L.length) L := by
  refine ⟨_, _, rfl, Nat.le_refl _, by unfold maxLen; omega, fun _ => ⟨g, 0, rfl, fun i hi c v hv => ?_⟩⟩
  have hc : c < 12 := (List.getElem?_eq_some_iff.1 hv).1
  rw [Nat.zero_add, cell_of_row w g _ _ _ _ h]
  have := (flat_at3 L i c hi hc).trans hv
  simpa using this

def kl : List Ses := [⟨0, 2, 0, 0, 0, ⟨#[]⟩, ⟨#[]⟩, 0, 1, 0, 9, 0⟩, ⟨0, 1, 0, 0, 0, ⟨#[]⟩, ⟨#[]⟩, 0, 1, 0, 9, 0⟩, ⟨0, 3, 0, 0, 0, ⟨#[]⟩, ⟨#[]⟩, 0, 2, 0, 5, 0⟩]

theorem kl_cells : (kl.flatMap Ses.cells).toArray = #[.int .i64 0, .int .i64 2, .int .i64 0, .int .i64 0, .int .i64 0, .string ⟨#[]⟩, .string ⟨#[]⟩, .int .u64 0, .int .i64 1, .int .i64 0, .int .i64 9, .int .i64 0, .int .i64 0, .int .i64 1, .int .i64 0, .int .i64 0, .int .i64 0, .string ⟨#[]⟩, .string ⟨#[]⟩, .int .u64 0, .int .i64 1, .int .i64 0, .int .i64 9, .int .i64 0, .int .i64 0, .int .i64 3, .int .i64 0, .int .i64 0, .int .i64 0, .string ⟨#[]⟩, .string ⟨#[]⟩, .int .u64 0, .int .i64 2, .int .i64 0, .int .i64 5, .int .i64 0] := rfl

theorem kl_5 : bestS kl 5 = ⟨0, 1, 0, 0, 0, ⟨#[]⟩, ⟨#[]⟩, 0, 1, 0, 9, 0⟩ ∧ bestB kl 5 = true := ⟨rfl, rfl⟩

theorem kl_4 : bestS kl 4 = ⟨0, 3, 0, 0, 0, ⟨#[]⟩, ⟨#[]⟩, 0, 2, 0, 5, 0⟩ ∧ bestB kl 4 = true := ⟨rfl, rfl⟩

theorem mid0 : (⟨#[77, 105, 100]⟩ : ByteArray) ≠ nmS 0 := fun e => by
  have := congrArg ByteArray.data e
  revert this; decide

theorem mid1 : (⟨#[77, 105, 100]⟩ : ByteArray) ≠ nmS 1 := fun e => by
  have := congrArg ByteArray.data e
  revert this; decide

theorem mid2 : (⟨#[77, 105, 100]⟩ : ByteArray) ≠ nmS 2 := fun e => by
  have := congrArg ByteArray.data e
  revert this; decide

theorem en11 (w : World) : Calls Tryd.prog 13 #[.int .i64 1, .int .i64 1] w fun e w' => e = .returned (.bool true) ∧ w' = w := enough_any 1 1 w

theorem en31 (w : World) : Calls Tryd.prog 13 #[.int .i64 3, .int .i64 1] w fun e w' => e = .returned (.bool false) ∧ w' = w := enough_any 3 1 w

theorem en1m1 (w : World) : Calls Tryd.prog 13 #[.int .i64 1, .int .i64 (-1)] w fun e w' => e = .returned (.bool false) ∧ w' = w := enough_any 1 (-1) w

theorem kl_fits : ∀ s ∈ kl, s.fits := by
  intro s hs
  simp only [kl, List.mem_cons, List.not_mem_nil, or_false] at hs
  rcases hs with rfl | rfl | rfl <;> exact ⟨by decide, by decide⟩

theorem rd_one {w : World} {g : Nat} (h : RdS w (.slice (some ⟨g, 0, none⟩) 3 3) kl) (j : Nat) (hj : j < kl.length) : At w g (j * 12) kl[j] := by
  obtain ⟨a, c, e, _, _, hc⟩ := h
  obtain ⟨g', o', ha, hat⟩ := hc (by decide)
  injection e with e1 e2 e3
  rw [ha] at e1
  injection e1 with e1
  injection e1 with e4 e5
  subst e4 e5
  have := hat j hj
  rwa [Nat.zero_add] at this

set_option maxRecDepth 100000 in
set_option maxHeartbeats 8000000 in
theorem levelKnown_walk (w : World) (hN : NamesG w) (hS : StepsG w) :
    Calls Tryd.prog 7 #[] w fun e w' => e = .returned (.bool true) ∧ Below w.heap.size w w' := by
  have HN : Hid (NamesG w) := hN
  have HS : Hid (StepsG w) := hS
  clear hN hS
  have hB0 := Below.refl w.heap.size w
  go_enter Tryd.func7, Tryd.ntmps7
  go_wp2_with fail
  refine (name_no 3 w rfl).mono ?_
  rintro e w1 ⟨rfl, hq⟩
  subst w1
  unfold noV
  go_wp2_with fail
  refine (name_no (-1) w rfl).mono ?_
  rintro e w1 ⟨rfl, hq⟩
  subst w1
  unfold noV
  go_wp2_with fail
  refine (parse_no ⟨#[77, 105, 100]⟩ w mid0 mid1 mid2 (HN.out.below hB0)).mono ?_
  rintro e w1 ⟨rfl, hq⟩
  subst w1
  unfold noV
  go_wp2_with fail
  refine (parse_no ⟨#[]⟩ w (ne_size (by decide)) (ne_size (by decide)) (ne_size (by decide)) (HN.out.below hB0)).mono ?_
  rintro e w1 ⟨rfl, hq⟩
  subst w1
  unfold noV
  go_wp2_with fail
  refine (name_yes 0 w rfl (HN.out.below hB0)).mono ?_
  rintro e w1 ⟨rfl, hb⟩
  have hB1 := Er.below_then hB0 hb
  clear hb
  rw [nmS_0]
  go_wp2_with fail
  refine (name_yes 2 w1 rfl (HN.out.below hB1)).mono ?_
  rintro e w2 ⟨rfl, hb⟩
  have hB2 := Er.below_then hB1 hb
  clear hb
  rw [nmS_2]
  go_wp2_with fail
  refine (num_m 13 13 rfl (by omega) (by omega) w2).mono ?_
  rintro e w3 ⟨rfl, hb⟩
  have hB3 := Er.below_then hB2 hb
  clear hb
  go_wp2_with fail
  refine (num_m 13 13 rfl (by omega) (by omega) w3).mono ?_
  rintro e w4 ⟨rfl, hb⟩
  have hB4 := Er.below_then hB3 hb
  clear hb
  go_wp2_with fail
  refine (num_m 4 4 rfl (by omega) (by omega) w4).mono ?_
  rintro e w5 ⟨rfl, hb⟩
  have hB5 := Er.below_then hB4 hb
  clear hb
  go_wp2_with fail
  refine (num_m 4 4 rfl (by omega) (by omega) w5).mono ?_
  rintro e w6 ⟨rfl, hb⟩
  have hB6 := Er.below_then hB5 hb
  clear hb
  go_wp2_with fail
  refine (en11 w6).mono ?_
  rintro e w7 ⟨rfl, hq⟩
  subst w7
  go_wp2_with fail
  refine (en31 w6).mono ?_
  rintro e w7 ⟨rfl, hq⟩
  subst w7
  go_wp2_with fail
  refine (en1m1 w6).mono ?_
  rintro e w7 ⟨rfl, hq⟩
  subst w7
  go_wp2_with fail
  refine (raise_ok 0 1 300 w6 (HS.out.below hB6) rfl (by omega)).mono ?_
  rintro e w7 ⟨rfl, hb⟩
  have hB7 := Er.below_then hB6 hb
  clear hb
  go_wp2_with fail
  refine (raise_ok 1 2 1 w7 (HS.out.below hB7) rfl (by omega)).mono ?_
  rintro e w8 ⟨rfl, hb⟩
  have hB8 := Er.below_then hB7 hb
  clear hb
  go_wp2_with fail
  refine (raise_time 0 1 301 w8 (HS.out.below hB8) rfl (by omega)).mono ?_
  rintro e w9 ⟨rfl, hb⟩
  have hB9 := Er.below_then hB8 hb
  clear hb
  unfold noV
  go_wp2_with fail
  refine (num_m 12 12 rfl (by omega) (by omega) w9).mono ?_
  rintro e w10 ⟨rfl, hb⟩
  have hB10 := Er.below_then hB9 hb
  clear hb
  go_wp2_with fail
  refine (raise_level 1 1 0 w10 (HS.out.below hB10) rfl).mono ?_
  rintro e w11 ⟨rfl, hb⟩
  have hB11 := Er.below_then hB10 hb
  clear hb
  unfold noV
  go_wp2_with fail
  refine (num_m 13 13 rfl (by omega) (by omega) w11).mono ?_
  rintro e w12 ⟨rfl, hb⟩
  have hB12 := Er.below_then hB11 hb
  clear hb
  go_wp2_with fail
  refine (raise_level 2 3 5 w12 (HS.out.below hB12) rfl).mono ?_
  rintro e w13 ⟨rfl, hb⟩
  have hB13 := Er.below_then hB12 hb
  clear hb
  unfold noV
  go_wp2_with fail
  refine (num_m 13 13 rfl (by omega) (by omega) w13).mono ?_
  rintro e w14 ⟨rfl, hb⟩
  have hB14 := Er.below_then hB13 hb
  clear hb
  go_wp2_with fail
  refine (raise_time 0 2 0 w14 (HS.out.below hB14) rfl (by omega)).mono ?_
  rintro e w15 ⟨rfl, hb⟩
  have hB15 := Er.below_then hB14 hb
  clear hb
  unfold noV
  go_wp2_with fail
  refine (num_m 12 12 rfl (by omega) (by omega) w15).mono ?_
  rintro e w16 ⟨rfl, hb⟩
  have hB16 := Er.below_then hB15 hb
  clear hb
  have hal : Below w16.heap.size w16 (w16.alloc (.cells #[.int .i64 0, .int .i64 2, .int .i64 0, .int .i64 0, .int .i64 0, .string ⟨#[]⟩, .string ⟨#[]⟩, .int .u64 0, .int .i64 1, .int .i64 0, .int .i64 9, .int .i64 0, .int .i64 0, .int .i64 1, .int .i64 0, .int .i64 0, .int .i64 0, .string ⟨#[]⟩, .string ⟨#[]⟩, .int .u64 0, .int .i64 1, .int .i64 0, .int .i64 9, .int .i64 0, .int .i64 0, .int .i64 3, .int .i64 0, .int .i64 0, .int .i64 0, .string ⟨#[]⟩, .string ⟨#[]⟩, .int .u64 0, .int .i64 2, .int .i64 0, .int .i64 5, .int .i64 0] 46)) := (Below.refl _ _).alloc (Nat.le_refl _) _
  have hBL := Er.below_then hB16 hal
  have hRL : Hid (RdS (w16.alloc (.cells #[.int .i64 0, .int .i64 2, .int .i64 0, .int .i64 0, .int .i64 0, .string ⟨#[]⟩, .string ⟨#[]⟩, .int .u64 0, .int .i64 1, .int .i64 0, .int .i64 9, .int .i64 0, .int .i64 0, .int .i64 1, .int .i64 0, .int .i64 0, .int .i64 0, .string ⟨#[]⟩, .string ⟨#[]⟩, .int .u64 0, .int .i64 1, .int .i64 0, .int .i64 9, .int .i64 0, .int .i64 0, .int .i64 3, .int .i64 0, .int .i64 0, .int .i64 0, .string ⟨#[]⟩, .string ⟨#[]⟩, .int .u64 0, .int .i64 2, .int .i64 0, .int .i64 5, .int .i64 0] 46)) (.slice (some ⟨w16.heap.size, 0, none⟩) 3 3) kl) := row_rd (L := kl) (heap_alloc_new _ _) (by decide)
  have c5 : Hid (∀ w1, RdS w1 (.slice (some ⟨w16.heap.size, 0, none⟩) 3 3) kl → Calls Tryd.prog 18 #[.slice (some ⟨w16.heap.size, 0, none⟩) 3 3, .int .i64 5] w1 fun e w' => e = .returned (.tuple #[.agg #[.int .i64 0, .int .i64 1, .int .i64 0, .int .i64 0, .int .i64 0, .string ⟨#[]⟩, .string ⟨#[]⟩, .int .u64 0, .int .i64 1, .int .i64 0, .int .i64 9, .int .i64 0], .bool true]) ∧ Below w1.heap.size w1 w') := fun w1 h1 => by
    have := best_any _ kl 5 w1 h1 kl_fits
    rw [kl_5.1, kl_5.2] at this
    exact this
  have c4 : Hid (∀ w1, RdS w1 (.slice (some ⟨w16.heap.size, 0, none⟩) 3 3) kl → Calls Tryd.prog 18 #[.slice (some ⟨w16.heap.size, 0, none⟩) 3 3, .int .i64 4] w1 fun e w' => e = .returned (.tuple #[.agg #[.int .i64 0, .int .i64 3, .int .i64 0, .int .i64 0, .int .i64 0, .string ⟨#[]⟩, .string ⟨#[]⟩, .int .u64 0, .int .i64 2, .int .i64 0, .int .i64 5, .int .i64 0], .bool true]) ∧ Below w1.heap.size w1 w') := fun w1 h1 => by
    have := best_any _ kl 4 w1 h1 kl_fits
    rw [kl_4.1, kl_4.2] at this
    exact this
  have c0 : Hid (∀ w1, Calls Tryd.prog 18 #[.slice none 0 0, .int .i64 0] w1 fun e w' => e = .returned (.tuple #[.agg #[.int .i64 0, .int .i64 0, .int .i64 0, .int .i64 0, .int .i64 0, .string ⟨#[]⟩, .string ⟨#[]⟩, .int .u64 0, .int .i64 0, .int .i64 0, .int .i64 0, .int .i64 0], .bool false]) ∧ Below w1.heap.size w1 w') := fun w1 =>
    best_any (.slice none 0 0) [] 0 w1 ⟨none, 0, rfl, Nat.le_refl _, by unfold maxLen; omega, fun h => by simp at h⟩ (by simp)
  go_wp2_with fail
  generalize w16.alloc (.cells #[.int .i64 0, .int .i64 2, .int .i64 0, .int .i64 0, .int .i64 0, .string ⟨#[]⟩, .string ⟨#[]⟩, .int .u64 0, .int .i64 1, .int .i64 0, .int .i64 9, .int .i64 0, .int .i64 0, .int .i64 1, .int .i64 0, .int .i64 0, .int .i64 0, .string ⟨#[]⟩, .string ⟨#[]⟩, .int .u64 0, .int .i64 1, .int .i64 0, .int .i64 9, .int .i64 0, .int .i64 0, .int .i64 3, .int .i64 0, .int .i64 0, .int .i64 0, .string ⟨#[]⟩, .string ⟨#[]⟩, .int .u64 0, .int .i64 2, .int .i64 0, .int .i64 5, .int .i64 0] 46) = WL at *
  refine (c5.out WL hRL.out).mono ?_
  rintro e wa ⟨rfl, hba⟩
  have hBa := Er.below_then hBL hba
  have hRa : Hid (RdS wa (.slice (some ⟨w16.heap.size, 0, none⟩) 3 3) kl) := hRL.out.below hba
  clear hba hRL hal
  have hala : Below wa.heap.size wa (wa.alloc (.cells #[.int .i64 0, .int .i64 1, .int .i64 0, .int .i64 0, .int .i64 0, .string ⟨#[]⟩, .string ⟨#[]⟩, .int .u64 0, .int .i64 1, .int .i64 0, .int .i64 9, .int .i64 0] 46)) := (Below.refl _ _).alloc (Nat.le_refl _) _
  have hBX := Er.below_then hBa hala
  have hRX : Hid (RdS (wa.alloc (.cells #[.int .i64 0, .int .i64 1, .int .i64 0, .int .i64 0, .int .i64 0, .string ⟨#[]⟩, .string ⟨#[]⟩, .int .u64 0, .int .i64 1, .int .i64 0, .int .i64 9, .int .i64 0] 46)) (.slice (some ⟨w16.heap.size, 0, none⟩) 3 3) kl) := hRa.out.below hala
  have hAX : Hid (At (wa.alloc (.cells #[.int .i64 0, .int .i64 1, .int .i64 0, .int .i64 0, .int .i64 0, .string ⟨#[]⟩, .string ⟨#[]⟩, .int .u64 0, .int .i64 1, .int .i64 0, .int .i64 9, .int .i64 0] 46)) wa.heap.size 0 ⟨0, 1, 0, 0, 0, ⟨#[]⟩, ⟨#[]⟩, 0, 1, 0, 9, 0⟩) := at_block (heap_alloc_new _ _)
  clear hRa hala hBa
  go_wp2_with fail
  generalize wa.alloc (.cells #[.int .i64 0, .int .i64 1, .int .i64 0, .int .i64 0, .int .i64 0, .string ⟨#[]⟩, .string ⟨#[]⟩, .int .u64 0, .int .i64 1, .int .i64 0, .int .i64 9, .int .i64 0] 46) = WX at *
  refine (c4.out WX hRX.out).mono ?_
  rintro e wb ⟨rfl, hbb⟩
  have hBb := Er.below_then hBX hbb
  have hRb : Hid (RdS wb (.slice (some ⟨w16.heap.size, 0, none⟩) 3 3) kl) := hRX.out.below hbb
  have hAXb : Hid (At wb wa.heap.size 0 ⟨0, 1, 0, 0, 0, ⟨#[]⟩, ⟨#[]⟩, 0, 1, 0, 9, 0⟩) := hAX.out.below hbb hAX.out.lt
  clear hbb hRX hAX hBX
  have halb : Below wb.heap.size wb (wb.alloc (.cells #[.int .i64 0, .int .i64 3, .int .i64 0, .int .i64 0, .int .i64 0, .string ⟨#[]⟩, .string ⟨#[]⟩, .int .u64 0, .int .i64 2, .int .i64 0, .int .i64 5, .int .i64 0] 46)) := (Below.refl _ _).alloc (Nat.le_refl _) _
  have hBY := Er.below_then hBb halb
  have hRY : Hid (RdS (wb.alloc (.cells #[.int .i64 0, .int .i64 3, .int .i64 0, .int .i64 0, .int .i64 0, .string ⟨#[]⟩, .string ⟨#[]⟩, .int .u64 0, .int .i64 2, .int .i64 0, .int .i64 5, .int .i64 0] 46)) (.slice (some ⟨w16.heap.size, 0, none⟩) 3 3) kl) := hRb.out.below halb
  have hAX2 : Hid (At (wb.alloc (.cells #[.int .i64 0, .int .i64 3, .int .i64 0, .int .i64 0, .int .i64 0, .string ⟨#[]⟩, .string ⟨#[]⟩, .int .u64 0, .int .i64 2, .int .i64 0, .int .i64 5, .int .i64 0] 46)) wa.heap.size 0 ⟨0, 1, 0, 0, 0, ⟨#[]⟩, ⟨#[]⟩, 0, 1, 0, 9, 0⟩) := hAXb.out.below halb hAXb.out.lt
  have hAY : Hid (At (wb.alloc (.cells #[.int .i64 0, .int .i64 3, .int .i64 0, .int .i64 0, .int .i64 0, .string ⟨#[]⟩, .string ⟨#[]⟩, .int .u64 0, .int .i64 2, .int .i64 0, .int .i64 5, .int .i64 0] 46)) wb.heap.size 0 ⟨0, 3, 0, 0, 0, ⟨#[]⟩, ⟨#[]⟩, 0, 2, 0, 5, 0⟩) := at_block (heap_alloc_new _ _)
  clear hRb halb hBb hAXb
  go_wp2_with fail
  generalize wb.alloc (.cells #[.int .i64 0, .int .i64 3, .int .i64 0, .int .i64 0, .int .i64 0, .string ⟨#[]⟩, .string ⟨#[]⟩, .int .u64 0, .int .i64 2, .int .i64 0, .int .i64 5, .int .i64 0] 46) = WY at *
  refine (c0.out WY).mono ?_
  rintro e wc ⟨rfl, hbc⟩
  have hBc := Er.below_then hBY hbc
  have hRc := hRY.out.below hbc
  have hAX3 := hAX2.out.below hbc hAX2.out.lt
  have hAY3 := hAY.out.below hbc hAY.out.lt
  clear hbc hRY hAX2 hAY hBY
  have halc : Below wc.heap.size wc (wc.alloc (.cells #[.int .i64 0, .int .i64 0, .int .i64 0, .int .i64 0, .int .i64 0, .string ⟨#[]⟩, .string ⟨#[]⟩, .int .u64 0, .int .i64 0, .int .i64 0, .int .i64 0, .int .i64 0] 46)) := (Below.refl _ _).alloc (Nat.le_refl _) _
  have hBZ := Er.below_then hBc halc
  have hRZ := hRc.below halc
  have hAX4 : Hid (At (wc.alloc (.cells #[.int .i64 0, .int .i64 0, .int .i64 0, .int .i64 0, .int .i64 0, .string ⟨#[]⟩, .string ⟨#[]⟩, .int .u64 0, .int .i64 0, .int .i64 0, .int .i64 0, .int .i64 0] 46)) wa.heap.size 0 ⟨0, 1, 0, 0, 0, ⟨#[]⟩, ⟨#[]⟩, 0, 1, 0, 9, 0⟩) := hAX3.below halc hAX3.lt
  have hAY4 : Hid (At (wc.alloc (.cells #[.int .i64 0, .int .i64 0, .int .i64 0, .int .i64 0, .int .i64 0, .string ⟨#[]⟩, .string ⟨#[]⟩, .int .u64 0, .int .i64 0, .int .i64 0, .int .i64 0, .int .i64 0] 46)) wb.heap.size 0 ⟨0, 3, 0, 0, 0, ⟨#[]⟩, ⟨#[]⟩, 0, 2, 0, 5, 0⟩) := hAY3.below halc hAY3.lt
  have hL1 : Hid (At (wc.alloc (.cells #[.int .i64 0, .int .i64 0, .int .i64 0, .int .i64 0, .int .i64 0, .string ⟨#[]⟩, .string ⟨#[]⟩, .int .u64 0, .int .i64 0, .int .i64 0, .int .i64 0, .int .i64 0] 46)) w16.heap.size 12 ⟨0, 1, 0, 0, 0, ⟨#[]⟩, ⟨#[]⟩, 0, 1, 0, 9, 0⟩) := rd_one hRZ 1 (by decide)
  have hL2 : Hid (At (wc.alloc (.cells #[.int .i64 0, .int .i64 0, .int .i64 0, .int .i64 0, .int .i64 0, .string ⟨#[]⟩, .string ⟨#[]⟩, .int .u64 0, .int .i64 0, .int .i64 0, .int .i64 0, .int .i64 0] 46)) w16.heap.size 24 ⟨0, 3, 0, 0, 0, ⟨#[]⟩, ⟨#[]⟩, 0, 2, 0, 5, 0⟩) := rd_one hRZ 2 (by decide)
  clear hRc hAX3 hAY3 halc hBc hRZ
  go_wp2_with fail
  generalize wc.alloc (.cells #[.int .i64 0, .int .i64 0, .int .i64 0, .int .i64 0, .int .i64 0, .string ⟨#[]⟩, .string ⟨#[]⟩, .int .u64 0, .int .i64 0, .int .i64 0, .int .i64 0, .int .i64 0] 46) = WZ at *
  have x0 : WZ.cell? ⟨wa.heap.size, 0, none⟩ = some (.int .i64 0) := by have := hAX4.out 0 _ rfl; rwa [Nat.zero_add] at this
  have x1 : WZ.cell? ⟨wa.heap.size, 1, none⟩ = some (.int .i64 1) := by have := hAX4.out 1 _ rfl; rwa [Nat.zero_add] at this
  have x2 : WZ.cell? ⟨wa.heap.size, 2, none⟩ = some (.int .i64 0) := by have := hAX4.out 2 _ rfl; rwa [Nat.zero_add] at this
  have x3 : WZ.cell? ⟨wa.heap.size, 3, none⟩ = some (.int .i64 0) := by have := hAX4.out 3 _ rfl; rwa [Nat.zero_add] at this
  have x4 : WZ.cell? ⟨wa.heap.size, 4, none⟩ = some (.int .i64 0) := by have := hAX4.out 4 _ rfl; rwa [Nat.zero_add] at this
  have x5 : WZ.cell? ⟨wa.heap.size, 5, none⟩ = some (.string ⟨#[]⟩) := by have := hAX4.out 5 _ rfl; rwa [Nat.zero_add] at this
  have x6 : WZ.cell? ⟨wa.heap.size, 6, none⟩ = some (.string ⟨#[]⟩) := by have := hAX4.out 6 _ rfl; rwa [Nat.zero_add] at this
  have x7 : WZ.cell? ⟨wa.heap.size, 7, none⟩ = some (.int .u64 0) := by have := hAX4.out 7 _ rfl; rwa [Nat.zero_add] at this
  have x8 : WZ.cell? ⟨wa.heap.size, 8, none⟩ = some (.int .i64 1) := by have := hAX4.out 8 _ rfl; rwa [Nat.zero_add] at this
  have x9 : WZ.cell? ⟨wa.heap.size, 9, none⟩ = some (.int .i64 0) := by have := hAX4.out 9 _ rfl; rwa [Nat.zero_add] at this
  have x10 : WZ.cell? ⟨wa.heap.size, 10, none⟩ = some (.int .i64 9) := by have := hAX4.out 10 _ rfl; rwa [Nat.zero_add] at this
  have x11 : WZ.cell? ⟨wa.heap.size, 11, none⟩ = some (.int .i64 0) := by have := hAX4.out 11 _ rfl; rwa [Nat.zero_add] at this
  have y0 : WZ.cell? ⟨wb.heap.size, 0, none⟩ = some (.int .i64 0) := by have := hAY4.out 0 _ rfl; rwa [Nat.zero_add] at this
  have y1 : WZ.cell? ⟨wb.heap.size, 1, none⟩ = some (.int .i64 3) := by have := hAY4.out 1 _ rfl; rwa [Nat.zero_add] at this
  have y2 : WZ.cell? ⟨wb.heap.size, 2, none⟩ = some (.int .i64 0) := by have := hAY4.out 2 _ rfl; rwa [Nat.zero_add] at this
  have y3 : WZ.cell? ⟨wb.heap.size, 3, none⟩ = some (.int .i64 0) := by have := hAY4.out 3 _ rfl; rwa [Nat.zero_add] at this
  have y4 : WZ.cell? ⟨wb.heap.size, 4, none⟩ = some (.int .i64 0) := by have := hAY4.out 4 _ rfl; rwa [Nat.zero_add] at this
  have y5 : WZ.cell? ⟨wb.heap.size, 5, none⟩ = some (.string ⟨#[]⟩) := by have := hAY4.out 5 _ rfl; rwa [Nat.zero_add] at this
  have y6 : WZ.cell? ⟨wb.heap.size, 6, none⟩ = some (.string ⟨#[]⟩) := by have := hAY4.out 6 _ rfl; rwa [Nat.zero_add] at this
  have y7 : WZ.cell? ⟨wb.heap.size, 7, none⟩ = some (.int .u64 0) := by have := hAY4.out 7 _ rfl; rwa [Nat.zero_add] at this
  have y8 : WZ.cell? ⟨wb.heap.size, 8, none⟩ = some (.int .i64 2) := by have := hAY4.out 8 _ rfl; rwa [Nat.zero_add] at this
  have y9 : WZ.cell? ⟨wb.heap.size, 9, none⟩ = some (.int .i64 0) := by have := hAY4.out 9 _ rfl; rwa [Nat.zero_add] at this
  have y10 : WZ.cell? ⟨wb.heap.size, 10, none⟩ = some (.int .i64 5) := by have := hAY4.out 10 _ rfl; rwa [Nat.zero_add] at this
  have y11 : WZ.cell? ⟨wb.heap.size, 11, none⟩ = some (.int .i64 0) := by have := hAY4.out 11 _ rfl; rwa [Nat.zero_add] at this
  have p0 : WZ.cell? ⟨w16.heap.size, 12, none⟩ = some (.int .i64 0) := hL1.out 0 _ rfl
  have p1 : WZ.cell? ⟨w16.heap.size, 13, none⟩ = some (.int .i64 1) := hL1.out 1 _ rfl
  have p2 : WZ.cell? ⟨w16.heap.size, 14, none⟩ = some (.int .i64 0) := hL1.out 2 _ rfl
  have p3 : WZ.cell? ⟨w16.heap.size, 15, none⟩ = some (.int .i64 0) := hL1.out 3 _ rfl
  have p4 : WZ.cell? ⟨w16.heap.size, 16, none⟩ = some (.int .i64 0) := hL1.out 4 _ rfl
  have p5 : WZ.cell? ⟨w16.heap.size, 17, none⟩ = some (.string ⟨#[]⟩) := hL1.out 5 _ rfl
  have p6 : WZ.cell? ⟨w16.heap.size, 18, none⟩ = some (.string ⟨#[]⟩) := hL1.out 6 _ rfl
  have p7 : WZ.cell? ⟨w16.heap.size, 19, none⟩ = some (.int .u64 0) := hL1.out 7 _ rfl
  have p8 : WZ.cell? ⟨w16.heap.size, 20, none⟩ = some (.int .i64 1) := hL1.out 8 _ rfl
  have p9 : WZ.cell? ⟨w16.heap.size, 21, none⟩ = some (.int .i64 0) := hL1.out 9 _ rfl
  have p10 : WZ.cell? ⟨w16.heap.size, 22, none⟩ = some (.int .i64 9) := hL1.out 10 _ rfl
  have p11 : WZ.cell? ⟨w16.heap.size, 23, none⟩ = some (.int .i64 0) := hL1.out 11 _ rfl
  have q0 : WZ.cell? ⟨w16.heap.size, 24, none⟩ = some (.int .i64 0) := hL2.out 0 _ rfl
  have q1 : WZ.cell? ⟨w16.heap.size, 25, none⟩ = some (.int .i64 3) := hL2.out 1 _ rfl
  have q2 : WZ.cell? ⟨w16.heap.size, 26, none⟩ = some (.int .i64 0) := hL2.out 2 _ rfl
  have q3 : WZ.cell? ⟨w16.heap.size, 27, none⟩ = some (.int .i64 0) := hL2.out 3 _ rfl
  have q4 : WZ.cell? ⟨w16.heap.size, 28, none⟩ = some (.int .i64 0) := hL2.out 4 _ rfl
  have q5 : WZ.cell? ⟨w16.heap.size, 29, none⟩ = some (.string ⟨#[]⟩) := hL2.out 5 _ rfl
  have q6 : WZ.cell? ⟨w16.heap.size, 30, none⟩ = some (.string ⟨#[]⟩) := hL2.out 6 _ rfl
  have q7 : WZ.cell? ⟨w16.heap.size, 31, none⟩ = some (.int .u64 0) := hL2.out 7 _ rfl
  have q8 : WZ.cell? ⟨w16.heap.size, 32, none⟩ = some (.int .i64 2) := hL2.out 8 _ rfl
  have q9 : WZ.cell? ⟨w16.heap.size, 33, none⟩ = some (.int .i64 0) := hL2.out 9 _ rfl
  have q10 : WZ.cell? ⟨w16.heap.size, 34, none⟩ = some (.int .i64 5) := hL2.out 10 _ rfl
  have q11 : WZ.cell? ⟨w16.heap.size, 35, none⟩ = some (.int .i64 0) := hL2.out 11 _ rfl
  clear hAX4 hAY4 hL1 hL2
  go_quiet (fail)
  go_wp2
  go_ret
  exact ⟨rfl, below_dn hBZ _⟩
end Lv
end Go.Proofs.YtfhnfejghngoeaaDoor
