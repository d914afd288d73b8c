/- Lists of sessions that were lent are looked at again; the walk of LevelBest. -/
import Derived.Test.YtfhnfejghngoeaaLents
import Derived.Test.YtfhnfejghngoeaaRefB
namespace Go.Proofs.Ytfhnfejghngoeaa
set_option linter.ambiguousOpen false
open Go.RowKit
namespace Lv
set_option linter.unusedSimpArgs false
set_option linter.unusedVariables false

set_option maxRecDepth 100000 in
set_option maxHeartbeats 8000000 in
theorem keptFull_any (v : Value) (l : List Ses) (g cap base : Nat) (w : World) (hR : RdS w v l) (hl : l.length * 112 ≤ 140737488351232) (hcap : l.length + 16 ≤ cap) (hcm : cap ≤ maxLen)
    (hown : w.ownsRow base 28 12 (.slice (some ⟨g, 0, none⟩) (l.length + 16) cap) (l.length + 16) ((l ++ mks 16).flatMap Ses.cells)) :
    Calls Try.prog 12 #[.slice (some ⟨g, 0, none⟩) (l.length + 16) cap, v] w fun e w' => e = .returned (.bool true) ∧ Below w.heap.size w w' := by
  have HX : Hid (∀ j, j < l.length → At w g (j * 12) (nth l j)) := fun j hj => by
    have := own_at hown j (by rw [List.length_append, mks_len]; omega)
    rw [List.getElem_append_left hj, ← nth_eq hj] at this
    exact this
  have HY : Hid (∀ j, j < 16 → At w g ((l.length + j) * 12) (mkS j)) := fun j hj => by
    have := own_at hown (l.length + j) (by rw [List.length_append, mks_len]; omega)
    rw [List.getElem_append_right (by omega)] at this
    simpa [mks] using this
  obtain ⟨a, cap0, rfl, hc, hm, hcell⟩ := hR
  unfold maxLen at hm hcm
  have HC : Hid (0 < l.length → ∃ g o, a = some ⟨g, o, none⟩ ∧ ∀ j (hj : j < l.length), At w g (o + j * 12) l[j]) := hcell
  clear hcell hown
  have hlen : (((l.length + 16 : Nat) : Int) != (l.length : Int) + 16) = false := by rw [bne_eq_false_iff_eq]; omega
  go_enter Try.func12, Try.ntmps12
  go_wp2
  go_loopw [5] (fun iv wr => ∃ k : Nat, k ≤ l.length + 16 ∧ iv = .int .i64 k ∧ Below w.heap.size w wr) (fun iv _ => l.length + 16 - (intOf iv).toNat)
  case atStart => exact ⟨0, Nat.zero_le _, rfl, Below.refl _ _⟩
  case round =>
    obtain ⟨k, hk, rfl, hbel⟩ := hrel
    by_cases hp : k < l.length + 16
    · by_cases hq : k < l.length
      · obtain ⟨g2, o2, rfl, hcj⟩ := HC.out (Nat.lt_of_le_of_lt (Nat.zero_le _) hq)
        have cm := mark_any ((k : Int) - (l.length : Int)) (by omega) (by omega) wr
        have hA1 : Hid (At w g2 (o2 + k * 12) (nth l k)) := by
          show At _ _ _ _
          rw [nth_eq hq]; exact hcj k hq
        have hA2 : Hid (At w g (k * 12) (nth l k)) := HX.out k hq
        clear hcj
        generalize nth l k = x at *
        obtain ⟨f0, f1, f2, f3, f4, f5, f6, f7, f8, f9, f10, f11⟩ := x
        generalize mkS ((k : Int) - (l.length : Int)) = ms at *
        obtain ⟨m0, m1, m2, m3, m4, m5, m6, m7, m8, m9, m10, m11⟩ := ms
        simp only [Ses.arr] at cm
        go_wp2_with fail
        refine cm.mono ?_
        rintro e w3 ⟨rfl, hb3⟩
        have hbel3 := hbel.trans (hb3.mono hbel.size)
        have hB1 := hA1.out.below hbel3 hA1.out.lt
        have p0 : w3.cell? ⟨g2, o2 + k * 12, none⟩ = some (.int .i64 f0) := hB1 0 _ rfl
        have p1 := hB1 1 _ rfl
        have p2 := hB1 2 _ rfl
        have p3 := hB1 3 _ rfl
        have p4 := hB1 4 _ rfl
        have p5 := hB1 5 _ rfl
        have p6 := hB1 6 _ rfl
        have p7 := hB1 7 _ rfl
        have p8 := hB1 8 _ rfl
        have p9 := hB1 9 _ rfl
        have p10 := hB1 10 _ rfl
        have p11 := hB1 11 _ rfl
        have hg1 := hB1.lt
        clear hb3 hB1
        go_wp2_with fail
        have hbel4 : Below w.heap.size w (w3.alloc (.cells #[.int .i64 f0, .int .i64 f1, .int .i64 f2, .int .i64 f3, .int .i64 f4, .string f5, .string f6, .int .u64 f7, .int .i64 f8, .int .i64 f9, .int .i64 f10, .int .i64 f11] 28)) := hbel3.alloc hbel3.size _
        have hN : At (w3.alloc (.cells #[.int .i64 f0, .int .i64 f1, .int .i64 f2, .int .i64 f3, .int .i64 f4, .string f5, .string f6, .int .u64 f7, .int .i64 f8, .int .i64 f9, .int .i64 f10, .int .i64 f11] 28)) w3.heap.size 0 ⟨f0, f1, f2, f3, f4, f5, f6, f7, f8, f9, f10, f11⟩ := at_block (heap_alloc_new w3 _)
        have hO : At (w3.alloc (.cells #[.int .i64 f0, .int .i64 f1, .int .i64 f2, .int .i64 f3, .int .i64 f4, .string f5, .string f6, .int .u64 f7, .int .i64 f8, .int .i64 f9, .int .i64 f10, .int .i64 f11] 28)) g (k * 12) ⟨f0, f1, f2, f3, f4, f5, f6, f7, f8, f9, f10, f11⟩ := hA2.out.below hbel4 hA2.out.lt
        generalize w3.alloc (.cells #[.int .i64 f0, .int .i64 f1, .int .i64 f2, .int .i64 f3, .int .i64 f4, .string f5, .string f6, .int .u64 f7, .int .i64 f8, .int .i64 f9, .int .i64 f10, .int .i64 f11] 28) = w4 at *
        have q0 : w4.cell? ⟨g, k * 12, none⟩ = some (.int .i64 f0) := hO 0 _ rfl
        have q1 := hO 1 _ rfl
        have q2 := hO 2 _ rfl
        have q3 := hO 3 _ rfl
        have q4 := hO 4 _ rfl
        have q5 := hO 5 _ rfl
        have q6 := hO 6 _ rfl
        have q7 := hO 7 _ rfl
        have q8 := hO 8 _ rfl
        have q9 := hO 9 _ rfl
        have q10 := hO 10 _ rfl
        have q11 := hO 11 _ rfl
        have n0 : w4.cell? ⟨w3.heap.size, 0, none⟩ = some (.int .i64 f0) := hN 0 _ rfl
        have n1 := hN 1 _ rfl
        have n2 := hN 2 _ rfl
        have n3 := hN 3 _ rfl
        have n4 := hN 4 _ rfl
        have n5 := hN 5 _ rfl
        have n6 := hN 6 _ rfl
        have n7 := hN 7 _ rfl
        have n8 := hN 8 _ rfl
        have n9 := hN 9 _ rfl
        have n10 := hN 10 _ rfl
        have n11 := hN 11 _ rfl
        clear p0 p1 p2 p3 p4 p5 p6 p7 p8 p9 p10 p11 hg1 cm hA1
        clear hN hO
        go_quiet (fail)
        go_wp2
        go_roundw
        case rel => exact ⟨k + 1, by omega, by go_num, below_dn hbel4 _⟩
        case measure => simp [intOf]; omega
      · obtain ⟨j, rfl⟩ : ∃ j, k = l.length + j := ⟨k - l.length, by omega⟩
        have cm := mark_any ((l.length : Int) + (j : Int) - (l.length : Int)) (by omega) (by omega) wr
        have j16 : (j : Int) < 16 := by omega
        have hA2 : Hid (At w g ((l.length + j) * 12) (mkS j)) := HY.out j (by omega)
        rw [show mkS ((l.length : Int) + (j : Int) - (l.length : Int)) = mkS (j : Int) by congr 1; omega] at cm
        generalize mkS (j : Int) = ms at *
        obtain ⟨m0, m1, m2, m3, m4, m5, m6, m7, m8, m9, m10, m11⟩ := ms
        simp only [Ses.arr] at cm
        go_wp2_with fail
        refine cm.mono ?_
        rintro e w3 ⟨rfl, hb3⟩
        have hbel3 := hbel.trans (hb3.mono hbel.size)
        clear hb3
        go_wp2_with fail
        have hbel4 : Below w.heap.size w (w3.alloc (.cells #[.int .i64 m0, .int .i64 m1, .int .i64 m2, .int .i64 m3, .int .i64 m4, .string m5, .string m6, .int .u64 m7, .int .i64 m8, .int .i64 m9, .int .i64 m10, .int .i64 m11] 28)) := hbel3.alloc hbel3.size _
        have hN : At (w3.alloc (.cells #[.int .i64 m0, .int .i64 m1, .int .i64 m2, .int .i64 m3, .int .i64 m4, .string m5, .string m6, .int .u64 m7, .int .i64 m8, .int .i64 m9, .int .i64 m10, .int .i64 m11] 28)) w3.heap.size 0 ⟨m0, m1, m2, m3, m4, m5, m6, m7, m8, m9, m10, m11⟩ := at_block (heap_alloc_new w3 _)
        have hO : At (w3.alloc (.cells #[.int .i64 m0, .int .i64 m1, .int .i64 m2, .int .i64 m3, .int .i64 m4, .string m5, .string m6, .int .u64 m7, .int .i64 m8, .int .i64 m9, .int .i64 m10, .int .i64 m11] 28)) g ((l.length + j) * 12) ⟨m0, m1, m2, m3, m4, m5, m6, m7, m8, m9, m10, m11⟩ := hA2.out.below hbel4 hA2.out.lt
        generalize w3.alloc (.cells #[.int .i64 m0, .int .i64 m1, .int .i64 m2, .int .i64 m3, .int .i64 m4, .string m5, .string m6, .int .u64 m7, .int .i64 m8, .int .i64 m9, .int .i64 m10, .int .i64 m11] 28) = w4 at *
        have q0 : w4.cell? ⟨g, (l.length + j) * 12, none⟩ = some (.int .i64 m0) := hO 0 _ rfl
        have q1 := hO 1 _ rfl
        have q2 := hO 2 _ rfl
        have q3 := hO 3 _ rfl
        have q4 := hO 4 _ rfl
        have q5 := hO 5 _ rfl
        have q6 := hO 6 _ rfl
        have q7 := hO 7 _ rfl
        have q8 := hO 8 _ rfl
        have q9 := hO 9 _ rfl
        have q10 := hO 10 _ rfl
        have q11 := hO 11 _ rfl
        have n0 : w4.cell? ⟨w3.heap.size, 0, none⟩ = some (.int .i64 m0) := hN 0 _ rfl
        have n1 := hN 1 _ rfl
        have n2 := hN 2 _ rfl
        have n3 := hN 3 _ rfl
        have n4 := hN 4 _ rfl
        have n5 := hN 5 _ rfl
        have n6 := hN 6 _ rfl
        have n7 := hN 7 _ rfl
        have n8 := hN 8 _ rfl
        have n9 := hN 9 _ rfl
        have n10 := hN 10 _ rfl
        have n11 := hN 11 _ rfl
        clear hN hO
        go_quiet (fail)
        go_wp2
        go_roundw
        case rel => exact ⟨l.length + j + 1, by omega, by go_num, below_dn hbel4 _⟩
        case measure => simp [intOf]; omega
    · obtain rfl : k = l.length + 16 := by omega
      go_wp2
      go_ret
      exact ⟨rfl, hbel⟩
set_option maxRecDepth 100000 in
set_option maxHeartbeats 1000000 in
theorem kept_any (v : Value) (l : List Ses) (g cap base : Nat) (w : World) (hR : RdS w v l) (hl : l.length * 112 ≤ 140737488351232) (hcap : l.length + 16 ≤ cap) (hcm : cap ≤ maxLen)
    (hown : w.ownsRow base 28 12 (.slice (some ⟨g, 0, none⟩) (l.length + 16) cap) (l.length + 16) ((l ++ mks 16).flatMap Ses.cells)) :
    Calls Try.prog 7 #[.slice (some ⟨g, 0, none⟩) l.length cap, v] w fun e w' => e = .returned (.bool true) ∧ Below w.heap.size w w' := by
  have c := keptFull_any v l g cap base w hR hl hcap hcm hown
  obtain ⟨a, cap0, rfl, hc, hm, hcell⟩ := hR
  unfold maxLen at hm hcm
  clear hcell hown
  have hn : ((l.length : Int) + 16).toNat = l.length + 16 := by omega
  go_enter Try.func7, Try.ntmps7
  go_wp2_with (first | (simp only [hn]) | fail)
  refine c.mono ?_
  rintro e w1 ⟨rfl, hb⟩
  go_wp2
  go_ret
  exact ⟨rfl, hb⟩

theorem rd_lent {w : World} {base g cap : Nat} {l : List Ses} (hown : w.ownsRow base 28 12 (.slice (some ⟨g, 0, none⟩) (l.length + 16) cap) (l.length + 16) ((l ++ mks 16).flatMap Ses.cells)) (hcap : l.length + 16 ≤ cap) (hcm : cap ≤ maxLen) :
    RdS w (.slice (some ⟨g, 0, none⟩) l.length cap) l := by
  refine ⟨_, cap, rfl, by omega, hcm, fun _ => ⟨g, 0, rfl, fun j hj => ?_⟩⟩
  have := own_at hown j (by rw [List.length_append, mks_len]; omega)
  rw [List.getElem_append_left hj] at this
  rw [Nat.zero_add]
  exact this

set_option maxRecDepth 100000 in
set_option maxHeartbeats 4000000 in
theorem levelBest_walk (v : Value) (l : List Ses) (now : Int) (w : World) (hR : RdS w v l) (hf : ∀ s ∈ l, s.fits) (hl : l.length * 112 ≤ 140737488351232) (hn : -9223372036854775808 ≤ now ∧ now ≤ 9223372036854775807) :
    Calls Try.prog 3 #[v, .int .i64 now] w fun e w' => e = .returned (.bool true) ∧ Below w.heap.size w w' := by
  have HR : Hid (RdS w v l) := hR
  have HF : Hid (∀ s ∈ l, s.fits) := hf
  have c1 := rbest_any v l now w hR
  have CL : Hid (∀ w1, Below w.heap.size w w1 → Calls Try.prog 5 #[v] w1 fun e w' => ∃ g cap, e = .returned (.slice (some ⟨g, 0, none⟩) l.length cap) ∧ l.length + 16 ≤ cap ∧ cap ≤ maxLen ∧ w'.ownsRow w1.heap.size 28 12 (.slice (some ⟨g, 0, none⟩) (l.length + 16) cap) (l.length + 16) ((l ++ mks 16).flatMap Ses.cells) ∧ Below w1.heap.size w1 w') := fun w1 h1 => lent_any v l w1 (HR.out.below h1) hl
  have CB : Hid (∀ v1 w1, RdS w1 v1 l → Calls Try.prog 6 #[v1, .int .i64 now] w1 fun e w' => e = .returned (.tuple #[.agg (bestS l now).arr, .bool (bestB l now)]) ∧ Below w1.heap.size w1 w') := fun v1 w1 h1 => best_any v1 l now w1 h1 HF.out
  have HL : Hid (l.length * 112 ≤ 140737488351232) := hl
  clear hR hf hl
  generalize bestS l now = x at *
  generalize bestB l now = bb at *
  obtain ⟨f0, f1, f2, f3, f4, f5, f6, f7, f8, f9, f10, f11⟩ := x
  simp only [Ses.arr] at c1 CB
  go_enter Try.func3, Try.ntmps3
  go_wp2_with fail
  refine c1.mono ?_
  rintro e w1 ⟨rfl, hb1⟩
  have hB1 : Below w.heap.size w (w1.alloc (.cells #[.int .i64 f0, .int .i64 f1, .int .i64 f2, .int .i64 f3, .int .i64 f4, .string f5, .string f6, .int .u64 f7, .int .i64 f8, .int .i64 f9, .int .i64 f10, .int .i64 f11] 28)) := hb1.alloc hb1.size _
  have hA1 : Hid (At (w1.alloc (.cells #[.int .i64 f0, .int .i64 f1, .int .i64 f2, .int .i64 f3, .int .i64 f4, .string f5, .string f6, .int .u64 f7, .int .i64 f8, .int .i64 f9, .int .i64 f10, .int .i64 f11] 28)) w1.heap.size 0 ⟨f0, f1, f2, f3, f4, f5, f6, f7, f8, f9, f10, f11⟩) := at_block (heap_alloc_new w1 _)
  go_wp2_with fail
  generalize w1.alloc (.cells #[.int .i64 f0, .int .i64 f1, .int .i64 f2, .int .i64 f3, .int .i64 f4, .string f5, .string f6, .int .u64 f7, .int .i64 f8, .int .i64 f9, .int .i64 f10, .int .i64 f11] 28) = W1 at *
  refine (CL.out W1 hB1).mono ?_
  rintro e w2 ⟨g, cap, rfl, hcap, hcm, hown, hb2⟩
  have HO2 : Hid (w2.ownsRow W1.heap.size 28 12 (.slice (some ⟨g, 0, none⟩) (l.length + 16) cap) (l.length + 16) ((l ++ mks 16).flatMap Ses.cells)) := hown
  have hB2 := hB1.trans (hb2.mono hB1.size)
  have hA2 : Hid (At w2 w1.heap.size 0 ⟨f0, f1, f2, f3, f4, f5, f6, f7, f8, f9, f10, f11⟩) := hA1.out.below hb2 hA1.out.lt
  clear hown hb2 hA1
  go_wp2_with fail
  refine (CB.out _ w2 (rd_lent HO2.out hcap hcm)).mono ?_
  rintro e w3 ⟨rfl, hb3⟩
  have hB3 := hB2.trans (hb3.mono hB2.size)
  have hA3 : Hid (At w3 w1.heap.size 0 ⟨f0, f1, f2, f3, f4, f5, f6, f7, f8, f9, f10, f11⟩) := hA2.out.below hb3 hA2.out.lt
  have HO3 : Hid (w3.ownsRow W1.heap.size 28 12 (.slice (some ⟨g, 0, none⟩) (l.length + 16) cap) (l.length + 16) ((l ++ mks 16).flatMap Ses.cells)) := own_kept HO2.out hb3
  clear HO2 hA2 hb3
  have hal : Below w3.heap.size w3 (w3.alloc (.cells #[.int .i64 f0, .int .i64 f1, .int .i64 f2, .int .i64 f3, .int .i64 f4, .string f5, .string f6, .int .u64 f7, .int .i64 f8, .int .i64 f9, .int .i64 f10, .int .i64 f11] 28)) := (Below.refl _ _).alloc (Nat.le_refl _) _
  have HO4 : Hid ((w3.alloc (.cells #[.int .i64 f0, .int .i64 f1, .int .i64 f2, .int .i64 f3, .int .i64 f4, .string f5, .string f6, .int .u64 f7, .int .i64 f8, .int .i64 f9, .int .i64 f10, .int .i64 f11] 28)).ownsRow W1.heap.size 28 12 (.slice (some ⟨g, 0, none⟩) (l.length + 16) cap) (l.length + 16) ((l ++ mks 16).flatMap Ses.cells)) := own_kept HO3.out hal
  have hA4 := hA3.out.below hal hA3.out.lt
  have hN4 : At (w3.alloc (.cells #[.int .i64 f0, .int .i64 f1, .int .i64 f2, .int .i64 f3, .int .i64 f4, .string f5, .string f6, .int .u64 f7, .int .i64 f8, .int .i64 f9, .int .i64 f10, .int .i64 f11] 28)) w3.heap.size 0 ⟨f0, f1, f2, f3, f4, f5, f6, f7, f8, f9, f10, f11⟩ := at_block (heap_alloc_new w3 _)
  have hB4 := hB3.trans (hal.mono hB3.size)
  have CK : Hid (Calls Try.prog 7 #[.slice (some ⟨g, 0, none⟩) l.length cap, v] (w3.alloc (.cells #[.int .i64 f0, .int .i64 f1, .int .i64 f2, .int .i64 f3, .int .i64 f4, .string f5, .string f6, .int .u64 f7, .int .i64 f8, .int .i64 f9, .int .i64 f10, .int .i64 f11] 28)) fun e w' => e = .returned (.bool true) ∧ Below (w3.alloc (.cells #[.int .i64 f0, .int .i64 f1, .int .i64 f2, .int .i64 f3, .int .i64 f4, .string f5, .string f6, .int .u64 f7, .int .i64 f8, .int .i64 f9, .int .i64 f10, .int .i64 f11] 28)).heap.size (w3.alloc (.cells #[.int .i64 f0, .int .i64 f1, .int .i64 f2, .int .i64 f3, .int .i64 f4, .string f5, .string f6, .int .u64 f7, .int .i64 f8, .int .i64 f9, .int .i64 f10, .int .i64 f11] 28)) w') := kept_any v l g cap W1.heap.size _ (HR.out.below hB4) HL.out hcap hcm HO4.out
  have q0 : (w3.alloc (.cells #[.int .i64 f0, .int .i64 f1, .int .i64 f2, .int .i64 f3, .int .i64 f4, .string f5, .string f6, .int .u64 f7, .int .i64 f8, .int .i64 f9, .int .i64 f10, .int .i64 f11] 28)).cell? ⟨w1.heap.size, 0, none⟩ = some (.int .i64 f0) := hA4 0 _ rfl
  have q1 := hA4 1 _ rfl
  have q2 := hA4 2 _ rfl
  have q3 := hA4 3 _ rfl
  have q4 := hA4 4 _ rfl
  have q5 := hA4 5 _ rfl
  have q6 := hA4 6 _ rfl
  have q7 := hA4 7 _ rfl
  have q8 := hA4 8 _ rfl
  have q9 := hA4 9 _ rfl
  have q10 := hA4 10 _ rfl
  have q11 := hA4 11 _ rfl
  have hlt := hA3.out.lt
  clear hA4 hN4 hal HO3 HO4
  go_wp2_with fail
  refine CK.out.mono ?_
  rintro e w5 ⟨rfl, hb5⟩
  go_wp2
  go_ret
  exact ⟨ret_b (by simp), hB4.trans (hb5.mono hB4.size)⟩
end Lv
end Go.Proofs.Ytfhnfejghngoeaa
