/- The walks of LevelMost, one a case. -/
import Derived.Test.YtfhnfejghngoeaaDoorAmong
import Derived.Test.YtfhnfejghngoeaaDoorRows3
namespace Go.Proofs.YtfhnfejghngoeaaDoor
set_option linter.ambiguousOpen false
open Go.RowKit
namespace Lv
set_option linter.unusedSimpArgs false
set_option linter.unusedVariables false

set_option maxRecDepth 100000 in
set_option maxHeartbeats 8000000 in
theorem most_TFx (va vb : Value) (la lb : List Ses) (now : Int) (f0 f1 f2 f3 f4 : Int) (f5 f6 : ByteArray) (f7 f8 f9 f10 f11 : Int) (b0 b1 b2 b3 b4 : Int) (b5 b6 : ByteArray) (b7 b8 b9 b10 b11 : Int) (w : World) (hN : NamesG w) (hRa : RdS w va la) (hRb : RdS w vb lb) (hna : ∀ m c, va = .slice none m c → c = 0) (hnb : ∀ m c, vb = .slice none m c → c = 0) (hla : la.length ≤ 1000) (hlb : lb.length ≤ 1000) (hlive : now < f10) (hmost : ∀ j, j < la.length → now < (nth la j).deadline → (nth la j).level ≤ f8) (cAm : ∀ w1, Below w.heap.size w w1 → Calls Tryd.prog 19 #[va, .agg #[.int .i64 f0, .int .i64 f1, .int .i64 f2, .int .i64 f3, .int .i64 f4, .string f5, .string f6, .int .u64 f7, .int .i64 f8, .int .i64 f9, .int .i64 f10, .int .i64 f11]] w1 fun e w' => e = .returned (.bool true) ∧ Below w1.heap.size w1 w') (cBa : ∀ w1, Below w.heap.size w w1 → Calls Tryd.prog 18 #[va, .int .i64 now] w1 fun e w' => e = .returned (.tuple #[.agg #[.int .i64 f0, .int .i64 f1, .int .i64 f2, .int .i64 f3, .int .i64 f4, .string f5, .string f6, .int .u64 f7, .int .i64 f8, .int .i64 f9, .int .i64 f10, .int .i64 f11], .bool true]) ∧ Below w1.heap.size w1 w') (cBb : ∀ w1, Below w.heap.size w w1 → Calls Tryd.prog 18 #[vb, .int .i64 now] w1 fun e w' => e = .returned (.tuple #[.agg #[.int .i64 b0, .int .i64 b1, .int .i64 b2, .int .i64 b3, .int .i64 b4, .string b5, .string b6, .int .u64 b7, .int .i64 b8, .int .i64 b9, .int .i64 b10, .int .i64 b11], .bool false]) ∧ Below w1.heap.size w1 w') (cBz : ∀ v1 w1, RdS w1 v1 (la ++ lb) → Calls Tryd.prog 18 #[v1, .int .i64 now] w1 fun e w' => e = .returned (.tuple #[.agg #[.int .i64 f0, .int .i64 f1, .int .i64 f2, .int .i64 f3, .int .i64 f4, .string f5, .string f6, .int .u64 f7, .int .i64 f8, .int .i64 f9, .int .i64 f10, .int .i64 f11], .bool true]) ∧ Below w1.heap.size w1 w') (cBt : ∀ v1 w1, RdS w1 v1 (la ++ la) → Calls Tryd.prog 18 #[v1, .int .i64 now] w1 fun e w' => e = .returned (.tuple #[.agg #[.int .i64 f0, .int .i64 f1, .int .i64 f2, .int .i64 f3, .int .i64 f4, .string f5, .string f6, .int .u64 f7, .int .i64 f8, .int .i64 f9, .int .i64 f10, .int .i64 f11], .bool true]) ∧ Below w1.heap.size w1 w') :
    Calls Tryd.prog 6 #[va, vb, .int .i64 now] w fun e w' => e = .returned (.bool true) ∧ Below w.heap.size w w' := by
  have HN : Hid (NamesG w) := hN
  have HRa : Hid (RdS w va la) := hRa
  have HRb : Hid (RdS w vb lb) := hRb
  have HNa : Hid (∀ m c, va = .slice none m c → c = 0) := hna
  have HNb : Hid (∀ m c, vb = .slice none m c → c = 0) := hnb
  have H_hmost : Hid _ := hmost
  have H_cAm : Hid _ := cAm
  have H_cBa : Hid _ := cBa
  have H_cBb : Hid _ := cBb
  have H_cBz : Hid _ := cBz
  have H_cBt : Hid _ := cBt
  clear hN hna hnb hmost cAm cBa cBb cBz cBt
  obtain ⟨aA, capA, eA, hcA, hmA, hcellA⟩ := hRa
  obtain ⟨aB, capB, eB, hcB, hmB, hcellB⟩ := hRb
  unfold maxLen at hmA hmB
  have HC : Hid (0 < la.length → ∃ g o, aA = some ⟨g, o, none⟩ ∧ ∀ j (hj : j < la.length), At w g (o + j * 12) la[j]) := hcellA
  clear hcellA hcellB
  have la1 : ¬ (1000 : Int) < (la.length : Int) := by omega
  have lb1 : ¬ (1000 : Int) < (lb.length : Int) := by omega
  subst eA eB
  go_enter Tryd.func6, Tryd.ntmps6
  go_wp2_with fail
  refine (works_any w HN.out).mono ?_
  rintro e w1 ⟨rfl, hB1⟩
  go_wp2_with fail
  refine (H_cBa.out w1 hB1).mono ?_
  rintro e w2 ⟨rfl, hb2⟩
  have hB2 := hB1.trans (hb2.mono hB1.size)
  have hBX : Below w.heap.size w (w2.alloc (.cells #[.int .i64 f0, .int .i64 f1, .int .i64 f2, .int .i64 f3, .int .i64 f4, .string f5, .string f6, .int .u64 f7, .int .i64 f8, .int .i64 f9, .int .i64 f10, .int .i64 f11] 46)) := hB2.alloc hB2.size _
  have hAX : Hid (At (w2.alloc (.cells #[.int .i64 f0, .int .i64 f1, .int .i64 f2, .int .i64 f3, .int .i64 f4, .string f5, .string f6, .int .u64 f7, .int .i64 f8, .int .i64 f9, .int .i64 f10, .int .i64 f11] 46)) w2.heap.size 0 ⟨f0, f1, f2, f3, f4, f5, f6, f7, f8, f9, f10, f11⟩) := at_block (heap_alloc_new w2 _)
  clear hb2 hB1
  go_wp2_with fail
  generalize w2.alloc (.cells #[.int .i64 f0, .int .i64 f1, .int .i64 f2, .int .i64 f3, .int .i64 f4, .string f5, .string f6, .int .u64 f7, .int .i64 f8, .int .i64 f9, .int .i64 f10, .int .i64 f11] 46) = WX at *
  go_loopw [9] (fun iv wr => ∃ k : Nat, k ≤ la.length ∧ iv = .int .i64 k ∧ Hid (At wr w2.heap.size 0 ⟨f0, f1, f2, f3, f4, f5, f6, f7, f8, f9, f10, f11⟩) ∧ Below w.heap.size w wr) (fun iv _ => la.length - (intOf iv).toNat)
  case atStart => exact ⟨0, Nat.zero_le _, rfl, hAX, hBX⟩
  case round =>
    clear hAX hBX hB2
    obtain ⟨k, hk, rfl, hAX, hBX⟩ := hrel
    by_cases hp : k < la.length
    · obtain ⟨g, o, rfl, hcj⟩ := HC.out (Nat.lt_of_le_of_lt (Nat.zero_le _) hp)
      have hAk : Hid (At wr g (o + k * 12) (nth la k)) := by
        show At _ _ _ _
        rw [nth_eq hp]; exact (hcj k hp).below hBX (hcj k hp).lt
      have d10 := hAk.out 10 _ rfl
      have d8 := hAk.out 8 _ rfl
      have x8 : wr.cell? ⟨w2.heap.size, 8, none⟩ = some (.int .i64 f8) := by have := hAX.out 8 _ rfl; rwa [Nat.zero_add] at this
      by_cases hd : (nth la k).deadline ≤ now
      · have hd' : decide (now < (nth la k).deadline) = false := by simpa using hd
        clear hcj hd
        generalize (nth la k).deadline = d at *
        generalize (nth la k).level = lv at *
        go_wp2_with fail
        go_quiet (fail)
        go_wp2
        go_roundw
        case rel => exact ⟨k + 1, by omega, by go_num, hAX, below_dn hBX _⟩
        case measure => simp [intOf]; omega
      · have hd' : decide (now < (nth la k).deadline) = true := by simpa using hd
        have hl' : decide (f8 < (nth la k).level) = false := by have := H_hmost.out k hp (by omega); simpa using this
        clear hcj hd
        generalize (nth la k).deadline = d at *
        generalize (nth la k).level = lv at *
        go_wp2_with fail
        go_quiet (fail)
        go_wp2
        go_roundw
        case rel => exact ⟨k + 1, by omega, by go_num, hAX, below_dn hBX _⟩
        case measure => simp [intOf]; omega
    · obtain rfl : k = la.length := by omega
      have x0 : wr.cell? ⟨w2.heap.size, 0, none⟩ = some (.int .i64 f0) := hAX.out 0 _ rfl
      have x1 : wr.cell? ⟨w2.heap.size, 1, none⟩ = some (.int .i64 f1) := by have := hAX.out 1 _ rfl; rwa [Nat.zero_add] at this
      have x2 : wr.cell? ⟨w2.heap.size, 2, none⟩ = some (.int .i64 f2) := by have := hAX.out 2 _ rfl; rwa [Nat.zero_add] at this
      have x3 : wr.cell? ⟨w2.heap.size, 3, none⟩ = some (.int .i64 f3) := by have := hAX.out 3 _ rfl; rwa [Nat.zero_add] at this
      have x4 : wr.cell? ⟨w2.heap.size, 4, none⟩ = some (.int .i64 f4) := by have := hAX.out 4 _ rfl; rwa [Nat.zero_add] at this
      have x5 : wr.cell? ⟨w2.heap.size, 5, none⟩ = some (.string f5) := by have := hAX.out 5 _ rfl; rwa [Nat.zero_add] at this
      have x6 : wr.cell? ⟨w2.heap.size, 6, none⟩ = some (.string f6) := by have := hAX.out 6 _ rfl; rwa [Nat.zero_add] at this
      have x7 : wr.cell? ⟨w2.heap.size, 7, none⟩ = some (.int .u64 f7) := by have := hAX.out 7 _ rfl; rwa [Nat.zero_add] at this
      have x8 : wr.cell? ⟨w2.heap.size, 8, none⟩ = some (.int .i64 f8) := by have := hAX.out 8 _ rfl; rwa [Nat.zero_add] at this
      have x9 : wr.cell? ⟨w2.heap.size, 9, none⟩ = some (.int .i64 f9) := by have := hAX.out 9 _ rfl; rwa [Nat.zero_add] at this
      have x10 : wr.cell? ⟨w2.heap.size, 10, none⟩ = some (.int .i64 f10) := by have := hAX.out 10 _ rfl; rwa [Nat.zero_add] at this
      have x11 : wr.cell? ⟨w2.heap.size, 11, none⟩ = some (.int .i64 f11) := by have := hAX.out 11 _ rfl; rwa [Nat.zero_add] at this
      go_wp2_with fail
      refine (H_cAm.out wr hBX).mono ?_
      rintro e w3 ⟨rfl, hb3⟩
      have hB3 := hBX.trans (hb3.mono hBX.size)
      have hAX3 : Hid (At w3 w2.heap.size 0 ⟨f0, f1, f2, f3, f4, f5, f6, f7, f8, f9, f10, f11⟩) := hAX.out.below hb3 hAX.out.lt
      clear hb3 hBX hAX x0 x1 x2 x3 x4 x5 x6 x7 x8 x9 x10 x11
      have x10 : w3.cell? ⟨w2.heap.size, 10, none⟩ = some (.int .i64 f10) := by have := hAX3.out 10 _ rfl; rwa [Nat.zero_add] at this
      have hl3 : ¬ f10 ≤ now := by omega
      go_wp2_with fail
      clear x10
      refine (H_cBb.out w3 hB3).mono ?_
      rintro e w4 ⟨rfl, hb4⟩
      have hB4 := hB3.trans (hb4.mono hB3.size)
      have hAX4 : Hid (At w4 w2.heap.size 0 ⟨f0, f1, f2, f3, f4, f5, f6, f7, f8, f9, f10, f11⟩) := hAX3.out.below hb4 hAX3.out.lt
      clear hb4 hB3 hAX3
      have hal4 : Below w4.heap.size w4 (w4.alloc (.cells #[.int .i64 b0, .int .i64 b1, .int .i64 b2, .int .i64 b3, .int .i64 b4, .string b5, .string b6, .int .u64 b7, .int .i64 b8, .int .i64 b9, .int .i64 b10, .int .i64 b11] 46)) := (Below.refl _ _).alloc (Nat.le_refl _) _
      have hBY := hB4.trans (hal4.mono hB4.size)
      have hAX5 : Hid (At (w4.alloc (.cells #[.int .i64 b0, .int .i64 b1, .int .i64 b2, .int .i64 b3, .int .i64 b4, .string b5, .string b6, .int .u64 b7, .int .i64 b8, .int .i64 b9, .int .i64 b10, .int .i64 b11] 46)) w2.heap.size 0 ⟨f0, f1, f2, f3, f4, f5, f6, f7, f8, f9, f10, f11⟩) := hAX4.out.below hal4 hAX4.out.lt
      have hAY5 : Hid (At (w4.alloc (.cells #[.int .i64 b0, .int .i64 b1, .int .i64 b2, .int .i64 b3, .int .i64 b4, .string b5, .string b6, .int .u64 b7, .int .i64 b8, .int .i64 b9, .int .i64 b10, .int .i64 b11] 46)) w4.heap.size 0 ⟨b0, b1, b2, b3, b4, b5, b6, b7, b8, b9, b10, b11⟩) := at_block (heap_alloc_new w4 _)
      clear hal4 hB4 hAX4
      go_wp2_with (first | (at_builtin; generalize w4.alloc (.cells #[.int .i64 b0, .int .i64 b1, .int .i64 b2, .int .i64 b3, .int .i64 b4, .string b5, .string b6, .int .u64 b7, .int .i64 b8, .int .i64 b9, .int .i64 b10, .int .i64 b11] 46) = WY at *; refine wpList_append_ses WY rfl _ _ rfl WY.heap.size _ 0 [] rfl (World.ownsRow_nil _ _ _ _) _ la rfl (HRa.out.below hBY) HNa.out (by omega) (Nat.le_refl _) ?_; intro v5 w5 hown5 hgrow5; rw [Nat.zero_add, List.nil_append] at hown5; have hbA : Below WY.heap.size WY w5 := Below.grown (Below.refl _ _) hgrow5 (Nat.le_refl _) (fun k hk => by cases hk); have HO5 : Hid (w5.ownsRow WY.heap.size 46 12 v5 la.length (la.flatMap Ses.cells)) := hown5; clear hown5 hgrow5; have hB5 := hBY.trans (hbA.mono hBY.size)) | (at_builtin; refine wpList_append_ses w5 rfl _ _ rfl WY.heap.size v5 la.length la rfl HO5.out _ lb rfl (HRb.out.below hB5) HNb.out (by omega) hbA.size ?_; intro v6 w6 hown6 hgrow6; have hbB : Below WY.heap.size WY w6 := Below.grown hbA hgrow6 hbA.size (fun k hk => (HO5.out.lt k hk).1); have HO6 : Hid (w6.ownsRow WY.heap.size 46 12 v6 (la.length + lb.length) ((la ++ lb).flatMap Ses.cells)) := hown6; clear hown6 hgrow6))
      have hB6 := hBY.trans (hbB.mono hBY.size)
      clear hbA HO5 hB5
      have hAX6 : Hid (At w6 w2.heap.size 0 ⟨f0, f1, f2, f3, f4, f5, f6, f7, f8, f9, f10, f11⟩) := hAX5.out.below hbB hAX5.out.lt
      have hAY6 : Hid (At w6 w4.heap.size 0 ⟨b0, b1, b2, b3, b4, b5, b6, b7, b8, b9, b10, b11⟩) := hAY5.out.below hbB hAY5.out.lt
      clear hAX5 hAY5 hbB
      refine (H_cBz.out v6 w6 (own_rd HO6.out (by simp))).mono ?_
      rintro e w7 ⟨rfl, hb7⟩
      have hB7 := hB6.trans (hb7.mono hB6.size)
      have hAX7 : Hid (At w7 w2.heap.size 0 ⟨f0, f1, f2, f3, f4, f5, f6, f7, f8, f9, f10, f11⟩) := hAX6.out.below hb7 hAX6.out.lt
      have hAY7 : Hid (At w7 w4.heap.size 0 ⟨b0, b1, b2, b3, b4, b5, b6, b7, b8, b9, b10, b11⟩) := hAY6.out.below hb7 hAY6.out.lt
      clear hb7 hB6 hAX6 hAY6 HO6
      have lX : w2.heap.size < w7.heap.size + 1 := Nat.lt_succ_of_lt hAX7.out.lt
      have lY : w4.heap.size < w7.heap.size + 1 := Nat.lt_succ_of_lt hAY7.out.lt
      have l7 : w.heap.size ≤ w7.heap.size + 1 := Nat.le_succ_of_le hB7.size
      have hal7 : Below w7.heap.size w7 (w7.alloc (.cells #[.int .i64 f0, .int .i64 f1, .int .i64 f2, .int .i64 f3, .int .i64 f4, .string f5, .string f6, .int .u64 f7, .int .i64 f8, .int .i64 f9, .int .i64 f10, .int .i64 f11] 46)) := (Below.refl _ _).alloc (Nat.le_refl _) _
      have hal8 : Below (w7.heap.size + 1) (w7.alloc (.cells #[.int .i64 f0, .int .i64 f1, .int .i64 f2, .int .i64 f3, .int .i64 f4, .string f5, .string f6, .int .u64 f7, .int .i64 f8, .int .i64 f9, .int .i64 f10, .int .i64 f11] 46)) ((w7.alloc (.cells #[.int .i64 f0, .int .i64 f1, .int .i64 f2, .int .i64 f3, .int .i64 f4, .string f5, .string f6, .int .u64 f7, .int .i64 f8, .int .i64 f9, .int .i64 f10, .int .i64 f11] 46)).alloc (.cells #[] 46)) := (Below.refl _ _).alloc (by simp) _
      have hB9 := (hB7.trans (hal7.mono hB7.size)).trans (hal8.mono l7)
      have hAX9 : Hid (At ((w7.alloc (.cells #[.int .i64 f0, .int .i64 f1, .int .i64 f2, .int .i64 f3, .int .i64 f4, .string f5, .string f6, .int .u64 f7, .int .i64 f8, .int .i64 f9, .int .i64 f10, .int .i64 f11] 46)).alloc (.cells #[] 46)) w2.heap.size 0 ⟨f0, f1, f2, f3, f4, f5, f6, f7, f8, f9, f10, f11⟩) := (hAX7.out.below hal7 hAX7.out.lt).below hal8 lX
      have hAY9 : Hid (At ((w7.alloc (.cells #[.int .i64 f0, .int .i64 f1, .int .i64 f2, .int .i64 f3, .int .i64 f4, .string f5, .string f6, .int .u64 f7, .int .i64 f8, .int .i64 f9, .int .i64 f10, .int .i64 f11] 46)).alloc (.cells #[] 46)) w4.heap.size 0 ⟨b0, b1, b2, b3, b4, b5, b6, b7, b8, b9, b10, b11⟩) := (hAY7.out.below hal7 hAY7.out.lt).below hal8 lY
      have hAZ9 : Hid (At ((w7.alloc (.cells #[.int .i64 f0, .int .i64 f1, .int .i64 f2, .int .i64 f3, .int .i64 f4, .string f5, .string f6, .int .u64 f7, .int .i64 f8, .int .i64 f9, .int .i64 f10, .int .i64 f11] 46)).alloc (.cells #[] 46)) w7.heap.size 0 ⟨f0, f1, f2, f3, f4, f5, f6, f7, f8, f9, f10, f11⟩) := At.below (at_block (s := ⟨f0, f1, f2, f3, f4, f5, f6, f7, f8, f9, f10, f11⟩) (heap_alloc_new w7 _)) hal8 (Nat.lt_succ_self _)
      have hsz9 : w7.heap.size + 1 ≤ ((w7.alloc (.cells #[.int .i64 f0, .int .i64 f1, .int .i64 f2, .int .i64 f3, .int .i64 f4, .string f5, .string f6, .int .u64 f7, .int .i64 f8, .int .i64 f9, .int .i64 f10, .int .i64 f11] 46)).alloc (.cells #[] 46)).heap.size := by simp
      have HOe : Hid (((w7.alloc (.cells #[.int .i64 f0, .int .i64 f1, .int .i64 f2, .int .i64 f3, .int .i64 f4, .string f5, .string f6, .int .u64 f7, .int .i64 f8, .int .i64 f9, .int .i64 f10, .int .i64 f11] 46)).alloc (.cells #[] 46)).ownsRow (w7.heap.size + 1) 46 12 (.slice (some ⟨w7.heap.size + 1, 0, none⟩) 0 0) 0 (([] : List Ses).flatMap Ses.cells)) := ⟨rfl, .inr ⟨w7.heap.size + 1, 0, #[], rfl, Nat.le_refl _, heap_new2 w7 _ _, Nat.le_refl _, Nat.zero_le _, rfl, rfl⟩⟩
      clear hal7 hal8 hB7 hAX7 hAY7
      go_wp2_with (first | (at_builtin; generalize (w7.alloc (.cells #[.int .i64 f0, .int .i64 f1, .int .i64 f2, .int .i64 f3, .int .i64 f4, .string f5, .string f6, .int .u64 f7, .int .i64 f8, .int .i64 f9, .int .i64 f10, .int .i64 f11] 46)).alloc (.cells #[] 46) = W9 at *; refine wpList_append_ses W9 rfl _ _ rfl (w7.heap.size + 1) _ 0 [] rfl HOe.out _ la rfl (HRa.out.below hB9) HNa.out (by omega) hsz9 ?_; intro v10 w10 hown10 hgrow10; rw [Nat.zero_add, List.nil_append] at hown10; have hbC : Below (w7.heap.size + 1) W9 w10 := Below.grown (Below.refl _ _) hgrow10 hsz9 (fun k hk => (HOe.out.lt k hk).1); have HO10 : Hid (w10.ownsRow (w7.heap.size + 1) 46 12 v10 la.length (la.flatMap Ses.cells)) := hown10; clear hown10 hgrow10; have hB10 := hB9.trans (hbC.mono l7)) | (at_builtin; refine wpList_append_ses w10 rfl _ _ rfl (w7.heap.size + 1) v10 la.length la rfl HO10.out _ la rfl (HRa.out.below hB10) HNa.out (by omega) (Nat.le_trans hsz9 hbC.size) ?_; intro v11 w11 hown11 hgrow11; have hbD : Below (w7.heap.size + 1) W9 w11 := Below.grown hbC hgrow11 (Nat.le_trans hsz9 hbC.size) (fun k hk => (HO10.out.lt k hk).1); have HO11 : Hid (w11.ownsRow (w7.heap.size + 1) 46 12 v11 (la.length + la.length) ((la ++ la).flatMap Ses.cells)) := hown11; clear hown11 hgrow11))
      have hB11 := hB9.trans (hbD.mono l7)
      have hAX11 : Hid (At w11 w2.heap.size 0 ⟨f0, f1, f2, f3, f4, f5, f6, f7, f8, f9, f10, f11⟩) := hAX9.out.below hbD lX
      have hAY11 : Hid (At w11 w4.heap.size 0 ⟨b0, b1, b2, b3, b4, b5, b6, b7, b8, b9, b10, b11⟩) := hAY9.out.below hbD lY
      have hAZ11 : Hid (At w11 w7.heap.size 0 ⟨f0, f1, f2, f3, f4, f5, f6, f7, f8, f9, f10, f11⟩) := hAZ9.out.below hbD (Nat.lt_succ_self _)
      clear hbC hbD HO10 hB10 HOe hAX9 hAY9 hAZ9 hB9
      refine (H_cBt.out v11 w11 (own_rd HO11.out (by simp))).mono ?_
      rintro e w12 ⟨rfl, hb12⟩
      have hB12 := hB11.trans (hb12.mono hB11.size)
      have hal12 : Below w12.heap.size w12 (w12.alloc (.cells #[.int .i64 f0, .int .i64 f1, .int .i64 f2, .int .i64 f3, .int .i64 f4, .string f5, .string f6, .int .u64 f7, .int .i64 f8, .int .i64 f9, .int .i64 f10, .int .i64 f11] 46)) := (Below.refl _ _).alloc (Nat.le_refl _) _
      have hAX12 := hAX11.out.below hb12 hAX11.out.lt
      have hAY12 := hAY11.out.below hb12 hAY11.out.lt
      have hAZ12 := hAZ11.out.below hb12 hAZ11.out.lt
      have hAX13 : Hid (At (w12.alloc (.cells #[.int .i64 f0, .int .i64 f1, .int .i64 f2, .int .i64 f3, .int .i64 f4, .string f5, .string f6, .int .u64 f7, .int .i64 f8, .int .i64 f9, .int .i64 f10, .int .i64 f11] 46)) w2.heap.size 0 ⟨f0, f1, f2, f3, f4, f5, f6, f7, f8, f9, f10, f11⟩) := hAX12.below hal12 hAX12.lt
      have hAY13 : Hid (At (w12.alloc (.cells #[.int .i64 f0, .int .i64 f1, .int .i64 f2, .int .i64 f3, .int .i64 f4, .string f5, .string f6, .int .u64 f7, .int .i64 f8, .int .i64 f9, .int .i64 f10, .int .i64 f11] 46)) w4.heap.size 0 ⟨b0, b1, b2, b3, b4, b5, b6, b7, b8, b9, b10, b11⟩) := hAY12.below hal12 hAY12.lt
      have hAZ13 : Hid (At (w12.alloc (.cells #[.int .i64 f0, .int .i64 f1, .int .i64 f2, .int .i64 f3, .int .i64 f4, .string f5, .string f6, .int .u64 f7, .int .i64 f8, .int .i64 f9, .int .i64 f10, .int .i64 f11] 46)) w7.heap.size 0 ⟨f0, f1, f2, f3, f4, f5, f6, f7, f8, f9, f10, f11⟩) := hAZ12.below hal12 hAZ12.lt
      have hB13 := hB12.trans (hal12.mono hB12.size)
      have hltX := hAX12.lt
      have hltY := hAY12.lt
      have hltZ := hAZ12.lt
      clear hB12 hB11 hAX11 hAY11 hAZ11 hAX12 hAY12 hAZ12 hal12 hb12 HO11
      have x0 : (w12.alloc (.cells #[.int .i64 f0, .int .i64 f1, .int .i64 f2, .int .i64 f3, .int .i64 f4, .string f5, .string f6, .int .u64 f7, .int .i64 f8, .int .i64 f9, .int .i64 f10, .int .i64 f11] 46)).cell? ⟨w2.heap.size, 0, none⟩ = some (.int .i64 f0) := hAX13.out 0 _ rfl
      have x1 : (w12.alloc (.cells #[.int .i64 f0, .int .i64 f1, .int .i64 f2, .int .i64 f3, .int .i64 f4, .string f5, .string f6, .int .u64 f7, .int .i64 f8, .int .i64 f9, .int .i64 f10, .int .i64 f11] 46)).cell? ⟨w2.heap.size, 1, none⟩ = some (.int .i64 f1) := by have := hAX13.out 1 _ rfl; rwa [Nat.zero_add] at this
      have x2 : (w12.alloc (.cells #[.int .i64 f0, .int .i64 f1, .int .i64 f2, .int .i64 f3, .int .i64 f4, .string f5, .string f6, .int .u64 f7, .int .i64 f8, .int .i64 f9, .int .i64 f10, .int .i64 f11] 46)).cell? ⟨w2.heap.size, 2, none⟩ = some (.int .i64 f2) := by have := hAX13.out 2 _ rfl; rwa [Nat.zero_add] at this
      have x3 : (w12.alloc (.cells #[.int .i64 f0, .int .i64 f1, .int .i64 f2, .int .i64 f3, .int .i64 f4, .string f5, .string f6, .int .u64 f7, .int .i64 f8, .int .i64 f9, .int .i64 f10, .int .i64 f11] 46)).cell? ⟨w2.heap.size, 3, none⟩ = some (.int .i64 f3) := by have := hAX13.out 3 _ rfl; rwa [Nat.zero_add] at this
      have x4 : (w12.alloc (.cells #[.int .i64 f0, .int .i64 f1, .int .i64 f2, .int .i64 f3, .int .i64 f4, .string f5, .string f6, .int .u64 f7, .int .i64 f8, .int .i64 f9, .int .i64 f10, .int .i64 f11] 46)).cell? ⟨w2.heap.size, 4, none⟩ = some (.int .i64 f4) := by have := hAX13.out 4 _ rfl; rwa [Nat.zero_add] at this
      have x5 : (w12.alloc (.cells #[.int .i64 f0, .int .i64 f1, .int .i64 f2, .int .i64 f3, .int .i64 f4, .string f5, .string f6, .int .u64 f7, .int .i64 f8, .int .i64 f9, .int .i64 f10, .int .i64 f11] 46)).cell? ⟨w2.heap.size, 5, none⟩ = some (.string f5) := by have := hAX13.out 5 _ rfl; rwa [Nat.zero_add] at this
      have x6 : (w12.alloc (.cells #[.int .i64 f0, .int .i64 f1, .int .i64 f2, .int .i64 f3, .int .i64 f4, .string f5, .string f6, .int .u64 f7, .int .i64 f8, .int .i64 f9, .int .i64 f10, .int .i64 f11] 46)).cell? ⟨w2.heap.size, 6, none⟩ = some (.string f6) := by have := hAX13.out 6 _ rfl; rwa [Nat.zero_add] at this
      have x7 : (w12.alloc (.cells #[.int .i64 f0, .int .i64 f1, .int .i64 f2, .int .i64 f3, .int .i64 f4, .string f5, .string f6, .int .u64 f7, .int .i64 f8, .int .i64 f9, .int .i64 f10, .int .i64 f11] 46)).cell? ⟨w2.heap.size, 7, none⟩ = some (.int .u64 f7) := by have := hAX13.out 7 _ rfl; rwa [Nat.zero_add] at this
      have x8 : (w12.alloc (.cells #[.int .i64 f0, .int .i64 f1, .int .i64 f2, .int .i64 f3, .int .i64 f4, .string f5, .string f6, .int .u64 f7, .int .i64 f8, .int .i64 f9, .int .i64 f10, .int .i64 f11] 46)).cell? ⟨w2.heap.size, 8, none⟩ = some (.int .i64 f8) := by have := hAX13.out 8 _ rfl; rwa [Nat.zero_add] at this
      have x9 : (w12.alloc (.cells #[.int .i64 f0, .int .i64 f1, .int .i64 f2, .int .i64 f3, .int .i64 f4, .string f5, .string f6, .int .u64 f7, .int .i64 f8, .int .i64 f9, .int .i64 f10, .int .i64 f11] 46)).cell? ⟨w2.heap.size, 9, none⟩ = some (.int .i64 f9) := by have := hAX13.out 9 _ rfl; rwa [Nat.zero_add] at this
      have x10 : (w12.alloc (.cells #[.int .i64 f0, .int .i64 f1, .int .i64 f2, .int .i64 f3, .int .i64 f4, .string f5, .string f6, .int .u64 f7, .int .i64 f8, .int .i64 f9, .int .i64 f10, .int .i64 f11] 46)).cell? ⟨w2.heap.size, 10, none⟩ = some (.int .i64 f10) := by have := hAX13.out 10 _ rfl; rwa [Nat.zero_add] at this
      have x11 : (w12.alloc (.cells #[.int .i64 f0, .int .i64 f1, .int .i64 f2, .int .i64 f3, .int .i64 f4, .string f5, .string f6, .int .u64 f7, .int .i64 f8, .int .i64 f9, .int .i64 f10, .int .i64 f11] 46)).cell? ⟨w2.heap.size, 11, none⟩ = some (.int .i64 f11) := by have := hAX13.out 11 _ rfl; rwa [Nat.zero_add] at this
      have z0 : (w12.alloc (.cells #[.int .i64 f0, .int .i64 f1, .int .i64 f2, .int .i64 f3, .int .i64 f4, .string f5, .string f6, .int .u64 f7, .int .i64 f8, .int .i64 f9, .int .i64 f10, .int .i64 f11] 46)).cell? ⟨w7.heap.size, 0, none⟩ = some (.int .i64 f0) := hAZ13.out 0 _ rfl
      have z1 : (w12.alloc (.cells #[.int .i64 f0, .int .i64 f1, .int .i64 f2, .int .i64 f3, .int .i64 f4, .string f5, .string f6, .int .u64 f7, .int .i64 f8, .int .i64 f9, .int .i64 f10, .int .i64 f11] 46)).cell? ⟨w7.heap.size, 1, none⟩ = some (.int .i64 f1) := by have := hAZ13.out 1 _ rfl; rwa [Nat.zero_add] at this
      have z2 : (w12.alloc (.cells #[.int .i64 f0, .int .i64 f1, .int .i64 f2, .int .i64 f3, .int .i64 f4, .string f5, .string f6, .int .u64 f7, .int .i64 f8, .int .i64 f9, .int .i64 f10, .int .i64 f11] 46)).cell? ⟨w7.heap.size, 2, none⟩ = some (.int .i64 f2) := by have := hAZ13.out 2 _ rfl; rwa [Nat.zero_add] at this
      have z3 : (w12.alloc (.cells #[.int .i64 f0, .int .i64 f1, .int .i64 f2, .int .i64 f3, .int .i64 f4, .string f5, .string f6, .int .u64 f7, .int .i64 f8, .int .i64 f9, .int .i64 f10, .int .i64 f11] 46)).cell? ⟨w7.heap.size, 3, none⟩ = some (.int .i64 f3) := by have := hAZ13.out 3 _ rfl; rwa [Nat.zero_add] at this
      have z4 : (w12.alloc (.cells #[.int .i64 f0, .int .i64 f1, .int .i64 f2, .int .i64 f3, .int .i64 f4, .string f5, .string f6, .int .u64 f7, .int .i64 f8, .int .i64 f9, .int .i64 f10, .int .i64 f11] 46)).cell? ⟨w7.heap.size, 4, none⟩ = some (.int .i64 f4) := by have := hAZ13.out 4 _ rfl; rwa [Nat.zero_add] at this
      have z5 : (w12.alloc (.cells #[.int .i64 f0, .int .i64 f1, .int .i64 f2, .int .i64 f3, .int .i64 f4, .string f5, .string f6, .int .u64 f7, .int .i64 f8, .int .i64 f9, .int .i64 f10, .int .i64 f11] 46)).cell? ⟨w7.heap.size, 5, none⟩ = some (.string f5) := by have := hAZ13.out 5 _ rfl; rwa [Nat.zero_add] at this
      have z6 : (w12.alloc (.cells #[.int .i64 f0, .int .i64 f1, .int .i64 f2, .int .i64 f3, .int .i64 f4, .string f5, .string f6, .int .u64 f7, .int .i64 f8, .int .i64 f9, .int .i64 f10, .int .i64 f11] 46)).cell? ⟨w7.heap.size, 6, none⟩ = some (.string f6) := by have := hAZ13.out 6 _ rfl; rwa [Nat.zero_add] at this
      have z7 : (w12.alloc (.cells #[.int .i64 f0, .int .i64 f1, .int .i64 f2, .int .i64 f3, .int .i64 f4, .string f5, .string f6, .int .u64 f7, .int .i64 f8, .int .i64 f9, .int .i64 f10, .int .i64 f11] 46)).cell? ⟨w7.heap.size, 7, none⟩ = some (.int .u64 f7) := by have := hAZ13.out 7 _ rfl; rwa [Nat.zero_add] at this
      have z8 : (w12.alloc (.cells #[.int .i64 f0, .int .i64 f1, .int .i64 f2, .int .i64 f3, .int .i64 f4, .string f5, .string f6, .int .u64 f7, .int .i64 f8, .int .i64 f9, .int .i64 f10, .int .i64 f11] 46)).cell? ⟨w7.heap.size, 8, none⟩ = some (.int .i64 f8) := by have := hAZ13.out 8 _ rfl; rwa [Nat.zero_add] at this
      have z9 : (w12.alloc (.cells #[.int .i64 f0, .int .i64 f1, .int .i64 f2, .int .i64 f3, .int .i64 f4, .string f5, .string f6, .int .u64 f7, .int .i64 f8, .int .i64 f9, .int .i64 f10, .int .i64 f11] 46)).cell? ⟨w7.heap.size, 9, none⟩ = some (.int .i64 f9) := by have := hAZ13.out 9 _ rfl; rwa [Nat.zero_add] at this
      have z10 : (w12.alloc (.cells #[.int .i64 f0, .int .i64 f1, .int .i64 f2, .int .i64 f3, .int .i64 f4, .string f5, .string f6, .int .u64 f7, .int .i64 f8, .int .i64 f9, .int .i64 f10, .int .i64 f11] 46)).cell? ⟨w7.heap.size, 10, none⟩ = some (.int .i64 f10) := by have := hAZ13.out 10 _ rfl; rwa [Nat.zero_add] at this
      have z11 : (w12.alloc (.cells #[.int .i64 f0, .int .i64 f1, .int .i64 f2, .int .i64 f3, .int .i64 f4, .string f5, .string f6, .int .u64 f7, .int .i64 f8, .int .i64 f9, .int .i64 f10, .int .i64 f11] 46)).cell? ⟨w7.heap.size, 11, none⟩ = some (.int .i64 f11) := by have := hAZ13.out 11 _ rfl; rwa [Nat.zero_add] at this
      have y0 : (w12.alloc (.cells #[.int .i64 f0, .int .i64 f1, .int .i64 f2, .int .i64 f3, .int .i64 f4, .string f5, .string f6, .int .u64 f7, .int .i64 f8, .int .i64 f9, .int .i64 f10, .int .i64 f11] 46)).cell? ⟨w4.heap.size, 0, none⟩ = some (.int .i64 b0) := hAY13.out 0 _ rfl
      have y1 : (w12.alloc (.cells #[.int .i64 f0, .int .i64 f1, .int .i64 f2, .int .i64 f3, .int .i64 f4, .string f5, .string f6, .int .u64 f7, .int .i64 f8, .int .i64 f9, .int .i64 f10, .int .i64 f11] 46)).cell? ⟨w4.heap.size, 1, none⟩ = some (.int .i64 b1) := by have := hAY13.out 1 _ rfl; rwa [Nat.zero_add] at this
      have y2 : (w12.alloc (.cells #[.int .i64 f0, .int .i64 f1, .int .i64 f2, .int .i64 f3, .int .i64 f4, .string f5, .string f6, .int .u64 f7, .int .i64 f8, .int .i64 f9, .int .i64 f10, .int .i64 f11] 46)).cell? ⟨w4.heap.size, 2, none⟩ = some (.int .i64 b2) := by have := hAY13.out 2 _ rfl; rwa [Nat.zero_add] at this
      have y3 : (w12.alloc (.cells #[.int .i64 f0, .int .i64 f1, .int .i64 f2, .int .i64 f3, .int .i64 f4, .string f5, .string f6, .int .u64 f7, .int .i64 f8, .int .i64 f9, .int .i64 f10, .int .i64 f11] 46)).cell? ⟨w4.heap.size, 3, none⟩ = some (.int .i64 b3) := by have := hAY13.out 3 _ rfl; rwa [Nat.zero_add] at this
      have y4 : (w12.alloc (.cells #[.int .i64 f0, .int .i64 f1, .int .i64 f2, .int .i64 f3, .int .i64 f4, .string f5, .string f6, .int .u64 f7, .int .i64 f8, .int .i64 f9, .int .i64 f10, .int .i64 f11] 46)).cell? ⟨w4.heap.size, 4, none⟩ = some (.int .i64 b4) := by have := hAY13.out 4 _ rfl; rwa [Nat.zero_add] at this
      have y5 : (w12.alloc (.cells #[.int .i64 f0, .int .i64 f1, .int .i64 f2, .int .i64 f3, .int .i64 f4, .string f5, .string f6, .int .u64 f7, .int .i64 f8, .int .i64 f9, .int .i64 f10, .int .i64 f11] 46)).cell? ⟨w4.heap.size, 5, none⟩ = some (.string b5) := by have := hAY13.out 5 _ rfl; rwa [Nat.zero_add] at this
      have y6 : (w12.alloc (.cells #[.int .i64 f0, .int .i64 f1, .int .i64 f2, .int .i64 f3, .int .i64 f4, .string f5, .string f6, .int .u64 f7, .int .i64 f8, .int .i64 f9, .int .i64 f10, .int .i64 f11] 46)).cell? ⟨w4.heap.size, 6, none⟩ = some (.string b6) := by have := hAY13.out 6 _ rfl; rwa [Nat.zero_add] at this
      have y7 : (w12.alloc (.cells #[.int .i64 f0, .int .i64 f1, .int .i64 f2, .int .i64 f3, .int .i64 f4, .string f5, .string f6, .int .u64 f7, .int .i64 f8, .int .i64 f9, .int .i64 f10, .int .i64 f11] 46)).cell? ⟨w4.heap.size, 7, none⟩ = some (.int .u64 b7) := by have := hAY13.out 7 _ rfl; rwa [Nat.zero_add] at this
      have y8 : (w12.alloc (.cells #[.int .i64 f0, .int .i64 f1, .int .i64 f2, .int .i64 f3, .int .i64 f4, .string f5, .string f6, .int .u64 f7, .int .i64 f8, .int .i64 f9, .int .i64 f10, .int .i64 f11] 46)).cell? ⟨w4.heap.size, 8, none⟩ = some (.int .i64 b8) := by have := hAY13.out 8 _ rfl; rwa [Nat.zero_add] at this
      have y9 : (w12.alloc (.cells #[.int .i64 f0, .int .i64 f1, .int .i64 f2, .int .i64 f3, .int .i64 f4, .string f5, .string f6, .int .u64 f7, .int .i64 f8, .int .i64 f9, .int .i64 f10, .int .i64 f11] 46)).cell? ⟨w4.heap.size, 9, none⟩ = some (.int .i64 b9) := by have := hAY13.out 9 _ rfl; rwa [Nat.zero_add] at this
      have y10 : (w12.alloc (.cells #[.int .i64 f0, .int .i64 f1, .int .i64 f2, .int .i64 f3, .int .i64 f4, .string f5, .string f6, .int .u64 f7, .int .i64 f8, .int .i64 f9, .int .i64 f10, .int .i64 f11] 46)).cell? ⟨w4.heap.size, 10, none⟩ = some (.int .i64 b10) := by have := hAY13.out 10 _ rfl; rwa [Nat.zero_add] at this
      have y11 : (w12.alloc (.cells #[.int .i64 f0, .int .i64 f1, .int .i64 f2, .int .i64 f3, .int .i64 f4, .string f5, .string f6, .int .u64 f7, .int .i64 f8, .int .i64 f9, .int .i64 f10, .int .i64 f11] 46)).cell? ⟨w4.heap.size, 11, none⟩ = some (.int .i64 b11) := by have := hAY13.out 11 _ rfl; rwa [Nat.zero_add] at this
      go_wp2
      go_ret
      exact ⟨rfl, hB13⟩
end Lv
end Go.Proofs.YtfhnfejghngoeaaDoor
