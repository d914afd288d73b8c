/- Best of a list of sessions, as the document answers. -/
import Derived.Test.YtfhnfejghngoeaaBest
namespace Go.Proofs.Ytfhnfejghngoeaa
set_option linter.ambiguousOpen false
open Go.RowKit
namespace Lv
set_option linter.unusedSimpArgs false
set_option linter.unusedVariables false

theorem ret_b {b c : Bool} (h : b = c) : Ending.returned (.bool b) = .returned (.bool c) := by rw [h]

set_option maxRecDepth 100000 in
set_option maxHeartbeats 1000000 in
theorem better_any (a b : Ses) (w : World) :
    Calls Try.prog 8 #[.agg a.arr, .agg b.arr] w fun e w' => e = .returned (.bool (betterB a b)) ∧ Below w.heap.size w w' := by
  obtain ⟨a0, a1, a2, a3, a4, a5, a6, a7, a8, a9, a10, a11⟩ := a
  obtain ⟨b0, b1, b2, b3, b4, b5, b6, b7, b8, b9, b10, b11⟩ := b
  simp only [Ses.arr, betterB]
  have hB : ∀ o1 o2, Below w.heap.size w ((w.alloc o1).alloc o2) := fun o1 o2 => ((Below.refl _ _).alloc (Nat.le_refl _) _).alloc (by simp) _
  by_cases h1 : a8 = b8
  · subst h1
    by_cases h2 : a10 = b10
    · subst h2
      go_enter Try.func8, Try.ntmps8
      go_wp2
      go_ret
      exact ⟨ret_b (by simp), hB _ _⟩
    · have h2' : (a10 != b10) = true := by simpa using h2
      go_enter Try.func8, Try.ntmps8
      go_wp2
      go_ret
      exact ⟨ret_b (by simp [h2]), hB _ _⟩
  · have h1' : (a8 != b8) = true := by simpa using h1
    go_enter Try.func8, Try.ntmps8
    go_wp2
    go_ret
    exact ⟨ret_b (by simp [h1]), hB _ _⟩
set_option maxRecDepth 100000 in
set_option maxHeartbeats 8000000 in
theorem rbest_any (v : Value) (l : List Ses) (now : Int) (w : World) (hR : RdS w v l) :
    Calls Try.prog 4 #[v, .int .i64 now] w fun e w' => e = .returned (.tuple #[.agg (bestS l now).arr, .bool (bestB l now)]) ∧ Below w.heap.size w w' := by
  obtain ⟨a, cap, rfl, hc, hm, hcell⟩ := hR
  unfold maxLen at hm
  have HC : Hid (0 < l.length → ∃ g o, a = some ⟨g, o, none⟩ ∧ ∀ j (hj : j < l.length), At w g (o + j * 12) l[j]) := hcell
  clear hcell
  have HZ : Hid ((w.alloc (.cells zs.arr 28)).heap[w.heap.size]? = some (.cells zs.arr 28 (0, 0))) := heap_alloc_new _ _
  go_enter Try.func4, Try.ntmps4
  go_wp2
  go_loopw [6, 7] (fun bv iv wr => ∃ k : Nat, k ≤ l.length ∧ iv = .int .i64 k ∧ bv = .int .i64 (bi (bst l now k)) ∧ Hid (wr.heap[w.heap.size]? = some (.cells zs.arr 28 (0, 0))) ∧ Below w.heap.size w wr) (fun _ iv _ => l.length - (intOf iv).toNat)
  case atStart => exact ⟨0, Nat.zero_le _, rfl, rfl, HZ, (Below.refl _ _).alloc (Nat.le_refl _) _⟩
  case round =>
    clear HZ
    obtain ⟨k, hk, rfl, rfl, hz, hB⟩ := hrel
    by_cases hp : k < l.length
    · obtain ⟨g, o, rfl, hcj⟩ := HC.out (Nat.lt_of_le_of_lt (Nat.zero_le _) hp)
      have hAk : Hid (At wr g (o + k * 12) (nth l k)) := by
        show At _ _ _ _
        rw [nth_eq hp]; exact (hcj k hp).below hB (hcj k hp).lt
      have d10 := hAk.out 10 _ rfl
      by_cases hd : (nth l k).deadline ≤ now
      · have HK : Hid (bi (bst l now k) = bi (bst l now (k + 1))) := by show _ = _; rw [bst, if_pos hd]
        have hd' : decide (now < (nth l k).deadline) = false := by simpa using hd
        clear hd
        generalize (nth l k).deadline = d at *
        obtain ⟨bk, HBK⟩ : ∃ bk, Hid (bi (bst l now k) = bk) := ⟨_, rfl⟩
        rw [HBK.out]
        go_wp2_with fail
        go_quiet (fail)
        go_wp2
        go_roundw
        case rel => exact ⟨k + 1, by omega, by go_num, by rw [← HBK.out, HK.out], hz, below_dn hB _⟩
        case measure => simp [intOf]; omega
      · have hd' : decide (now < (nth l k).deadline) = true := by simpa using hd
        cases hj : bst l now k with
        | none =>
          have HS : Hid (bst l now (k + 1) = some k) := by show _ = _; rw [bst, if_neg hd, hj]
          generalize (nth l k).deadline = d at *
          clear hj hd
          unfold bi
          go_wp2_with fail
          go_quiet (fail)
          go_wp2
          go_roundw
          case rel => exact ⟨k + 1, by omega, by go_num, by rw [HS.out], hz, below_dn hB _⟩
          case measure => simp [intOf]; omega
        | some j =>
          obtain ⟨hjk, _⟩ := bst_lt hj
          have hAj : Hid (At wr g (o + j * 12) (nth l j)) := by
            show At _ _ _ _
            rw [nth_eq (by omega)]; exact (hcj j (by omega)).below hB (hcj j (by omega)).lt
          have hgl : g < wr.heap.size := hAj.out.lt
          have CO : Hid (∀ w1, Calls Try.prog 8 #[.agg (nth l k).arr, .agg (nth l j).arr] w1 fun e w' => e = .returned (.bool (betterB (nth l k) (nth l j))) ∧ Below w1.heap.size w1 w') := fun w1 => better_any _ _ w1
          have hBr := Below.refl wr.heap.size wr
          have j1 : ¬ (j : Int) < 0 := by omega
          have j2 : j < l.length := by omega
          obtain ⟨bb, HBB⟩ : ∃ bb, Hid (betterB (nth l k) (nth l j) = bb) := ⟨_, rfl⟩
          have HS : Hid (bst l now (k + 1) = if bb = true then some k else some j) := by show _ = _; rw [bst, if_neg hd, hj, ← HBB.out]
          rw [HBB.out] at CO
          clear hj hd HBB hcj d10
          generalize nth l k = xk at *
          generalize nth l j = xj at *
          obtain ⟨a0, a1, a2, a3, a4, a5, a6, a7, a8, a9, a10, a11⟩ := xk
          obtain ⟨b0, b1, b2, b3, b4, b5, b6, b7, b8, b9, b10, b11⟩ := xj
          simp only [Ses.arr] at CO hd'
          have p0 : wr.cell? ⟨g, o + k * 12, none⟩ = some (.int .i64 a0) := hAk.out 0 _ rfl
          have p1 := hAk.out 1 _ rfl
          have p2 := hAk.out 2 _ rfl
          have p3 := hAk.out 3 _ rfl
          have p4 := hAk.out 4 _ rfl
          have p5 := hAk.out 5 _ rfl
          have p6 := hAk.out 6 _ rfl
          have p7 := hAk.out 7 _ rfl
          have p8 := hAk.out 8 _ rfl
          have p9 := hAk.out 9 _ rfl
          have p10 := hAk.out 10 _ rfl
          have p11 := hAk.out 11 _ rfl
          have q0 : wr.cell? ⟨g, o + j * 12, none⟩ = some (.int .i64 b0) := hAj.out 0 _ rfl
          have q1 := hAj.out 1 _ rfl
          have q2 := hAj.out 2 _ rfl
          have q3 := hAj.out 3 _ rfl
          have q4 := hAj.out 4 _ rfl
          have q5 := hAj.out 5 _ rfl
          have q6 := hAj.out 6 _ rfl
          have q7 := hAj.out 7 _ rfl
          have q8 := hAj.out 8 _ rfl
          have q9 := hAj.out 9 _ rfl
          have q10 := hAj.out 10 _ rfl
          have q11 := hAj.out 11 _ rfl
          have D0 : decide ((j : Int) < 0) = false := by simp
          unfold bi
          cases bb
          all_goals
            go_wp2_with fail
            go_region_held3 (fun w' => w'.cell? ⟨g, o + k * 12, none⟩ = some (.int .i64 a0) ∧ w'.cell? ⟨g, o + k * 12 + 1, none⟩ = some (.int .i64 a1) ∧ w'.cell? ⟨g, o + k * 12 + 2, none⟩ = some (.int .i64 a2) ∧ w'.cell? ⟨g, o + k * 12 + 3, none⟩ = some (.int .i64 a3) ∧ w'.cell? ⟨g, o + k * 12 + 4, none⟩ = some (.int .i64 a4) ∧ w'.cell? ⟨g, o + k * 12 + 5, none⟩ = some (.string a5) ∧ w'.cell? ⟨g, o + k * 12 + 6, none⟩ = some (.string a6) ∧ w'.cell? ⟨g, o + k * 12 + 7, none⟩ = some (.int .u64 a7) ∧ w'.cell? ⟨g, o + k * 12 + 8, none⟩ = some (.int .i64 a8) ∧ w'.cell? ⟨g, o + k * 12 + 9, none⟩ = some (.int .i64 a9) ∧ w'.cell? ⟨g, o + k * 12 + 10, none⟩ = some (.int .i64 a10) ∧ w'.cell? ⟨g, o + k * 12 + 11, none⟩ = some (.int .i64 a11) ∧ w'.cell? ⟨g, o + j * 12, none⟩ = some (.int .i64 b0) ∧ w'.cell? ⟨g, o + j * 12 + 1, none⟩ = some (.int .i64 b1) ∧ w'.cell? ⟨g, o + j * 12 + 2, none⟩ = some (.int .i64 b2) ∧ w'.cell? ⟨g, o + j * 12 + 3, none⟩ = some (.int .i64 b3) ∧ w'.cell? ⟨g, o + j * 12 + 4, none⟩ = some (.int .i64 b4) ∧ w'.cell? ⟨g, o + j * 12 + 5, none⟩ = some (.string b5) ∧ w'.cell? ⟨g, o + j * 12 + 6, none⟩ = some (.string b6) ∧ w'.cell? ⟨g, o + j * 12 + 7, none⟩ = some (.int .u64 b7) ∧ w'.cell? ⟨g, o + j * 12 + 8, none⟩ = some (.int .i64 b8) ∧ w'.cell? ⟨g, o + j * 12 + 9, none⟩ = some (.int .i64 b9) ∧ w'.cell? ⟨g, o + j * 12 + 10, none⟩ = some (.int .i64 b10) ∧ w'.cell? ⟨g, o + j * 12 + 11, none⟩ = some (.int .i64 b11) ∧ Below wr.heap.size wr w') (first | assumption | exact ⟨by assumption, by assumption, by assumption, by assumption, by assumption, by assumption, by assumption, by assumption, by assumption, by assumption, by assumption, by assumption, by assumption, by assumption, by assumption, by assumption, by assumption, by assumption, by assumption, by assumption, by assumption, by assumption, by assumption, by assumption, (by first | assumption | exact Below.drew (by assumption))⟩) (first | (go_at_call 8; refine (CO.out _).mono ?_; rintro e w2 ⟨rfl, hq⟩; have hS2 : w2.cell? ⟨g, o + k * 12, none⟩ = some (.int .i64 a0) ∧ w2.cell? ⟨g, o + k * 12 + 1, none⟩ = some (.int .i64 a1) ∧ w2.cell? ⟨g, o + k * 12 + 2, none⟩ = some (.int .i64 a2) ∧ w2.cell? ⟨g, o + k * 12 + 3, none⟩ = some (.int .i64 a3) ∧ w2.cell? ⟨g, o + k * 12 + 4, none⟩ = some (.int .i64 a4) ∧ w2.cell? ⟨g, o + k * 12 + 5, none⟩ = some (.string a5) ∧ w2.cell? ⟨g, o + k * 12 + 6, none⟩ = some (.string a6) ∧ w2.cell? ⟨g, o + k * 12 + 7, none⟩ = some (.int .u64 a7) ∧ w2.cell? ⟨g, o + k * 12 + 8, none⟩ = some (.int .i64 a8) ∧ w2.cell? ⟨g, o + k * 12 + 9, none⟩ = some (.int .i64 a9) ∧ w2.cell? ⟨g, o + k * 12 + 10, none⟩ = some (.int .i64 a10) ∧ w2.cell? ⟨g, o + k * 12 + 11, none⟩ = some (.int .i64 a11) ∧ w2.cell? ⟨g, o + j * 12, none⟩ = some (.int .i64 b0) ∧ w2.cell? ⟨g, o + j * 12 + 1, none⟩ = some (.int .i64 b1) ∧ w2.cell? ⟨g, o + j * 12 + 2, none⟩ = some (.int .i64 b2) ∧ w2.cell? ⟨g, o + j * 12 + 3, none⟩ = some (.int .i64 b3) ∧ w2.cell? ⟨g, o + j * 12 + 4, none⟩ = some (.int .i64 b4) ∧ w2.cell? ⟨g, o + j * 12 + 5, none⟩ = some (.string b5) ∧ w2.cell? ⟨g, o + j * 12 + 6, none⟩ = some (.string b6) ∧ w2.cell? ⟨g, o + j * 12 + 7, none⟩ = some (.int .u64 b7) ∧ w2.cell? ⟨g, o + j * 12 + 8, none⟩ = some (.int .i64 b8) ∧ w2.cell? ⟨g, o + j * 12 + 9, none⟩ = some (.int .i64 b9) ∧ w2.cell? ⟨g, o + j * 12 + 10, none⟩ = some (.int .i64 b10) ∧ w2.cell? ⟨g, o + j * 12 + 11, none⟩ = some (.int .i64 b11) ∧ Below wr.heap.size wr w2 := ⟨(hq.cell (p := ⟨g, _, none⟩) hgl).trans p0, (hq.cell (p := ⟨g, _, none⟩) hgl).trans p1, (hq.cell (p := ⟨g, _, none⟩) hgl).trans p2, (hq.cell (p := ⟨g, _, none⟩) hgl).trans p3, (hq.cell (p := ⟨g, _, none⟩) hgl).trans p4, (hq.cell (p := ⟨g, _, none⟩) hgl).trans p5, (hq.cell (p := ⟨g, _, none⟩) hgl).trans p6, (hq.cell (p := ⟨g, _, none⟩) hgl).trans p7, (hq.cell (p := ⟨g, _, none⟩) hgl).trans p8, (hq.cell (p := ⟨g, _, none⟩) hgl).trans p9, (hq.cell (p := ⟨g, _, none⟩) hgl).trans p10, (hq.cell (p := ⟨g, _, none⟩) hgl).trans p11, (hq.cell (p := ⟨g, _, none⟩) hgl).trans q0, (hq.cell (p := ⟨g, _, none⟩) hgl).trans q1, (hq.cell (p := ⟨g, _, none⟩) hgl).trans q2, (hq.cell (p := ⟨g, _, none⟩) hgl).trans q3, (hq.cell (p := ⟨g, _, none⟩) hgl).trans q4, (hq.cell (p := ⟨g, _, none⟩) hgl).trans q5, (hq.cell (p := ⟨g, _, none⟩) hgl).trans q6, (hq.cell (p := ⟨g, _, none⟩) hgl).trans q7, (hq.cell (p := ⟨g, _, none⟩) hgl).trans q8, (hq.cell (p := ⟨g, _, none⟩) hgl).trans q9, (hq.cell (p := ⟨g, _, none⟩) hgl).trans q10, (hq.cell (p := ⟨g, _, none⟩) hgl).trans q11, hBr.drew.trans (hq.mono (Nat.le_refl _))⟩))
            have hSB := hS2.2.2.2.2.2.2.2.2.2.2.2.2.2.2.2.2.2.2.2.2.2.2.2.2
            clear hS2
            go_wp2
            go_roundw
            case rel => exact ⟨k + 1, by omega, by go_num, by rw [HS.out]; rfl, (hSB.block _ (Array.getElem?_eq_some_iff.1 hz.out).1).trans hz.out, hB.trans (hSB.mono hB.size)⟩
            case measure => simp [intOf]; omega
    · obtain rfl : k = l.length := by omega
      cases hj : bst l now l.length with
      | none =>
        have HE : Hid (bestS l now = zs ∧ bestB l now = false) := by
          show _ ∧ _
          unfold bestS bestB
          rw [hj]; exact ⟨rfl, rfl⟩
        unfold bi
        clear hj
        have A := at_block hz.out
        have zf : ∀ i, wr.frozen? ⟨w.heap.size, i, none⟩ = false := by
          intro i
          simp [World.frozen?, hz.out]
        have z0 := A 0 _ rfl
        have z1 := A 1 _ rfl
        have z2 := A 2 _ rfl
        have z3 := A 3 _ rfl
        have z4 := A 4 _ rfl
        have z5 := A 5 _ rfl
        have z6 := A 6 _ rfl
        have z7 := A 7 _ rfl
        have z8 := A 8 _ rfl
        have z9 := A 9 _ rfl
        have z10 := A 10 _ rfl
        have z11 := A 11 _ rfl
        clear A
        go_wp2
        refine bodyPost_ret (results_ses rfl _ _ w.heap.size zs rfl (putS_heap (z := zs) zs hz.out)) rfl ?_
        exact ⟨by rw [HE.out.1, HE.out.2]; rfl, putS_below zs hB (Nat.le_refl _)⟩
      | some j =>
        obtain ⟨hjk, _⟩ := bst_lt hj
        obtain ⟨g, o, rfl, hcj⟩ := HC.out (by omega)
        have hAj : Hid (At wr g (o + j * 12) (nth l j)) := by
          show At _ _ _ _
          rw [nth_eq (by omega)]; exact (hcj j (by omega)).below hB (hcj j (by omega)).lt
        have HE : Hid (bestS l now = nth l j ∧ bestB l now = true) := by
          show _ ∧ _
          unfold bestS bestB
          rw [hj]; exact ⟨rfl, rfl⟩
        clear hj hcj
        generalize nth l j = x at *
        unfold bi
        have j1 : ¬ (j : Int) < 0 := by omega
        obtain ⟨f0, f1, f2, f3, f4, f5, f6, f7, f8, f9, f10, f11⟩ := x
        have c0 : wr.cell? ⟨g, o + j * 12, none⟩ = some (.int .i64 f0) := hAj.out 0 _ rfl
        have c1 := hAj.out 1 _ rfl
        have c2 := hAj.out 2 _ rfl
        have c3 := hAj.out 3 _ rfl
        have c4 := hAj.out 4 _ rfl
        have c5 := hAj.out 5 _ rfl
        have c6 := hAj.out 6 _ rfl
        have c7 := hAj.out 7 _ rfl
        have c8 := hAj.out 8 _ rfl
        have c9 := hAj.out 9 _ rfl
        have c10 := hAj.out 10 _ rfl
        have c11 := hAj.out 11 _ rfl
        have A := at_block hz.out
        have zf : ∀ i, wr.frozen? ⟨w.heap.size, i, none⟩ = false := by
          intro i
          simp [World.frozen?, hz.out]
        have z0 := A 0 _ rfl
        have z1 := A 1 _ rfl
        have z2 := A 2 _ rfl
        have z3 := A 3 _ rfl
        have z4 := A 4 _ rfl
        have z5 := A 5 _ rfl
        have z6 := A 6 _ rfl
        have z7 := A 7 _ rfl
        have z8 := A 8 _ rfl
        have z9 := A 9 _ rfl
        have z10 := A 10 _ rfl
        have z11 := A 11 _ rfl
        clear A
        go_wp2
        refine bodyPost_ret (results_ses rfl _ _ w.heap.size ⟨f0, f1, f2, f3, f4, f5, f6, f7, f8, f9, f10, f11⟩ rfl (putS_heap (z := zs) ⟨f0, f1, f2, f3, f4, f5, f6, f7, f8, f9, f10, f11⟩ hz.out)) rfl ?_
        exact ⟨by rw [HE.out.1, HE.out.2]; rfl, putS_below ⟨f0, f1, f2, f3, f4, f5, f6, f7, f8, f9, f10, f11⟩ hB (Nat.le_refl _)⟩
end Lv
end Go.Proofs.Ytfhnfejghngoeaa
