/- Is a session one of a list? -/
import Derived.Test.YtfhnfejghngoeaaDoorBests
import Derived.Test.YtfhnfejghngoeaaDoorSmall
namespace Go.Proofs.YtfhnfejghngoeaaDoor
set_option linter.ambiguousOpen false
open Go.RowKit
namespace Lv
set_option linter.unusedSimpArgs false
set_option linter.unusedVariables false

set_option maxRecDepth 100000 in
theorem ses_ne {a b : Ses} (h : a ≠ b) (w : World) : (binOp .eql 46 (.agg a.arr) (.agg b.arr)).run Tryd.prog w = .ok (.bool false) w := by
  have hu := Tryd.underlying46
  have hp : Tryd.prog.stoodInHeld 46 = false := by kernel_rfl
  have p2 : Tryd.prog.stoodInHeld 42 = false := by kernel_rfl
  rw [run_eql_struct]
  rw [show (10000 : Nat) = 9999 + 1 from rfl, run_equalIn_agg _ _ _ _ _ (by rw [hu]; simp [Program.fieldsOf, hu]) hp]
  simp only [Program.fieldsOf, hu, Ses.arr]
  simp [go_sem, Op.eqFields, part, hp, p2, Tryd.underlying3, Tryd.underlying9, Tryd.underlying44, Tryd.underlying42, Tryd.isAgg3, Tryd.isAgg9, Tryd.isAgg44, Tryd.isAgg42, Tryd.sizeOf3, Tryd.sizeOf9, Tryd.sizeOf44, Tryd.sizeOf42]
  intro e0 e1 e2 e3 e4 e5 e6 e7 e8 e9 e10 e11
  refine h ?_
  obtain ⟨a0, a1, a2, a3, a4, a5, a6, a7, a8, a9, a10, a11⟩ := a
  obtain ⟨b0, b1, b2, b3, b4, b5, b6, b7, b8, b9, b10, b11⟩ := b
  simp only at e0 e1 e2 e3 e4 e5 e6 e7 e8 e9 e10 e11
  have k5 : a5 = b5 := by
    rw [ByteArray.toList_eq, ByteArray.toList_eq] at e5
    exact ByteArray.ext (Array.toList_inj.1 e5)
  have k6 : a6 = b6 := by
    rw [ByteArray.toList_eq, ByteArray.toList_eq] at e6
    exact ByteArray.ext (Array.toList_inj.1 e6)
  subst e0 e1 e2 e3 e4 k5 k6 e7 e8 e9 e10 e11
  rfl

set_option maxRecDepth 100000 in
set_option maxHeartbeats 4000000 in
theorem among_yes (v : Value) (l : List Ses) (x : Ses) (w : World) (hR : RdS w v l) (hx : x ∈ l) :
    Calls Tryd.prog 19 #[v, .agg x.arr] w fun e w' => e = .returned (.bool true) ∧ Below w.heap.size w w' := by
  obtain ⟨m, hm0, hmx⟩ := List.getElem_of_mem hx
  obtain ⟨a, cap, rfl, hc, hm, hcell⟩ := hR
  unfold maxLen at hm
  obtain ⟨g, o, rfl, hcj⟩ := hcell (by omega)
  have HC : Hid (∀ j (hj : j < l.length), At w g (o + j * 12) l[j]) := hcj
  have HM : Hid (nth l m = x) := by show _ = _; rw [nth_eq hm0]; exact hmx
  clear hcell hcj hmx hx
  have HZ : Hid ((w.alloc (.cells x.arr 46)).heap[w.heap.size]? = some (.cells x.arr 46 (0, 0))) := heap_alloc_new _ _
  obtain ⟨f0, f1, f2, f3, f4, f5, f6, f7, f8, f9, f10, f11⟩ := x
  simp only [Ses.arr] at HZ ⊢
  go_enter Tryd.func19, Tryd.ntmps19
  go_wp2
  go_loopw [5] (fun iv wr => ∃ k : Nat, k ≤ m ∧ iv = .int .i64 k ∧ Hid (wr.heap[w.heap.size]? = some (.cells (Ses.arr ⟨f0, f1, f2, f3, f4, f5, f6, f7, f8, f9, f10, f11⟩) 46 (0, 0))) ∧ Below w.heap.size w wr) (fun iv _ => m - (intOf iv).toNat)
  case atStart => exact ⟨0, Nat.zero_le _, rfl, HZ, (Below.refl _ _).alloc (Nat.le_refl _) _⟩
  case round =>
    clear HZ
    obtain ⟨k, hk, rfl, hz, hB⟩ := hrel
    have hp : k < l.length := by omega
    have hAk : Hid (At wr g (o + k * 12) (nth l k)) := by
      show At _ _ _ _
      rw [nth_eq hp]; exact (HC.out k hp).below hB (HC.out k hp).lt
    have hZ := at_block hz.out
    have z0 : wr.cell? ⟨w.heap.size, 0, none⟩ = some (.int .i64 f0) := hZ 0 _ rfl
    have z1 := hZ 1 _ rfl
    have z2 := hZ 2 _ rfl
    have z3 := hZ 3 _ rfl
    have z4 := hZ 4 _ rfl
    have z5 := hZ 5 _ rfl
    have z6 := hZ 6 _ rfl
    have z7 := hZ 7 _ rfl
    have z8 := hZ 8 _ rfl
    have z9 := hZ 9 _ rfl
    have z10 := hZ 10 _ rfl
    have z11 := hZ 11 _ rfl
    clear hZ
    by_cases he : nth l k = ⟨f0, f1, f2, f3, f4, f5, f6, f7, f8, f9, f10, f11⟩
    · rw [he] at hAk
      have c0 : wr.cell? ⟨g, o + k * 12, none⟩ = some (.int .i64 f0) := hAk.out 0 _ rfl
      have c1 := hAk.out 1 _ rfl
      have c2 := hAk.out 2 _ rfl
      have c3 := hAk.out 3 _ rfl
      have c4 := hAk.out 4 _ rfl
      have c5 := hAk.out 5 _ rfl
      have c6 := hAk.out 6 _ rfl
      have c7 := hAk.out 7 _ rfl
      have c8 := hAk.out 8 _ rfl
      have c9 := hAk.out 9 _ rfl
      have c10 := hAk.out 10 _ rfl
      have c11 := hAk.out 11 _ rfl
      clear he
      go_wp2_with fail
      go_quiet (fail)
      go_wp2
      go_ret
      exact ⟨rfl, below_dn hB _⟩
    · have hkm : k < m := by
        rcases Nat.lt_or_eq_of_le hk with q | q
        · exact q
        · subst q; exact absurd HM.out he
      have hne := ses_ne he
      generalize nth l k = y at *
      obtain ⟨b0, b1, b2, b3, b4, b5, b6, b7, b8, b9, b10, b11⟩ := y
      simp only [Ses.arr] at hne
      have c0 : wr.cell? ⟨g, o + k * 12, none⟩ = some (.int .i64 b0) := hAk.out 0 _ rfl
      have c1 := hAk.out 1 _ rfl
      have c2 := hAk.out 2 _ rfl
      have c3 := hAk.out 3 _ rfl
      have c4 := hAk.out 4 _ rfl
      have c5 := hAk.out 5 _ rfl
      have c6 := hAk.out 6 _ rfl
      have c7 := hAk.out 7 _ rfl
      have c8 := hAk.out 8 _ rfl
      have c9 := hAk.out 9 _ rfl
      have c10 := hAk.out 10 _ rfl
      have c11 := hAk.out 11 _ rfl
      clear he
      go_wp2_with fail
      go_quiet (fail)
      go_wp2
      go_roundw
      case rel => exact ⟨k + 1, by omega, by go_num, hz, below_dn hB _⟩
      case measure => simp [intOf]; omega
end Lv
end Go.Proofs.YtfhnfejghngoeaaDoor
