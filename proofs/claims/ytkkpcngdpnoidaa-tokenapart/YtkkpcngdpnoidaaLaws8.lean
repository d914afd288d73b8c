/- The statements on tokens, out of what the program's two calls answer. -/
import Derived.Test.YtkkpcngdpnoidaaBoth8
namespace Go.Proofs.Ytkkpcngdpnoidaa
set_option linter.ambiguousOpen false
open Go.RowKit
namespace Tk
open Sm
set_option linter.unusedSimpArgs false
set_option linter.unusedVariables false

/-- An error without a place, and none. -/
@[reducible] def noE (n : Int) : Value := .iface 37 (.int .i64 n)

def errE : Nat → Value
  | 0 => .nilIface
  | n + 1 => noE ((n + 1 : Nat) : Int)

/-- What the program's two calls answer. -/
structure Says : Prop where
  yes : ∀ (s b t : Nat) (w : World), s < 32 → 1 ≤ b → b ≤ 1048576 → t < 18446744073709551616 → Calls Try.prog 7 #[tok s b t] w fun e w' => e = .returned (.tuple #[.string (tx (form s b t)), .nilIface]) ∧ Below w.heap.size w w'
  no : ∀ (s b : Int) (t : Nat) (w : World), -9223372036854775808 ≤ s ∧ s ≤ 9223372036854775807 → -9223372036854775808 ≤ b ∧ b ≤ 9223372036854775807 → t < 18446744073709551616 → mayB s b = false → Calls Try.prog 7 #[tok s b t] w fun e w' => e = .returned (.tuple #[.string ⟨#[]⟩, noE 1]) ∧ Below w.heap.size w w'
  read : ∀ (l : List UInt8) (w : World), l.length ≤ maxLen → Calls Try.prog 8 #[.string (tx l)] w fun e w' => e = .returned (.tuple #[tok (prs l).s (prs l).b (prs l).t, errE (prs l).no]) ∧ Below w.heap.size w w'

theorem form0 : form 0 1 0 = [116, 97, 97, 97, 97, 97, 97, 105, 97, 97, 97, 97, 97, 97, 97, 97, 97, 97, 97, 97, 97] := by decide +kernel

theorem works_says (H : Says) (w : World) : Calls Try.prog 9 #[] w fun e w' => e = .returned (.bool true) ∧ Below w.heap.size w w' := by
  have c := H.yes 0 1 0 w (by decide) (by decide) (by decide) (by decide)
  rw [form0] at c
  simp only [Int.cast_ofNat_Int] at c
  go_enter Try.func9, Try.ntmps9
  go_wp2_with fail
  refine c.mono ?_
  rintro e w1 ⟨rfl, hb⟩
  go_wp2
  go_ret
  exact ⟨rfl, hb⟩

set_option maxRecDepth 100000 in
theorem tok_eql (s b t s' b' t' : Int) (w : World) : (binOp .eql 24 (tok s b t) (tok s' b' t')).run Try.prog w = .ok (.bool (decide (s = s' ∧ b = b' ∧ t = t'))) w := by
  have hu := Try.underlying24
  have hp : Try.prog.stoodInHeld 24 = false := by kernel_rfl
  rw [run_eql_struct]
  rw [show (10000 : Nat) = 9999 + 1 from rfl, run_equalIn_agg _ _ _ _ _ (by rw [hu]; simp [Program.fieldsOf, hu]) hp]
  simp only [Program.fieldsOf, hu]
  simp [go_sem, Op.eqFields, part, hp, Try.underlying3, Try.underlying22, Try.isAgg3, Try.isAgg22, Try.sizeOf3, Try.sizeOf22]
  by_cases h1 : s = s'
  · by_cases h2 : b = b'
    · by_cases h3 : t = t'
      · simp [h1, h2, h3]
      · simp [h1, h2, h3]
    · simp [h1, h2]
  · simp [h1]

theorem below2 (w : World) (o1 o2 : Obj) : Below w.heap.size w ((w.alloc o1).alloc o2) :=
  ((Below.refl _ _).alloc (Nat.le_refl _) _).alloc (by simp) _

theorem heap2 (w : World) (o1 o2 : Obj) : ((w.alloc o1).alloc o2).heap[w.heap.size + 1]? = some o2 := by
  have := heap_alloc_new (w.alloc o1) o2
  simpa using this

set_option maxHeartbeats 1000000 in
theorem right_any (s b t : Int) (w : World) (hs : -9223372036854775808 ≤ s ∧ s ≤ 9223372036854775807) (hb : -9223372036854775808 ≤ b ∧ b ≤ 9223372036854775807) :
    Calls Try.prog 6 #[tok s b t] w fun e w' => e = .returned (tok (s % 32) (1 + b % 1048576) t) ∧ Below w.heap.size w w' := by
  have C1 : Hid (∀ w, Calls Try.prog 10 #[nu s, nu 32] w fun e w' => e = .returned (nu (s % 32)) ∧ w' = w) := fun w => pick_any s 32 w (by decide) (by decide) hs
  have C2 : Hid (∀ w, Calls Try.prog 10 #[nu b, nu 1048576] w fun e w' => e = .returned (nu (b % 1048576)) ∧ w' = w) := fun w => pick_any b 1048576 w (by decide) (by decide) hb
  have b1 : 0 ≤ b % 1048576 := by omega
  have b2 : b % 1048576 < 1048576 := by omega
  generalize s % 32 = x at *
  generalize b % 1048576 = y at *
  have hw : IntKind.i64.wrap (1 + y) = 1 + y := by rw [IntKind.wrap_i64]; omega
  clear hs hb
  unfold tok
  go_enter Try.func6, Try.ntmps6
  go_wp2_with fail
  go_region_held3 (fun w' => w'.cell? ⟨w.heap.size, 0, none⟩ = some (nu s) ∧ w'.cell? ⟨w.heap.size, 1, none⟩ = some (nu b) ∧ w'.cell? ⟨w.heap.size, 2, none⟩ = some (u8v t)) (go_keep) (first | (go_at_call 10; with_reducible refine (C1.out _).mono ?_; rintro e w' ⟨rfl, rfl⟩) | (go_at_call 10; with_reducible refine (C2.out _).mono ?_; rintro e w' ⟨rfl, rfl⟩) | fail)
  all_goals (go_wp2; refine bodyPost_ret (results_cell_row rfl _ _ (w.heap.size + 1) _ _ _ _ rfl (heap2 w _ _) Try.underlying24 rfl (tokSize _ _ _)) rfl ?_; exact ⟨by first | rfl | rw [hw], (below2 w _ _).drew⟩)

theorem tokAt_new (w : World) (s b t : Int) : TokAt (w.alloc (.cells #[nu s, nu b, u8v t] 24)) w.heap.size s b t := heap_alloc_new _ _

theorem below_new (w : World) (o : Obj) : Below w.heap.size w (w.alloc o) := (Below.refl _ _).alloc (Nat.le_refl _) _

/-- A token that may be, as numbers. -/
theorem nat_of (s b : Int) (hm : mayB s b = true) : ∃ s' b' : Nat, s = s' ∧ b = b' ∧ s' < 32 ∧ 1 ≤ b' ∧ b' ≤ 1048576 := by
  have h := (may_iff s b).1 hm
  exact ⟨s.toNat, b.toNat, by omega, by omega, by omega, by omega, by omega⟩

set_option maxHeartbeats 1000000 in
theorem tokenThere_says (H : Says) (s b : Int) (t : Nat) (w : World) (hs : -9223372036854775808 ≤ s ∧ s ≤ 9223372036854775807) (hb : -9223372036854775808 ≤ b ∧ b ≤ 9223372036854775807) (ht : t < 18446744073709551616) :
    Calls Try.prog 3 #[tok s b t] w fun e w' => e = .returned (.bool true) ∧ Below w.heap.size w w' := by
  have c1 := right_any s b t (w.alloc (.cells #[nu s, nu b, u8v t] 24)) hs hb
  have HH := Hid.mk' H
  have hB0 := below_new w (.cells #[nu s, nu b, u8v t] 24)
  obtain ⟨x, hx, hx1⟩ : ∃ x : Nat, s % 32 = x ∧ x < 32 := ⟨(s % 32).toNat, by omega, by omega⟩
  obtain ⟨y, hy, hy1, hy2⟩ : ∃ y : Nat, 1 + b % 1048576 = y ∧ 1 ≤ y ∧ y ≤ 1048576 := ⟨(1 + b % 1048576).toNat, by omega, by omega, by omega⟩
  rw [hx, hy] at c1
  have hp := prs_form x y t hx1 hy1 hy2 ht
  have hfl := form_len x y t
  have he := fun w => tok_eql x y t x y t w
  rw [decide_eq_true ⟨rfl, rfl, rfl⟩] at he
  clear hx hy hs hb
  unfold tok at *
  go_enter Try.func3, Try.ntmps3
  go_wp2_with fail
  refine c1.mono ?_
  rintro e w1 ⟨rfl, hb1⟩
  have hB1 := Hid.mk' (below_to' hB0 hb1)
  have c2 := HH.out.yes x y t (w1.alloc (.cells #[nu x, nu y, u8v t] 24)) hx1 hy1 hy2 ht
  have hT1 := Hid.mk' (tokAt_new w1 x y t)
  have hN1 := below_new w1 (.cells #[nu x, nu y, u8v t] 24)
  clear c1 hb1 hB0
  unfold tok at *
  have c3 : Hid (∀ wx, Calls Try.prog 8 #[.string (tx (form x y t))] wx fun e w' => e = .returned (.tuple #[tok x y t, .nilIface]) ∧ Below wx.heap.size wx w') := fun wx => by
    have := HH.out.read (form x y t) wx (by rw [hfl]; decide)
    rw [hp] at this
    exact this
  have hsz : (tx (form x y t)).size = 21 := hfl
  clear hp hfl
  generalize tx (form x y t) = f at *
  go_wp2_with fail
  refine c2.mono ?_
  rintro e w2 ⟨rfl, hb2⟩
  have hT2 := Hid.mk' (hT1.out.below hb2 (by simp))
  have hB2 := Hid.mk' (below_to' hB1.out (below_to' hN1 hb2))
  have hw1 : w1.heap.size < w2.heap.size := by have := hb2.size; simp at this; omega
  clear c2 hb2 hT1 hN1
  go_wp2_with fail
  refine (c3.out _).mono ?_
  rintro e w3 ⟨rfl, hb3⟩
  have hT3 := Hid.mk' (hT2.out.below hb3 hw1)
  have hB3 := Hid.mk' (below_to' hB2.out hb3)
  have hw3 : w1.heap.size < w3.heap.size := Nat.lt_of_lt_of_le hw1 hb3.size
  have c4 := works_says HH.out (w3.alloc (.cells #[nu x, nu y, u8v t] 24))
  have hT4 := Hid.mk' (tokAt_new w3 x y t)
  have hN4 := below_new w3 (.cells #[nu x, nu y, u8v t] 24)
  clear c3 hb3
  unfold tok
  go_wp2_with fail
  refine c4.mono ?_
  rintro e w4 ⟨rfl, hb4⟩
  obtain ⟨q0, q1, q2⟩ := tok_cells (hT4.out.below hb4 (by simp))
  obtain ⟨p0, p1, p2⟩ := tok_cells ((hT3.out.below hN4 hw3).below hb4 (by simp; omega))
  have hB4 := Hid.mk' (below_to' hB3.out (below_to' hN4 hb4))
  clear hb4 c4 hN4
  go_wp2
  go_ret
  exact ⟨rfl, hB4.out⟩

set_option maxHeartbeats 1000000 in
theorem tokenBack_says (H : Says) (l : List UInt8) (w : World) (hl : l.length ≤ maxLen) :
    Calls Try.prog 4 #[.string (tx l)] w fun e w' => e = .returned (.bool true) ∧ Below w.heap.size w w' := by
  have HH := Hid.mk' H
  have c1 := H.read l w hl
  have hsz : (tx l).size = l.length := rfl
  clear H
  cases hn : (prs l).no with
  | zero =>
    obtain ⟨hf, f1, f2, f3, f4⟩ := form_prs l hn
    rw [hn] at c1
    have e0 : errE 0 = .nilIface := rfl
    rw [e0] at c1
    generalize (prs l).s = x at *
    generalize (prs l).b = y at *
    generalize (prs l).t = t at *
    have c2 : Hid (∀ wx, Calls Try.prog 7 #[tok x y t] wx fun e w' => e = .returned (.tuple #[.string (tx l), .nilIface]) ∧ Below wx.heap.size wx w') := fun wx => by
      have := HH.out.yes x y t wx f1 f2 f3 f4
      rwa [hf] at this
    clear hf
    unfold tok at *
    generalize tx l = b at *
    go_enter Try.func4, Try.ntmps4
    go_wp2_with fail
    refine c1.mono ?_
    rintro e w1 ⟨rfl, hb1⟩
    have hN1 := below_new w1 (.cells #[nu x, nu y, u8v t] 24)
    go_wp2_with fail
    refine (c2.out _).mono ?_
    rintro e w2 ⟨rfl, hb2⟩
    have hB2 := Hid.mk' (below_to' hb1 (below_to' hN1 hb2))
    have c3 := works_says HH.out w2
    go_wp2_with fail
    refine c3.mono ?_
    rintro e w3 ⟨rfl, hb3⟩
    go_wp2
    go_ret
    exact ⟨rfl, below_to' hB2.out hb3⟩
  | succ n =>
    obtain ⟨z0, z1, z2⟩ := (prs_no l).2 (by omega)
    rw [hn, z0, z1, z2] at c1
    have e0 : errE (n + 1) = noE ((n + 1 : Nat) : Int) := rfl
    rw [e0] at c1
    have he := fun w => tok_eql 0 0 0 0 0 0 w
    rw [decide_eq_true ⟨rfl, rfl, rfl⟩] at he
    simp only [Int.cast_ofNat_Int] at c1
    unfold tok noE at *
    generalize ((n + 1 : Nat) : Int) = m at *
    clear hn
    generalize tx l = b at *
    go_enter Try.func4, Try.ntmps4
    go_wp2_with fail
    refine c1.mono ?_
    rintro e w1 ⟨rfl, hb1⟩
    have c3 := works_says HH.out (w1.alloc (.cells #[nu 0, nu 0, u8v 0] 24))
    have hT1 := Hid.mk' (tokAt_new w1 0 0 0)
    have hN1 := below_new w1 (.cells #[nu 0, nu 0, u8v 0] 24)
    go_wp2_with fail
    refine c3.mono ?_
    rintro e w3 ⟨rfl, hb3⟩
    obtain ⟨q0, q1, q2⟩ := tok_cells (hT1.out.below hb3 (by simp))
    have hB3 := Hid.mk' (below_to' hb1 (below_to' hN1 hb3))
    clear hb3 c3 hN1 hb1 c1
    go_wp2
    go_ret
    exact ⟨rfl, hB3.out⟩

theorem same_text (a b : List UInt8) (q : Bool) (h : q = decide (a = b)) : ((tx a).toList == (tx b).toList) = q := by
  rw [h, Bool.eq_iff_iff, beq_iff_eq, decide_eq_true_iff, ByteArray.toList_eq, ByteArray.toList_eq]

set_option maxHeartbeats 2000000 in
theorem tokenApart_says (H : Says) (s b : Int) (t : Nat) (s' b' : Int) (t' : Nat) (w : World) (hs : -9223372036854775808 ≤ s ∧ s ≤ 9223372036854775807) (hb : -9223372036854775808 ≤ b ∧ b ≤ 9223372036854775807) (ht : t < 18446744073709551616) (hs' : -9223372036854775808 ≤ s' ∧ s' ≤ 9223372036854775807) (hb' : -9223372036854775808 ≤ b' ∧ b' ≤ 9223372036854775807) (ht' : t' < 18446744073709551616) :
    Calls Try.prog 5 #[tok s b t, tok s' b' t'] w fun e w' => e = .returned (.bool true) ∧ Below w.heap.size w w' := by
  have HH := Hid.mk' H
  have c1 : Hid (∀ wx, Calls Try.prog 6 #[tok s b t] wx fun e w' => e = .returned (tok (s % 32) (1 + b % 1048576) t) ∧ Below wx.heap.size wx w') := fun wx => right_any s b t wx hs hb
  have c2 : Hid (∀ wx, Calls Try.prog 6 #[tok s' b' t'] wx fun e w' => e = .returned (tok (s' % 32) (1 + b' % 1048576) t') ∧ Below wx.heap.size wx w') := fun wx => right_any s' b' t' wx hs' hb'
  obtain ⟨x, hx, hx1⟩ : ∃ x : Nat, s % 32 = x ∧ x < 32 := ⟨(s % 32).toNat, by omega, by omega⟩
  obtain ⟨y, hy, hy1, hy2⟩ : ∃ y : Nat, 1 + b % 1048576 = y ∧ 1 ≤ y ∧ y ≤ 1048576 := ⟨(1 + b % 1048576).toNat, by omega, by omega, by omega⟩
  obtain ⟨x', hx', hx1'⟩ : ∃ x : Nat, s' % 32 = x ∧ x < 32 := ⟨(s' % 32).toNat, by omega, by omega⟩
  obtain ⟨y', hy', hy1', hy2'⟩ : ∃ y : Nat, 1 + b' % 1048576 = y ∧ 1 ≤ y ∧ y ≤ 1048576 := ⟨(1 + b' % 1048576).toNat, by omega, by omega, by omega⟩
  rw [hx, hy] at c1
  rw [hx', hy'] at c2
  clear hx hy hx' hy' hs hb hs' hb' H
  obtain ⟨q, hq⟩ : ∃ q, decide ((x : Int) = x' ∧ (y : Int) = y' ∧ (t : Int) = t') = q := ⟨_, rfl⟩
  have he := fun w => tok_eql x y t x' y' t' w
  rw [hq] at he
  have hq2 : q = decide (form x y t = form x' y' t') := by
    rw [← hq, decide_eq_decide]
    constructor
    · rintro ⟨e1, e2, e3⟩
      obtain rfl : x = x' := by omega
      obtain rfl : y = y' := by omega
      obtain rfl : t = t' := by omega
      rfl
    · intro e
      obtain ⟨rfl, rfl, rfl⟩ := form_inj x y t x' y' t' hx1 hy1 hy2 ht hx1' hy1' hy2' ht' e
      exact ⟨rfl, rfl, rfl⟩
  have hst := same_text _ _ q hq2
  have c3 : Hid (∀ wx, Calls Try.prog 7 #[tok x y t] wx fun e w' => e = .returned (.tuple #[.string (tx (form x y t)), .nilIface]) ∧ Below wx.heap.size wx w') := fun wx => HH.out.yes x y t wx hx1 hy1 hy2 ht
  have c4 : Hid (∀ wx, Calls Try.prog 7 #[tok x' y' t'] wx fun e w' => e = .returned (.tuple #[.string (tx (form x' y' t')), .nilIface]) ∧ Below wx.heap.size wx w') := fun wx => HH.out.yes x' y' t' wx hx1' hy1' hy2' ht'
  have hqq : (q == q) = true := by cases q <;> rfl
  clear hq2 hq
  generalize tx (form x y t) = f at *
  generalize tx (form x' y' t') = f' at *
  have hA0 : Hid (TokAt ((w.alloc (.cells #[nu s, nu b, u8v t] 24)).alloc (.cells #[nu s', nu b', u8v t'] 24)) (w.heap.size + 1) s' b' t') := heap2 w _ _
  have hB0 := Hid.mk' (below2 w (.cells #[nu s, nu b, u8v t] 24) (.cells #[nu s', nu b', u8v t'] 24))
  unfold tok at *
  go_enter Try.func5, Try.ntmps5
  go_wp2_with fail
  refine (c1.out _).mono ?_
  rintro e w1 ⟨rfl, hb1⟩
  have hN1 := below_new w1 (.cells #[nu x, nu y, u8v t] 24)
  have hk1 := hb1.size
  simp at hk1
  have hA1 := Hid.mk' ((hA0.out.below hb1 (by simp)).below hN1 (by omega))
  have hX1 := Hid.mk' (tokAt_new w1 x y t)
  have hB1 := Hid.mk' (below_to' hB0.out (below_to' hb1 hN1))
  obtain ⟨a0, a1, a2⟩ := tok_cells hA1.out
  have hz1 : (w1.alloc (.cells #[nu x, nu y, u8v t] 24)).heap.size = w1.heap.size + 1 := by simp
  clear hb1 hN1 hA0 hB0
  go_wp2_with fail
  refine (c2.out _).mono ?_
  rintro e w2 ⟨rfl, hb2⟩
  have hk2 := hb2.size
  rw [hz1] at hk2
  have hN2 := below_new w2 (.cells #[nu x', nu y', u8v t'] 24)
  have hX2 := Hid.mk' ((hX1.out.below hb2 (by rw [hz1]; omega)).below hN2 (by omega))
  have hY2 := Hid.mk' (tokAt_new w2 x' y' t')
  have hB2 := Hid.mk' (below_to' hB1.out (below_to' hb2 hN2))
  obtain ⟨p0, p1, p2⟩ := tok_cells hX2.out
  have hz2 : (w2.alloc (.cells #[nu x', nu y', u8v t'] 24)).heap.size = w2.heap.size + 1 := by simp
  clear hb2 hN2 hX1 hA1 hB1 a0 a1 a2
  go_wp2_with fail
  refine (c3.out _).mono ?_
  rintro e w3 ⟨rfl, hb3⟩
  have hX3 := Hid.mk' (hX2.out.below hb3 (by rw [hz2]; omega))
  have hY3 := Hid.mk' (hY2.out.below hb3 (by rw [hz2]; omega))
  have hB3 := Hid.mk' (below_to' hB2.out hb3)
  have hk3 := hb3.size
  rw [hz2] at hk3
  obtain ⟨r0, r1, r2⟩ := tok_cells hY3.out
  clear hb3 hX2 hY2 hB2 p0 p1 p2
  go_wp2_with fail
  refine (c4.out _).mono ?_
  rintro e w4 ⟨rfl, hb4⟩
  have hX4 := Hid.mk' (hX3.out.below hb4 (by omega))
  have hY4 := Hid.mk' (hY3.out.below hb4 (by omega))
  have hB4 := Hid.mk' (below_to' hB3.out hb4)
  have hk4 := hb4.size
  have c5 := works_says HH.out w4
  clear hb4 hX3 hY3 hB3 r0 r1 r2
  go_wp2_with fail
  refine c5.mono ?_
  rintro e w5 ⟨rfl, hb5⟩
  obtain ⟨p0, p1, p2⟩ := tok_cells (hX4.out.below hb5 (by omega))
  obtain ⟨r0, r1, r2⟩ := tok_cells (hY4.out.below hb5 (by omega))
  have hB5 := Hid.mk' (below_to' hB4.out hb5)
  clear hb5 hX4 hY4 hB4 c5
  go_wp2
  go_ret
  exact ⟨rfl, hB5.out⟩
end Tk
end Go.Proofs.Ytkkpcngdpnoidaa
