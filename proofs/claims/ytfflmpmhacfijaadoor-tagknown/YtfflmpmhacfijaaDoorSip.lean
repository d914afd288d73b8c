/- The keyed sum as plain functions of numbers; turning a number; the round, in the program and in the document's answer. -/
import Derived.Test.YtfflmpmhacfijaaDoorRowB
namespace Go.Proofs.YtfflmpmhacfijaaDoor
set_option linter.ambiguousOpen false
open Go.RowKit
namespace Tg
open Sm
set_option linter.unusedSimpArgs false
set_option linter.unusedVariables false

/-- A number of 64 bits as the program holds it. -/
@[reducible] def u8v (x : Int) : Value := .int .u64 x

theorem ret_u8v {a b : Int} (h : a = b) : Ending.returned (.int .u64 a) = .returned (.int .u64 b) := by rw [h]

/-- A number turned, told by the two powers. -/
def turn (a b x : Int) : Int := bits .or .u64 (IntKind.u64.wrap (x * a)) (x / b)

/-- Turned by 13. -/
def t13 (x : Int) : Int := turn 8192 2251799813685248 x

theorem rot13 (x : Int) (w : World) : Calls Tryd.prog 42 #[u8v x, nu 13] w fun e w' => e = .returned (u8v (t13 x)) ∧ w' = w := by
  have hb : bits .and .u64 13 63 = 13 := by decide +kernel
  go_enter Tryd.func42, Tryd.ntmps42
  go_wp2
  go_ret
  exact ⟨rfl, rfl⟩

theorem ref13 (x : Int) (w : World) : Calls Tryd.prog 37 #[u8v x, nu 13] w fun e w' => e = .returned (u8v (t13 x)) ∧ w' = w := by
  go_enter Tryd.func37, Tryd.ntmps37
  go_wp2
  go_ret
  exact ⟨rfl, rfl⟩

/-- Turned by 32. -/
def t32 (x : Int) : Int := turn 4294967296 4294967296 x

theorem rot32 (x : Int) (w : World) : Calls Tryd.prog 42 #[u8v x, nu 32] w fun e w' => e = .returned (u8v (t32 x)) ∧ w' = w := by
  have hb : bits .and .u64 32 63 = 32 := by decide +kernel
  go_enter Tryd.func42, Tryd.ntmps42
  go_wp2
  go_ret
  exact ⟨rfl, rfl⟩

theorem ref32 (x : Int) (w : World) : Calls Tryd.prog 37 #[u8v x, nu 32] w fun e w' => e = .returned (u8v (t32 x)) ∧ w' = w := by
  go_enter Tryd.func37, Tryd.ntmps37
  go_wp2
  go_ret
  exact ⟨rfl, rfl⟩

/-- Turned by 16. -/
def t16 (x : Int) : Int := turn 65536 281474976710656 x

theorem rot16 (x : Int) (w : World) : Calls Tryd.prog 42 #[u8v x, nu 16] w fun e w' => e = .returned (u8v (t16 x)) ∧ w' = w := by
  have hb : bits .and .u64 16 63 = 16 := by decide +kernel
  go_enter Tryd.func42, Tryd.ntmps42
  go_wp2
  go_ret
  exact ⟨rfl, rfl⟩

theorem ref16 (x : Int) (w : World) : Calls Tryd.prog 37 #[u8v x, nu 16] w fun e w' => e = .returned (u8v (t16 x)) ∧ w' = w := by
  go_enter Tryd.func37, Tryd.ntmps37
  go_wp2
  go_ret
  exact ⟨rfl, rfl⟩

/-- Turned by 21. -/
def t21 (x : Int) : Int := turn 2097152 8796093022208 x

theorem rot21 (x : Int) (w : World) : Calls Tryd.prog 42 #[u8v x, nu 21] w fun e w' => e = .returned (u8v (t21 x)) ∧ w' = w := by
  have hb : bits .and .u64 21 63 = 21 := by decide +kernel
  go_enter Tryd.func42, Tryd.ntmps42
  go_wp2
  go_ret
  exact ⟨rfl, rfl⟩

theorem ref21 (x : Int) (w : World) : Calls Tryd.prog 37 #[u8v x, nu 21] w fun e w' => e = .returned (u8v (t21 x)) ∧ w' = w := by
  go_enter Tryd.func37, Tryd.ntmps37
  go_wp2
  go_ret
  exact ⟨rfl, rfl⟩

/-- Turned by 17. -/
def t17 (x : Int) : Int := turn 131072 140737488355328 x

theorem rot17 (x : Int) (w : World) : Calls Tryd.prog 42 #[u8v x, nu 17] w fun e w' => e = .returned (u8v (t17 x)) ∧ w' = w := by
  have hb : bits .and .u64 17 63 = 17 := by decide +kernel
  go_enter Tryd.func42, Tryd.ntmps42
  go_wp2
  go_ret
  exact ⟨rfl, rfl⟩

theorem ref17 (x : Int) (w : World) : Calls Tryd.prog 37 #[u8v x, nu 17] w fun e w' => e = .returned (u8v (t17 x)) ∧ w' = w := by
  go_enter Tryd.func37, Tryd.ntmps37
  go_wp2
  go_ret
  exact ⟨rfl, rfl⟩

/-- The four numbers of a sum. -/
structure V4 where
  a : Int
  b : Int
  c : Int
  d : Int

/-- A sum of numbers of 64 bits. -/
def ad (x y : Int) : Int := IntKind.u64.wrap (x + y)

/-- The exclusive or. -/
def xr (x y : Int) : Int := bits .xor .u64 x y

/-- One round. -/
def rnd (v : V4) : V4 :=
  let a1 := ad v.a v.b
  let b1 := xr (t13 v.b) a1
  let a2 := t32 a1
  let c1 := ad v.c v.d
  let d1 := xr (t16 v.d) c1
  let a3 := ad a2 d1
  let d2 := xr (t21 d1) a3
  let c2 := ad c1 b1
  let b2 := xr (t17 b1) c2
  let c3 := t32 c2
  ⟨a3, b2, c3, d2⟩

/-- The four numbers as an array. -/
@[reducible] def st (v : V4) : Value := .agg #[u8v v.a, u8v v.b, u8v v.c, u8v v.d]

theorem results_tmp4 {fn : Func} {t u v z : Tmp} (h : fn.results = #[.tmp t, .tmp u, .tmp v, .tmp z]) (tmps : Array Value) (P : Program) (w : World) :
    (results fn tmps).run P w = .ok (.tuple #[tmps.getD t undef, tmps.getD u undef, tmps.getD v undef, tmps.getD z undef]) w := by
  simp [results, h]

set_option maxHeartbeats 1000000 in
theorem refRound (v : V4) (w : World) : Calls Tryd.prog 26 #[u8v v.a, u8v v.b, u8v v.c, u8v v.d] w fun e w' => e = .returned (.tuple #[u8v (rnd v).a, u8v (rnd v).b, u8v (rnd v).c, u8v (rnd v).d]) ∧ w' = w := by
  obtain ⟨a, b, c, d⟩ := v
  go_enter Tryd.func26, Tryd.ntmps26
  go_wp2_with fail
  refine (ref13 _ _).mono ?_
  rintro e w' ⟨rfl, hw⟩
  subst w'
  go_wp2_with fail
  refine (ref32 _ _).mono ?_
  rintro e w' ⟨rfl, hw⟩
  subst w'
  go_wp2_with fail
  refine (ref16 _ _).mono ?_
  rintro e w' ⟨rfl, hw⟩
  subst w'
  go_wp2_with fail
  refine (ref21 _ _).mono ?_
  rintro e w' ⟨rfl, hw⟩
  subst w'
  go_wp2_with fail
  refine (ref17 _ _).mono ?_
  rintro e w' ⟨rfl, hw⟩
  subst w'
  go_wp2_with fail
  refine (ref32 _ _).mono ?_
  rintro e w' ⟨rfl, hw⟩
  subst w'
  go_wp2
  refine bodyPost_ret (results_tmp4 rfl _ _ _) rfl ?_
  exact ⟨rfl, rfl⟩

theorem heap2 (w : World) (o1 o2 : Obj) : ((w.alloc o1).alloc o2).heap[w.heap.size + 1]? = some o2 := by
  have := heap_alloc_new (w.alloc o1) o2
  simpa using this

theorem below2 (w : World) (o1 o2 : Obj) : Below w.heap.size w ((w.alloc o1).alloc o2) :=
  ((Below.refl _ _).alloc (Nat.le_refl _) _).alloc (by simp) _

theorem stSize (a b c d : Value) : (Tryd.prog.info? 47).map (·.size) = some #[a, b, c, d].size := by kernel_rfl

set_option maxHeartbeats 4000000 in
set_option maxRecDepth 100000 in
theorem turned_any (v : V4) (w : World) : Calls Tryd.prog 36 #[st v] w fun e w' => e = .returned (st (rnd v)) ∧ Below w.heap.size w w' := by
  obtain ⟨a, b, c, d⟩ := v
  unfold st
  go_enter Tryd.func36, Tryd.ntmps36
  go_wp2_with fail
  go_cut [] from 9 to 15 (fun wr => Hid (wr = ((w.alloc (.cells #[u8v (ad a b), u8v (xr (t13 b) (ad a b)), u8v (c), u8v (d)] 47)).alloc (.cells #[u8v 0, u8v 0, u8v 0, u8v 0] 47)).drew))
  case first =>
    go_region_with (go_at_call 42; refine (rot13 _ _).mono ?_; rintro e w' ⟨rfl, rfl⟩)
    all_goals (go_wp2_with fail; go_meet; exact rfl)
  have hcut' := hcut.out
  clear hcut
  subst hcut'
  go_wp2_with fail
  refine (rot32 _ _).mono ?_
  rintro e w' ⟨rfl, hw⟩
  subst w'
  go_wp2_with fail
  go_cut [] from 26 to 32 (fun wr => Hid (wr = ((w.alloc (.cells #[u8v (t32 (ad a b)), u8v (xr (t13 b) (ad a b)), u8v (ad c d), u8v (xr (t16 d) (ad c d))] 47)).alloc (.cells #[u8v 0, u8v 0, u8v 0, u8v 0] 47)).drew.drew))
  case first =>
    go_region_with (go_at_call 42; refine (rot16 _ _).mono ?_; rintro e w' ⟨rfl, rfl⟩)
    all_goals (go_wp2_with fail; go_meet; exact rfl)
  have hcut' := hcut.out
  clear hcut
  subst hcut'
  go_wp2_with fail
  go_cut [] from 39 to 45 (fun wr => Hid (wr = ((w.alloc (.cells #[u8v (ad (t32 (ad a b)) (xr (t16 d) (ad c d))), u8v (xr (t13 b) (ad a b)), u8v (ad c d), u8v (xr (t21 (xr (t16 d) (ad c d))) (ad (t32 (ad a b)) (xr (t16 d) (ad c d))))] 47)).alloc (.cells #[u8v 0, u8v 0, u8v 0, u8v 0] 47)).drew.drew.drew))
  case first =>
    go_region_with (go_at_call 42; refine (rot21 _ _).mono ?_; rintro e w' ⟨rfl, rfl⟩)
    all_goals (go_wp2_with fail; go_meet; exact rfl)
  have hcut' := hcut.out
  clear hcut
  subst hcut'
  go_wp2_with fail
  go_cut [] from 52 to 58 (fun wr => Hid (wr = ((w.alloc (.cells #[u8v (ad (t32 (ad a b)) (xr (t16 d) (ad c d))), u8v (xr (t17 (xr (t13 b) (ad a b))) (ad (ad c d) (xr (t13 b) (ad a b)))), u8v (ad (ad c d) (xr (t13 b) (ad a b))), u8v (xr (t21 (xr (t16 d) (ad c d))) (ad (t32 (ad a b)) (xr (t16 d) (ad c d))))] 47)).alloc (.cells #[u8v 0, u8v 0, u8v 0, u8v 0] 47)).drew.drew.drew.drew))
  case first =>
    go_region_with (go_at_call 42; refine (rot17 _ _).mono ?_; rintro e w' ⟨rfl, rfl⟩)
    all_goals (go_wp2_with fail; go_meet; exact rfl)
  have hcut' := hcut.out
  clear hcut
  subst hcut'
  go_wp2_with fail
  refine (rot32 _ _).mono ?_
  rintro e w' ⟨rfl, hw⟩
  subst w'
  go_wp2
  refine bodyPost_ret (results_cell_row rfl _ _ (w.heap.size + 1) _ _ _ _ rfl (heap2 w _ _) Tryd.underlying47 rfl (stSize _ _ _ _)) rfl ?_
  exact ⟨rfl, (below2 w _ _).drew.drew.drew.drew⟩

end Tg
end Go.Proofs.YtfflmpmhacfijaaDoor
