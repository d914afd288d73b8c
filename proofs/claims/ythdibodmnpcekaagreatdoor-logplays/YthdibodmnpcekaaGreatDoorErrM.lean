/- Is, Num, As, AsTop, Place, in one text. -/
import Derived.Test.YthdibodmnpcekaaGreatDoorProg
import Derived.WalkKit
import Derived.LaidEql
import Derived.Stop.Asserts
import Derived.RowKitTokens
import Derived.Deep.RegionHeld3
/- errors.Is at the errors of package api: a number, or a number with a place. -/
namespace Go.Proofs.YthdibodmnpcekaaGreatDoor
open Go.RowKit Go.Extern.Stop Go.Stop Go.Extern
namespace Er
set_option linter.unusedSimpArgs false
set_option linter.unusedVariables false

/-- An error's number. -/
def noV (n : Int) : Value := .iface 58 (.int .i64 n)

/-- An error with a place. -/
def atV (n k : Int) : Value := .iface 69 (.agg #[.int .i64 n, .int .i64 k])

section
variable {P : Program}

theorem eq_in (w : World) (d : Nat) {ti tn : TypeId} {ms : Array (String × TypeId)} {i : TypeInfo} {k : IntKind} (a b : Int)
    (hi : P.underlying ti = some (.interface ms)) (hn : P.underlying tn = some (.int k)) (hc : P.info? tn = some i) (hm : i.comparable = true) :
    (Op.equalIn (d + 2) ti (.iface tn (.int k a)) (.iface tn (.int k b))).run P w = .ok (a == b) w := by
  simp [Op.equalIn, run_underlying hi, run_underlying hn, typeInfo, hc, hm]

theorem eq_errno (w : World) {ti tn : TypeId} {ms : Array (String × TypeId)} {k : IntKind} (a b : Int)
    (hi : P.underlying ti = some (.interface ms)) (hn : P.underlying tn = some (.int k)) (hc : (P.info? tn).map (·.comparable) = some true) :
    (binOp .eql ti (.iface tn (.int k a)) (.iface tn (.int k b))).run P w = .ok (.bool (a == b)) w := by
  obtain ⟨i, h1, h2⟩ := Option.map_eq_some_iff.1 hc
  simp only [binOp]
  simp [Op.equal, Op.maxDepth, eq_in w 9998 a b hi hn h1 h2]
end

theorem cmp62 : (Tryz.prog.info? 58).map (·.comparable) = some true := by kernel_rfl

theorem eqE (a b : Int) (w : World) : (binOp .eql 30 (noV a) (noV b)).run Tryz.prog w = .ok (.bool (a == b)) w :=
  eq_errno w a b Tryz.underlying30 Tryz.underlying58 cmp62

theorem eqF (n k b : Int) (w : World) : (binOp .eql 30 (atV n k) (noV b)).run Tryz.prog w = .ok (.bool false) w :=
  run_eql_iface_types 69 58 _ _ Tryz.underlying30 (by decide) w

theorem noIsE (v : Value) (x : TypeId) (w : World) : (Instr.typeAssert (.iface 58 v) x 162 true).run Tryz.prog w = .ok (.tuple #[.nilIface, .bool false]) w :=
  run_typeAssert_lacksB Tryz.underlying162 (by kernel_rfl) (by kernel_rfl) v x w

theorem noIsF (v : Value) (x : TypeId) (w : World) : (Instr.typeAssert (.iface 69 v) x 162 true).run Tryz.prog w = .ok (.tuple #[.nilIface, .bool false]) w :=
  run_typeAssert_lacksB Tryz.underlying162 (by kernel_rfl) (by kernel_rfl) v x w

theorem noUnE (v : Value) (x : TypeId) (w : World) : (Instr.typeAssert (.iface 58 v) x 142 true).run Tryz.prog w = .ok (.tuple #[.nilIface, .bool false]) w :=
  run_typeAssert_lacksB Tryz.underlying142 (by kernel_rfl) (by kernel_rfl) v x w

theorem noUlE (v : Value) (x : TypeId) (w : World) : (Instr.typeAssert (.iface 58 v) x 144 true).run Tryz.prog w = .ok (.tuple #[.nilIface, .bool false]) w :=
  run_typeAssert_lacksB Tryz.underlying144 (by kernel_rfl) (by kernel_rfl) v x w

theorem unF (v : Value) (x : TypeId) (w : World) : (Instr.typeAssert (.iface 69 v) x 142 true).run Tryz.prog w = .ok (.tuple #[.iface 69 v, .bool true]) w :=
  run_typeAssert_hasB Tryz.underlying142 (by kernel_rfl) v x w

theorem methUn (v : Value) (w : World) : (Go.method 300 69 v "Unwrap").run Tryz.prog w = .ok (105, v) w := by kernel_rfl

theorem unwrap_any (n k : Int) (w : World) : Calls Tryz.prog 105 #[.agg #[.int .i64 n, .int .i64 k]] w fun e w' => e = .returned (noV n) ∧ w' = w.alloc (.cells #[.int .i64 n, .int .i64 k] 69) := by
  go_enter Tryz.func105, Tryz.ntmps105
  go_wp2
  go_ret
  exact ⟨rfl, rfl⟩

/-- errors.is at a number. -/
theorem is_no (a b : Int) (w : World) : Calls Tryz.prog 66 #[noV a, noV b, .bool true] w fun e w' => e = .returned (.bool (a == b)) ∧ w' = w := by
  have h1 := eqE a b
  have h2 := noIsE
  have h3 := noUnE
  have h4 := noUlE
  unfold noV at h1 ⊢
  go_enter Tryz.func66, Tryz.ntmps66
  cases hab : (a == b) with
  | true =>
    rw [hab] at h1
    go_wp2
    refine wp_loop_rounds 1 ?_
    rw [rounds_succ]
    go_wp2
    go_ret
    exact ⟨rfl, rfl⟩
  | false =>
    rw [hab] at h1
    go_wp2
    refine wp_loop_rounds 1 ?_
    rw [rounds_succ]
    go_wp2
    go_ret
    exact ⟨rfl, rfl⟩

set_option maxRecDepth 100000 in
/-- errors.is at a number with a place. -/
theorem is_at (n k b : Int) (w : World) : Calls Tryz.prog 66 #[atV n k, noV b, .bool true] w fun e w' => e = .returned (.bool (n == b)) ∧ w' = w.alloc (.cells #[.int .i64 n, .int .i64 k] 69) := by
  have h0 := eqF n k b
  have h1 := eqE n b
  have h2 := noIsE
  have h3 := noUnE
  have h4 := noUlE
  have h5 := noIsF
  have h6 := unF
  have h7 := methUn
  unfold noV at h0 h1 ⊢
  unfold atV at h0 ⊢
  go_enter Tryz.func66, Tryz.ntmps66
  cases hab : (n == b) with
  | true =>
    rw [hab] at h1
    go_wp2
    refine wp_loop_rounds 2 ?_
    rw [rounds_succ]
    go_wp2_with (go_at_call 105; refine (unwrap_any n k _).mono ?_; unfold noV; rintro e w' ⟨rfl, rfl⟩)
    rw [rounds_succ]
    go_wp2
    go_ret
    exact ⟨rfl, rfl⟩
  | false =>
    rw [hab] at h1
    go_wp2
    refine wp_loop_rounds 2 ?_
    rw [rounds_succ]
    go_wp2_with (go_at_call 105; refine (unwrap_any n k _).mono ?_; unfold noV; rintro e w' ⟨rfl, rfl⟩)
    rw [rounds_succ]
    go_wp2
    go_ret
    exact ⟨rfl, rfl⟩

theorem typeOfE (v : Value) (w : World) : (ReflectliteType.typeOf #[.iface 58 v]).run Tryz.prog w = .ok (.iface 135 (.agg #[.pointer (some ⟨1, 58, none⟩)])) w := by kernel_rfl

theorem methComparable (h : Value) (w : World) : (Go.method 300 135 (.agg #[h]) "Comparable").run Tryz.prog w = .ok (111, .agg #[h]) w := by kernel_rfl

theorem comparableE (w : World) : (ReflectliteType.method (fun t => do Rtype.noPackHeld "Comparable" t; (fun a => Value.bool a.comparable) <$> typeInfo t) #[.agg #[.pointer (some ⟨1, 58, none⟩)]]).run Tryz.prog w = .ok (.bool true) w := by kernel_rfl

set_option maxRecDepth 100000 in
theorem Is_no (a b : Int) (w : World) : Calls Tryz.prog 41 #[noV a, noV b] w fun e w' => e = .returned (.bool (a == b)) ∧ w' = w := by
  have hT := @run_callFunc_extern Tryz.prog 65 _ ReflectliteType.typeOf Tryz.func65 (by kernel_rfl) (by kernel_rfl) (by kernel_rfl) (by kernel_rfl)
  have hC := @run_callFunc_extern Tryz.prog 111 _ (ReflectliteType.method (fun t => do Rtype.noPackHeld "Comparable" t; pure (.bool (← typeInfo t).comparable))) Tryz.func111 (by kernel_rfl) (by kernel_rfl) (by kernel_rfl) (by kernel_rfl)
  have h1 := typeOfE
  have h2 := methComparable
  have h3 := comparableE
  have c := is_no a b
  unfold noV at c ⊢
  go_enter Tryz.func41, Tryz.ntmps41
  go_wp2_with (go_at_call 66; refine (c _).mono ?_; rintro e w' ⟨rfl, rfl⟩)
  go_ret
  exact ⟨rfl, rfl⟩

set_option maxRecDepth 100000 in
theorem Is_at (n k b : Int) (w : World) : Calls Tryz.prog 41 #[atV n k, noV b] w fun e w' => e = .returned (.bool (n == b)) ∧ w' = w.alloc (.cells #[.int .i64 n, .int .i64 k] 69) := by
  have hT := @run_callFunc_extern Tryz.prog 65 _ ReflectliteType.typeOf Tryz.func65 (by kernel_rfl) (by kernel_rfl) (by kernel_rfl) (by kernel_rfl)
  have hC := @run_callFunc_extern Tryz.prog 111 _ (ReflectliteType.method (fun t => do Rtype.noPackHeld "Comparable" t; pure (.bool (← typeInfo t).comparable))) Tryz.func111 (by kernel_rfl) (by kernel_rfl) (by kernel_rfl) (by kernel_rfl)
  have h1 := typeOfE
  have h2 := methComparable
  have h3 := comparableE
  have c := is_at n k b
  unfold noV at c ⊢
  unfold atV at c ⊢
  go_enter Tryz.func41, Tryz.ntmps41
  go_wp2_with (go_at_call 66; refine (c _).mono ?_; rintro e w' ⟨rfl, rfl⟩)
  go_ret
  exact ⟨rfl, rfl⟩
end Er
end Go.Proofs.YthdibodmnpcekaaGreatDoor
/- The number of an error, as the statements take it. -/
namespace Go.Proofs.YthdibodmnpcekaaGreatDoor
open Go.RowKit
namespace Er
set_option linter.unusedSimpArgs false
set_option linter.unusedVariables false

set_option maxRecDepth 100000 in
set_option maxHeartbeats 1000000 in
theorem num_nil (w : World) : Calls Tryz.prog 18 #[.nilIface] w fun e w' => e = .returned (.int .i64 0) ∧ w' = w := by
  go_enter Tryz.func18, Tryz.ntmps18
  go_wp2
  go_ret
  exact ⟨rfl, rfl⟩

set_option maxRecDepth 100000 in
set_option maxHeartbeats 1000000 in
theorem num_any (e0 : Value) (n : Nat) (h1 : 1 ≤ n) (h2 : n ≤ 24) (w : World) (hc : ∀ (b : Int) (w1 : World), Calls Tryz.prog 41 #[e0, noV b] w1 fun e w' => e = .returned (.bool ((n : Int) == b)) ∧ Below w1.heap.size w1 w') (hi : ∃ t v, e0 = .iface t v) :
    Calls Tryz.prog 18 #[e0] w fun e w' => e = .returned (.int .i64 n) ∧ Below w.heap.size w w' := by
  obtain ⟨t, v, rfl⟩ := hi
  have HC : Hid (∀ (b : Int) (w1 : World), Calls Tryz.prog 41 #[.iface t v, noV b] w1 fun e w' => e = .returned (.bool ((n : Int) == b)) ∧ Below w1.heap.size w1 w') := hc
  clear hc
  unfold noV at HC
  have hz : ((n : Int) == 0) = false := by simp; omega
  go_enter Tryz.func18, Tryz.ntmps18
  go_wp2
  go_loopw [3, 4] (fun f i wr => ∃ k : Nat, 1 ≤ k ∧ k ≤ 25 ∧ i = .int .i64 k ∧ f = .int .i64 (if n < k then (n : Int) else 0) ∧ Below w.heap.size w wr) (fun _ i _ => 25 - (intOf i).toNat)
  case atStart => exact ⟨1, by omega, by omega, rfl, by rw [if_neg (by omega)], Below.refl _ _⟩
  case round =>
    obtain ⟨k, k1, k2, rfl, rfl, hb⟩ := hrel
    by_cases hk : k ≤ 24
    · by_cases hn : n < k
      · rw [if_pos hn]
        have e1 : ((n : Int) == (k : Int)) = false := by simp; omega
        go_wp2_with fail
        go_at_call 41
        refine (HC.out _ _).mono ?_
        rw [e1]
        rintro e w1 ⟨rfl, hb1⟩
        go_wp2
        go_roundw
        case rel => exact ⟨k + 1, by omega, by omega, by go_num, by rw [if_pos (by omega)], hb.trans (hb1.mono hb.size)⟩
        case measure => simp [intOf]; omega
      · rw [if_neg hn]
        by_cases he : n = k
        · have e1 : ((n : Int) == (k : Int)) = true := by simp; omega
          go_wp2_with fail
          go_at_call 41
          refine (HC.out _ _).mono ?_
          rw [e1]
          rintro e w1 ⟨rfl, hb1⟩
          go_wp2
          go_roundw
          case rel => exact ⟨k + 1, by omega, by omega, by go_num, by rw [if_pos (by omega)]; subst he; rfl, hb.trans (hb1.mono hb.size)⟩
          case measure => simp [intOf]; omega
        · have e1 : ((n : Int) == (k : Int)) = false := by simp; omega
          go_wp2_with fail
          go_at_call 41
          refine (HC.out _ _).mono ?_
          rw [e1]
          rintro e w1 ⟨rfl, hb1⟩
          go_wp2
          go_roundw
          case rel => exact ⟨k + 1, by omega, by omega, by go_num, by rw [if_neg (by omega)], hb.trans (hb1.mono hb.size)⟩
          case measure => simp [intOf]; omega
    · obtain rfl : k = 25 := by omega
      rw [if_pos (by omega)]
      go_wp2_with fail
      go_at_call 41
      refine (HC.out _ _).mono ?_
      rw [hz]
      rintro e w1 ⟨rfl, hb1⟩
      go_wp2
      go_ret
      exact ⟨rfl, hb.trans (hb1.mono hb.size)⟩

theorem num_no (n : Nat) (h1 : 1 ≤ n) (h2 : n ≤ 24) (w : World) : Calls Tryz.prog 18 #[noV n] w fun e w' => e = .returned (.int .i64 n) ∧ Below w.heap.size w w' :=
  num_any _ n h1 h2 w (fun b w1 => (Is_no n b w1).mono (by rintro e w' ⟨rfl, rfl⟩; exact ⟨rfl, Below.refl _ _⟩)) ⟨_, _, rfl⟩

/-- At an error with a place (type 69). -/
theorem num_at (n : Nat) (k : Int) (h1 : 1 ≤ n) (h2 : n ≤ 24) (w : World) : Calls Tryz.prog 18 #[atV n k] w fun e w' => e = .returned (.int .i64 n) ∧ Below w.heap.size w w' :=
  num_any _ n h1 h2 w (fun b w1 => (Is_at n k b w1).mono (by rintro e w' ⟨rfl, rfl⟩; exact ⟨rfl, (Below.refl _ _).alloc (Nat.le_refl _) _⟩)) ⟨_, _, rfl⟩
end Er
end Go.Proofs.YthdibodmnpcekaaGreatDoor
/- errors.As at the target *api.Fault: of a number, and of a number with a place. -/
namespace Go.Proofs.YthdibodmnpcekaaGreatDoor
open Go.RowKit Go.Extern.Stop Go.Stop Go.Extern
namespace Er
set_option linter.unusedSimpArgs false
set_option linter.unusedVariables false

/-- A handle of a type. -/
def hdl (t : Nat) : Value := .pointer (some ⟨1, t, none⟩)

theorem valueOfP (t : Addr) (w : World) : (ReflectliteValue.unpack (.iface 72 (.pointer (some t)))).run Tryz.prog w
    = .ok (.agg #[.pointer (some ⟨1, 72, none⟩), .pointer (some ⟨w.heap.size, 0, none⟩), .int .u64 150]) (w.alloc (.cells #[.pointer (some t)] 72)) := by kernel_rfl
theorem typeP (a : Addr) (w : World) : (ReflectliteValue.methodAny (ReflectliteValue.valueError "reflectlite.Value.Type" 0) (fun t _ _ _ => ReflectliteType.toType t) #[.agg #[.pointer (some ⟨1, 72, none⟩), .pointer (some a), .int .u64 150]]).run Tryz.prog w
    = .ok (.iface 135 (.agg #[.pointer (some ⟨1, 72, none⟩)])) w := by kernel_rfl
theorem methKind (h : Value) (w : World) : (Go.method 300 135 (.agg #[h]) "Kind").run Tryz.prog w = .ok (100, h) w := by kernel_rfl
theorem kindP (w : World) : ((ReflectliteType.abiMethod fun t => (fun a : Nat => Value.int IntKind.u8 (a : Int)) <$> Rtype.kind t) #[.pointer (some ⟨1, 72, none⟩)]).run Tryz.prog w = .ok (.int .u8 22) w := by kernel_rfl
theorem kindF (w : World) : ((ReflectliteType.abiMethod fun t => (fun a : Nat => Value.int IntKind.u8 (a : Int)) <$> Rtype.kind t) #[.pointer (some ⟨1, 69, none⟩)]).run Tryz.prog w = .ok (.int .u8 25) w := by kernel_rfl
theorem rlm (z : Sem Value) (f : TypeId → Addr → Nat → Nat → Sem Value) (v : Value) :
    ReflectliteValue.method z f #[v] = (do match ← ReflectliteValue.parts v with | none => z | some (t, a, fl) => f t a fl (fl % 32)) := rfl
theorem partsP (a : Addr) (w : World) : (ReflectliteValue.parts (.agg #[.pointer (some ⟨1, 72, none⟩), .pointer (some a), .int .u64 150])).run Tryz.prog w = .ok (some (72, a, 150)) w := by kernel_rfl
theorem isNilP (a p : Addr) (W : World) (ha : W.cell? a = some (.pointer (some p))) :
    (ReflectliteValue.method (ReflectliteValue.valueError "reflectlite.Value.IsNil" 0) ReflectliteValue.isNil #[.agg #[.pointer (some ⟨1, 72, none⟩), .pointer (some a), .int .u64 150]]).run Tryz.prog W = .ok (.bool false) W := by
  rw [rlm]
  simp only [Sem.run_bind, partsP, Result.andThen]
  simp [ReflectliteValue.isNil, loadVar, isAgg, underlying, Tryz.underlying72, ha, Result.andThen]
theorem methElem (h : Value) (w : World) : (Go.method 300 135 (.agg #[h]) "Elem").run Tryz.prog w = .ok (112, .agg #[h]) w := by kernel_rfl
theorem methImplements (h : Value) (w : World) : (Go.method 300 135 (.agg #[h]) "Implements").run Tryz.prog w = .ok (113, .agg #[h]) w := by kernel_rfl
theorem methAssignableTo (h : Value) (w : World) : (Go.method 300 135 (.agg #[h]) "AssignableTo").run Tryz.prog w = .ok (110, .agg #[h]) w := by kernel_rfl
theorem elemP (w : World) : (ReflectliteType.method ReflectliteType.elem #[.agg #[.pointer (some ⟨1, 72, none⟩)]]).run Tryz.prog w = .ok (.iface 135 (.agg #[.pointer (some ⟨1, 69, none⟩)])) w := by kernel_rfl
theorem implementsF (w : World) : (ReflectliteType.relation "Implements" ReflectliteType.implements_ #[.agg #[.pointer (some ⟨1, 69, none⟩)], .iface 135 (.agg #[.pointer (some ⟨1, 30, none⟩)])]).run Tryz.prog w = .ok (.bool true) w := by kernel_rfl
theorem typeOfF (v : Value) (w : World) : (ReflectliteType.typeOf #[.iface 69 v]).run Tryz.prog w = .ok (.iface 135 (.agg #[.pointer (some ⟨1, 69, none⟩)])) w := by kernel_rfl
theorem assignF (w : World) : (ReflectliteType.relation "AssignableTo" ReflectliteType.assignableTo #[.agg #[.pointer (some ⟨1, 69, none⟩)], .iface 135 (.agg #[.pointer (some ⟨1, 69, none⟩)])]).run Tryz.prog w = .ok (.bool true) w := by kernel_rfl
theorem assignE (w : World) : (ReflectliteType.relation "AssignableTo" ReflectliteType.assignableTo #[.agg #[.pointer (some ⟨1, 58, none⟩)], .iface 135 (.agg #[.pointer (some ⟨1, 69, none⟩)])]).run Tryz.prog w = .ok (.bool false) w := by kernel_rfl
theorem noAsE (v : Value) (x : TypeId) (w : World) : (Instr.typeAssert (.iface 58 v) x 139 true).run Tryz.prog w = .ok (.tuple #[.nilIface, .bool false]) w :=
  run_typeAssert_lacksB Tryz.underlying139 (by kernel_rfl) (by kernel_rfl) v x w
theorem valueOfF (n k : Value) (w : World) : (ReflectliteValue.unpack (.iface 69 (.agg #[n, k]))).run Tryz.prog w
    = .ok (.agg #[.pointer (some ⟨1, 69, none⟩), .pointer (some ⟨w.heap.size, 0, none⟩), .int .u64 153]) (w.alloc (.cells #[n, k] 69)) := by kernel_rfl
theorem elemOfP (w : World) : (Rtype.elem? 72).run Tryz.prog w = .ok (some 69) w := by kernel_rfl
theorem mkF (p : Addr) (w : World) : (ReflectliteValue.mk 69 p ReflectliteValue.flagAddr).run Tryz.prog w = .ok (.agg #[.pointer (some ⟨1, 69, none⟩), .pointer (some p), .int .u64 409]) w := by kernel_rfl
theorem elemVP (a p : Addr) (W : World) (ha : W.cell? a = some (.pointer (some p))) :
    (ReflectliteValue.method (ReflectliteValue.valueError "reflectlite.Value.Elem" 0) ReflectliteValue.elem #[.agg #[.pointer (some ⟨1, 72, none⟩), .pointer (some a), .int .u64 150]]).run Tryz.prog W
      = .ok (.agg #[.pointer (some ⟨1, 69, none⟩), .pointer (some p), .int .u64 409]) W := by
  rw [rlm]
  simp only [Sem.run_bind, partsP, Result.andThen]
  simp [ReflectliteValue.elem, loadVar, isAgg, underlying, Tryz.underlying72, ha, Result.andThen, elemOfP, mkF]
theorem rls (v x : Value) : ReflectliteValue.set #[v, x] = (do
    let (some (dst, a, fl), some (src, b, _)) := (← ReflectliteValue.parts v, ← ReflectliteValue.parts x)
      | unsupported (.noEntry "extern/(internal/reflectlite.Value).Set.zeroValue")
    if fl / ReflectliteValue.flagAddr % 2 == 0 then unsupported (.noEntry "extern/(internal/reflectlite.Value).Set.unaddressable")
    let val ← loadVar src b
    if ← Rtype.directlyAssignable dst src then storeVar dst a val
    else if ← Rtype.implements dst src then
      if (← Rtype.kind src) == 20 then
        match val with
        | .nilIface => unsupported (.noEntry "extern/reflectlite: a nil value of one interface type handed on as a value of another")
        | _ => storeVar dst a val
      else storeVar dst a (.iface src val)
    else panicString ("reflectlite.Set: value of type " ++ (← Rtype.spelt src) ++ " is not assignable to type " ++ (← Rtype.spelt dst))
    pure (.tuple #[])) := rfl
theorem partsFa (a : Addr) (w : World) : (ReflectliteValue.parts (.agg #[.pointer (some ⟨1, 69, none⟩), .pointer (some a), .int .u64 409])).run Tryz.prog w = .ok (some (69, a, 409)) w := by kernel_rfl
theorem partsF (a : Addr) (w : World) : (ReflectliteValue.parts (.agg #[.pointer (some ⟨1, 69, none⟩), .pointer (some a), .int .u64 153])).run Tryz.prog w = .ok (some (69, a, 153)) w := by kernel_rfl
theorem directF (w : World) : (Rtype.directlyAssignable 69 69).run Tryz.prog w = .ok true w := by kernel_rfl
theorem sizeF (w : World) : (sizeOf 69).run Tryz.prog w = .ok 2 w := by kernel_rfl
theorem isAggF (w : World) : (isAgg 69).run Tryz.prog w = .ok true w := by kernel_rfl
theorem setF (g b : Nat) (n k : Int) (o0 o1 : Value) (W : World) (hb0 : W.cell? ⟨b, 0, none⟩ = some (.int .i64 n)) (hb1 : W.cell? ⟨b, 1, none⟩ = some (.int .i64 k)) (ht0 : W.cell? ⟨g, 0, none⟩ = some o0) (ht1 : W.cell? ⟨g, 1, none⟩ = some o1)
    (hf0 : W.frozen? ⟨g, 0, none⟩ = false) (hf1 : W.frozen? ⟨g, 1, none⟩ = false) :
    (ReflectliteValue.set #[.agg #[.pointer (some ⟨1, 69, none⟩), .pointer (some ⟨g, 0, none⟩), .int .u64 409], .agg #[.pointer (some ⟨1, 69, none⟩), .pointer (some ⟨b, 0, none⟩), .int .u64 153]]).run Tryz.prog W
      = .ok (.tuple #[]) ((W.setCell ⟨g, 0, none⟩ (.int .i64 n)).setCell ⟨g, 1, none⟩ (.int .i64 k)) := by
  rw [rls]
  simp only [Sem.run_bind, partsFa, partsF, Result.andThen]
  simp [ReflectliteValue.flagAddr, loadVar, isAggF, sizeF, loadCells, loadCellsFrom, Addr.add, hb0, hb1, Result.andThen, directF, storeVar, Value.cells, storeCells]
  have h1 : (W.setCell ⟨g, 0, none⟩ (.int .i64 n)).cell? ⟨g, 1, none⟩ = some o1 := by
    rw [World.cell?_setCell_other _ _ _ _ (by intro h; cases h)]; exact ht1
  rw [run_store Tryz.prog W ⟨g, 0, none⟩ _ _ (by rfl)]
  simp only [stored, ht0, hf0]
  simp only [Bool.false_eq_true, if_false, ↓reduceIte]
  rw [run_store Tryz.prog _ ⟨g, 1, none⟩ _ _ (by rfl)]
  simp [stored, h1, hf1]

set_option maxRecDepth 100000 in
set_option maxHeartbeats 1000000 in
/-- errors.as at a number with a place. -/
theorem as_at (n k : Int) (g b : Nat) (o0 o1 : Value) (w : World) (hv : w.cell? ⟨b, 0, none⟩ = some (.pointer (some ⟨g, 0, none⟩))) (ht0 : w.cell? ⟨g, 0, none⟩ = some o0) (ht1 : w.cell? ⟨g, 1, none⟩ = some o1)
    (hf0 : w.frozen? ⟨g, 0, none⟩ = false) (hf1 : w.frozen? ⟨g, 1, none⟩ = false) (hbl : b < w.heap.size) (hgl : g < w.heap.size) :
    Calls Tryz.prog 45 #[atV n k, .iface 72 (.pointer (some ⟨g, 0, none⟩)), .agg #[.pointer (some ⟨1, 72, none⟩), .pointer (some ⟨b, 0, none⟩), .int .u64 150], .iface 135 (.agg #[.pointer (some ⟨1, 69, none⟩)])] w
      fun e w' => e = .returned (.bool true) ∧ w' = ((((w.setCell ⟨g, 0, none⟩ (.int .i64 n)).setCell ⟨g, 1, none⟩ (.int .i64 k)).alloc (.cells #[.pointer (some ⟨1, 72, none⟩), .pointer (some ⟨b, 0, none⟩), .int .u64 150] 100)).alloc (.cells #[.int .i64 n, .int .i64 k] 69)) := by
  have c1 := @run_callFunc_extern Tryz.prog 65 _ ReflectliteType.typeOf Tryz.func65 (by kernel_rfl) (by kernel_rfl) (by kernel_rfl) (by kernel_rfl)
  have c2 := @run_callFunc_extern Tryz.prog 110 _ (ReflectliteType.relation "AssignableTo" ReflectliteType.assignableTo) Tryz.func110 (by kernel_rfl) (by kernel_rfl) (by kernel_rfl) (by kernel_rfl)
  have c3 := @run_callFunc_extern Tryz.prog 67 _ (ReflectliteValue.method (ReflectliteValue.valueError "reflectlite.Value.Elem" 0) ReflectliteValue.elem) Tryz.func67 (by kernel_rfl) (by kernel_rfl) (by kernel_rfl) (by kernel_rfl)
  have c4 := @run_callFunc_extern Tryz.prog 68 _ ReflectliteValue.set Tryz.func68 (by kernel_rfl) (by kernel_rfl) (by kernel_rfl) (by kernel_rfl)
  have c5 := @run_callFunc_extern Tryz.prog 42 _ (fun args => ReflectliteValue.unpack (args.getD 0 (.tuple #[]))) Tryz.func42 (by kernel_rfl) (by kernel_rfl) (by kernel_rfl) (by kernel_rfl)
  have f1 := typeOfF
  have f2 := methAssignableTo
  have f3 := assignF
  have f4 := elemVP ⟨b, 0, none⟩ ⟨g, 0, none⟩ (w.alloc (.cells #[.pointer (some ⟨1, 72, none⟩), .pointer (some ⟨b, 0, none⟩), .int .u64 150] 100)) (by rw [World.cell?_alloc_lt _ _ ⟨b, 0, none⟩ hbl]; exact hv)
  have f5 := valueOfF
  have f6 := setF g (w.heap.size + 1) n k o0 o1 ((w.alloc (.cells #[.pointer (some ⟨1, 72, none⟩), .pointer (some ⟨b, 0, none⟩), .int .u64 150] 100)).alloc (.cells #[.int .i64 n, .int .i64 k] 69))
    (by rw [World.cell?_alloc_at _ _ _ _ (by simp)]; rfl) (by rw [World.cell?_alloc_at _ _ _ _ (by simp)]; rfl)
    (by rw [World.cell?_alloc_lt _ _ ⟨g, 0, none⟩ (by simp; omega), World.cell?_alloc_lt _ _ ⟨g, 0, none⟩ hgl]; exact ht0)
    (by rw [World.cell?_alloc_lt _ _ ⟨g, 1, none⟩ (by simp; omega), World.cell?_alloc_lt _ _ ⟨g, 1, none⟩ hgl]; exact ht1)
    (by rw [World.frozen?_alloc_old _ _ ⟨g, 0, none⟩ (by simp; omega), World.frozen?_alloc_old _ _ ⟨g, 0, none⟩ (Nat.ne_of_lt hgl)]; exact hf0)
    (by rw [World.frozen?_alloc_old _ _ ⟨g, 1, none⟩ (by simp; omega), World.frozen?_alloc_old _ _ ⟨g, 1, none⟩ (Nat.ne_of_lt hgl)]; exact hf1)
  unfold atV
  go_enter Tryz.func45, Tryz.ntmps45
  go_wp2
  refine wp_loop_rounds 1 ?_
  rw [rounds_succ]
  go_wp2
  go_ret
  exact ⟨rfl, rfl⟩

set_option maxRecDepth 100000 in
set_option maxHeartbeats 1000000 in
/-- errors.as at a number. -/
theorem as_no (n : Int) (x y : Value) (w : World) :
    Calls Tryz.prog 45 #[noV n, x, .agg #[.pointer (some ⟨1, 72, none⟩), y, .int .u64 150], .iface 135 (.agg #[.pointer (some ⟨1, 69, none⟩)])] w
      fun e w' => e = .returned (.bool false) ∧ Below w.heap.size w w' := by
  have c1 := @run_callFunc_extern Tryz.prog 65 _ ReflectliteType.typeOf Tryz.func65 (by kernel_rfl) (by kernel_rfl) (by kernel_rfl) (by kernel_rfl)
  have c2 := @run_callFunc_extern Tryz.prog 110 _ (ReflectliteType.relation "AssignableTo" ReflectliteType.assignableTo) Tryz.func110 (by kernel_rfl) (by kernel_rfl) (by kernel_rfl) (by kernel_rfl)
  have f1 := typeOfE
  have f2 := methAssignableTo
  have f3 := assignE
  have f4 := noAsE
  have f5 := noUnE
  have f6 := noUlE
  unfold noV
  go_enter Tryz.func45, Tryz.ntmps45
  go_wp2
  refine wp_loop_rounds 1 ?_
  rw [rounds_succ]
  go_wp2
  go_ret
  exact ⟨rfl, (Below.refl _ _).alloc (Nat.le_refl _) _⟩
end Er
end Go.Proofs.YthdibodmnpcekaaGreatDoor
/- errors.As whole, and the questions Place, Plain, At of the statements. -/
namespace Go.Proofs.YthdibodmnpcekaaGreatDoor
open Go.RowKit Go.Extern.Stop Go.Stop Go.Extern
namespace Er
set_option linter.unusedSimpArgs false
set_option linter.unusedVariables false

/-- The package's variable errors.errorType, as it lies. -/
def Handle (w : World) : Prop := w.cell? ⟨0, 0, none⟩ = some (.iface 135 (.agg #[.pointer (some ⟨1, 30, none⟩)]))
theorem Handle.lt {w : World} (h : Handle w) : 0 < w.heap.size := by
  rcases Nat.lt_or_ge 0 w.heap.size with h0 | h0
  · exact h0
  · unfold Handle at h; simp [World.cell?, Array.getElem?_eq_none h0] at h
theorem Handle.below {w w' : World} (h : Handle w) (hb : Below w.heap.size w w') : Handle w' := (hb.cell (p := ⟨0, 0, none⟩) h.lt).trans h

theorem As_nil (t : Value) (w : World) : Calls Tryz.prog 19 #[.nilIface, t] w fun e w' => e = .returned (.bool false) ∧ w' = w := by
  go_enter Tryz.func19, Tryz.ntmps19
  go_wp2
  go_ret
  exact ⟨rfl, rfl⟩

set_option maxRecDepth 100000 in
set_option maxHeartbeats 1000000 in
theorem As_no (n : Int) (g : Nat) (w : World) (hg : Handle w) :
    Calls Tryz.prog 19 #[noV n, .iface 72 (.pointer (some ⟨g, 0, none⟩))] w fun e w' => e = .returned (.bool false) ∧ Below w.heap.size w w' := by
  have c1 := @run_callFunc_extern Tryz.prog 42 _ (fun args => ReflectliteValue.unpack (args.getD 0 (.tuple #[]))) Tryz.func42 (by kernel_rfl) (by kernel_rfl) (by kernel_rfl) (by kernel_rfl)
  have c2 := @run_callFunc_extern Tryz.prog 43 _ (ReflectliteValue.methodAny (ReflectliteValue.valueError "reflectlite.Value.Type" 0) (fun t _ _ _ => ReflectliteType.toType t)) Tryz.func43 (by kernel_rfl) (by kernel_rfl) (by kernel_rfl) (by kernel_rfl)
  have c3 := @run_callFunc_extern Tryz.prog 44 _ (ReflectliteValue.method (ReflectliteValue.valueError "reflectlite.Value.IsNil" 0) ReflectliteValue.isNil) Tryz.func44 (by kernel_rfl) (by kernel_rfl) (by kernel_rfl) (by kernel_rfl)
  have c4 := @run_callFunc_extern Tryz.prog 100 _ (ReflectliteType.abiMethod fun t => do pure (.int .u8 (← Rtype.kind t))) Tryz.func100 (by kernel_rfl) (by kernel_rfl) (by kernel_rfl) (by kernel_rfl)
  have c5 := @run_callFunc_extern Tryz.prog 112 _ (ReflectliteType.method ReflectliteType.elem) Tryz.func112 (by kernel_rfl) (by kernel_rfl) (by kernel_rfl) (by kernel_rfl)
  have c6 := @run_callFunc_extern Tryz.prog 113 _ (ReflectliteType.relation "Implements" ReflectliteType.implements_) Tryz.func113 (by kernel_rfl) (by kernel_rfl) (by kernel_rfl) (by kernel_rfl)
  have hlt := hg.lt
  have hg2 : ((w.alloc (.cells #[.pointer (some ⟨g, 0, none⟩)] 72)).alloc (.cells #[.pointer (some ⟨1, 72, none⟩), .pointer (some ⟨w.heap.size, 0, none⟩), .int .u64 150] 100)).cell? ⟨0, 0, none⟩ = some (.iface 135 (.agg #[.pointer (some ⟨1, 30, none⟩)])) := by
    rw [World.cell?_alloc_lt _ _ ⟨0, 0, none⟩ (Nat.lt_of_lt_of_le hlt ((Below.refl w.heap.size w).alloc (Nat.le_refl _) _).size), World.cell?_alloc_lt _ _ ⟨0, 0, none⟩ hlt]; exact hg
  have f1 := valueOfP
  have f2 := typeP
  have f3 := methKind
  have f4 := kindP
  have f5 := kindF
  have f6 := isNilP ⟨w.heap.size, 0, none⟩ ⟨g, 0, none⟩ ((w.alloc (.cells #[.pointer (some ⟨g, 0, none⟩)] 72)).alloc (.cells #[.pointer (some ⟨1, 72, none⟩), .pointer (some ⟨w.heap.size, 0, none⟩), .int .u64 150] 100)) (by simp)
  have f7 := methElem
  have f8 := elemP
  have f9 := methImplements
  have f10 := implementsF
  have c := as_no n
  unfold noV at c ⊢
  go_enter Tryz.func19, Tryz.ntmps19
  go_wp2_with (go_at_call 45; refine (c _ _ _).mono ?_; rintro e w' ⟨rfl, hb⟩)
  go_ret
  exact ⟨rfl, (((Below.refl _ _).alloc (Nat.le_refl _) _).alloc (by simp) _).trans (hb.mono (by simp; omega))⟩

set_option maxRecDepth 100000 in
set_option maxHeartbeats 1000000 in
theorem As_at (n k : Int) (g : Nat) (o0 o1 : Value) (w : World) (hg : Handle w) (ht0 : w.cell? ⟨g, 0, none⟩ = some o0) (ht1 : w.cell? ⟨g, 1, none⟩ = some o1)
    (hf0 : w.frozen? ⟨g, 0, none⟩ = false) (hf1 : w.frozen? ⟨g, 1, none⟩ = false) (hgl : g < w.heap.size) :
    Calls Tryz.prog 19 #[atV n k, .iface 72 (.pointer (some ⟨g, 0, none⟩))] w fun e w' => e = .returned (.bool true) ∧ Below g w w' ∧ w'.cell? ⟨g, 0, none⟩ = some (.int .i64 n) ∧ w'.cell? ⟨g, 1, none⟩ = some (.int .i64 k) := by
  have c1 := @run_callFunc_extern Tryz.prog 42 _ (fun args => ReflectliteValue.unpack (args.getD 0 (.tuple #[]))) Tryz.func42 (by kernel_rfl) (by kernel_rfl) (by kernel_rfl) (by kernel_rfl)
  have c2 := @run_callFunc_extern Tryz.prog 43 _ (ReflectliteValue.methodAny (ReflectliteValue.valueError "reflectlite.Value.Type" 0) (fun t _ _ _ => ReflectliteType.toType t)) Tryz.func43 (by kernel_rfl) (by kernel_rfl) (by kernel_rfl) (by kernel_rfl)
  have c3 := @run_callFunc_extern Tryz.prog 44 _ (ReflectliteValue.method (ReflectliteValue.valueError "reflectlite.Value.IsNil" 0) ReflectliteValue.isNil) Tryz.func44 (by kernel_rfl) (by kernel_rfl) (by kernel_rfl) (by kernel_rfl)
  have c4 := @run_callFunc_extern Tryz.prog 100 _ (ReflectliteType.abiMethod fun t => do pure (.int .u8 (← Rtype.kind t))) Tryz.func100 (by kernel_rfl) (by kernel_rfl) (by kernel_rfl) (by kernel_rfl)
  have c5 := @run_callFunc_extern Tryz.prog 112 _ (ReflectliteType.method ReflectliteType.elem) Tryz.func112 (by kernel_rfl) (by kernel_rfl) (by kernel_rfl) (by kernel_rfl)
  have c6 := @run_callFunc_extern Tryz.prog 113 _ (ReflectliteType.relation "Implements" ReflectliteType.implements_) Tryz.func113 (by kernel_rfl) (by kernel_rfl) (by kernel_rfl) (by kernel_rfl)
  have hlt := hg.lt
  have hg2 : ((w.alloc (.cells #[.pointer (some ⟨g, 0, none⟩)] 72)).alloc (.cells #[.pointer (some ⟨1, 72, none⟩), .pointer (some ⟨w.heap.size, 0, none⟩), .int .u64 150] 100)).cell? ⟨0, 0, none⟩ = some (.iface 135 (.agg #[.pointer (some ⟨1, 30, none⟩)])) := by
    rw [World.cell?_alloc_lt _ _ ⟨0, 0, none⟩ (Nat.lt_of_lt_of_le hlt ((Below.refl w.heap.size w).alloc (Nat.le_refl _) _).size), World.cell?_alloc_lt _ _ ⟨0, 0, none⟩ hlt]; exact hg
  have f1 := valueOfP
  have f2 := typeP
  have f3 := methKind
  have f4 := kindP
  have f5 := kindF
  have f6 := isNilP ⟨w.heap.size, 0, none⟩ ⟨g, 0, none⟩ ((w.alloc (.cells #[.pointer (some ⟨g, 0, none⟩)] 72)).alloc (.cells #[.pointer (some ⟨1, 72, none⟩), .pointer (some ⟨w.heap.size, 0, none⟩), .int .u64 150] 100)) (by simp)
  have f7 := methElem
  have f8 := elemP
  have f9 := methImplements
  have f10 := implementsF
  have hsz : ((w.alloc (.cells #[.pointer (some ⟨g, 0, none⟩)] 72)).alloc (.cells #[.pointer (some ⟨1, 72, none⟩), .pointer (some ⟨w.heap.size, 0, none⟩), .int .u64 150] 100)).heap.size = w.heap.size + 2 := by simp
  have a0 : ∀ o, o < 2 → ((w.alloc (.cells #[.pointer (some ⟨g, 0, none⟩)] 72)).alloc (.cells #[.pointer (some ⟨1, 72, none⟩), .pointer (some ⟨w.heap.size, 0, none⟩), .int .u64 150] 100)).cell? ⟨g, o, none⟩ = w.cell? ⟨g, o, none⟩ := fun o _ => by
    rw [World.cell?_alloc_lt _ _ ⟨g, o, none⟩ (by simp; omega), World.cell?_alloc_lt _ _ ⟨g, o, none⟩ hgl]
  have a1 : ∀ o, o < 2 → ((w.alloc (.cells #[.pointer (some ⟨g, 0, none⟩)] 72)).alloc (.cells #[.pointer (some ⟨1, 72, none⟩), .pointer (some ⟨w.heap.size, 0, none⟩), .int .u64 150] 100)).frozen? ⟨g, o, none⟩ = w.frozen? ⟨g, o, none⟩ := fun o _ => by
    rw [World.frozen?_alloc_old _ _ ⟨g, o, none⟩ (by simp; omega), World.frozen?_alloc_old _ _ ⟨g, o, none⟩ (Nat.ne_of_lt hgl)]
  have c := as_at n k g w.heap.size o0 o1 ((w.alloc (.cells #[.pointer (some ⟨g, 0, none⟩)] 72)).alloc (.cells #[.pointer (some ⟨1, 72, none⟩), .pointer (some ⟨w.heap.size, 0, none⟩), .int .u64 150] 100)) (by simp)
    ((a0 0 (by decide)).trans ht0) ((a0 1 (by decide)).trans ht1) ((a1 0 (by decide)).trans hf0) ((a1 1 (by decide)).trans hf1) (by rw [hsz]; omega) (by rw [hsz]; omega)
  have hc0 := (a0 0 (by decide)).trans ht0
  have hc1 := (a0 1 (by decide)).trans ht1
  have HB : Below g w ((w.alloc (.cells #[.pointer (some ⟨g, 0, none⟩)] 72)).alloc (.cells #[.pointer (some ⟨1, 72, none⟩), .pointer (some ⟨w.heap.size, 0, none⟩), .int .u64 150] 100)) :=
    ((Below.refl _ _).alloc (Nat.le_of_lt hgl) _).alloc (by simp; omega) _
  clear a0 a1
  unfold atV at c ⊢
  go_enter Tryz.func19, Tryz.ntmps19
  go_wp2_with (go_at_call 45; refine c.mono ?_; generalize ((w.alloc (.cells #[.pointer (some ⟨g, 0, none⟩)] 72)).alloc (.cells #[.pointer (some ⟨1, 72, none⟩), .pointer (some ⟨w.heap.size, 0, none⟩), .int .u64 150] 100)) = W at *; rintro e w' ⟨rfl, rfl⟩)
  go_ret
  refine ⟨rfl, ?_, ?_, ?_⟩
  · exact (((HB.setCell (Nat.le_refl _) _).setCell (Nat.le_refl _) _).alloc (by simp; omega) _).alloc (by simp; omega) _
  · rw [World.cell?_alloc_lt _ _ ⟨g, 0, none⟩ (by simp; omega), World.cell?_alloc_lt _ _ ⟨g, 0, none⟩ (by simp; omega), World.cell?_setCell_other _ _ _ _ (by intro h; cases h), World.cell?_setCell_same _ _ _ hc0]
  · rw [World.cell?_alloc_lt _ _ ⟨g, 1, none⟩ (by simp; omega), World.cell?_alloc_lt _ _ ⟨g, 1, none⟩ (by simp; omega)]
    exact World.cell?_setCell_same _ _ _ ((World.cell?_setCell_other _ _ _ _ (by intro h; cases h)).trans hc1)
end Er
end Go.Proofs.YthdibodmnpcekaaGreatDoor
/- The questions Place, Plain and At of the statements. -/
namespace Go.Proofs.YthdibodmnpcekaaGreatDoor
open Go.RowKit
namespace Er
set_option linter.unusedSimpArgs false
set_option linter.unusedVariables false

theorem below_then {w a b : World} (h : Below w.heap.size w a) (k : Below a.heap.size a b) : Below w.heap.size w b := h.trans (k.mono h.size)

set_option maxRecDepth 100000 in
set_option maxHeartbeats 1000000 in
theorem plain_nil (m : Int) (w : World) :
    Calls Tryz.prog 10 #[.nilIface, .int .i64 m] w fun e w' => e = .returned (.bool (decide (0 = m))) ∧ Below w.heap.size w w' := by
  have B0 : Below w.heap.size w (w.alloc (.cells #[.int .i64 0, .int .i64 0] 69)) := (Below.refl _ _).alloc (Nat.le_refl _) _
  have cN := num_nil
  by_cases hm : 0 = m
  · subst hm
    go_enter Tryz.func10, Tryz.ntmps10
    go_wp2_with (go_at_call 18; refine (cN _).mono ?_; rintro e w1 ⟨rfl, rfl⟩)
    go_ret
    exact ⟨rfl, B0⟩
  · have e1 : ((0 : Int) == m) = false := by simpa using hm
    rw [decide_eq_false hm]
    go_enter Tryz.func10, Tryz.ntmps10
    go_wp2_with (go_at_call 18; refine (cN _).mono ?_; rintro e w1 ⟨rfl, rfl⟩)
    go_ret
    exact ⟨rfl, B0⟩

set_option maxRecDepth 100000 in
set_option maxHeartbeats 1000000 in
theorem plain_no (n : Nat) (m : Int) (h1 : 1 ≤ n) (h2 : n ≤ 24) (w : World) (hg : Handle w) :
    Calls Tryz.prog 10 #[noV n, .int .i64 m] w fun e w' => e = .returned (.bool (decide ((n : Int) = m))) ∧ Below w.heap.size w w' := by
  have B0 : Below w.heap.size w (w.alloc (.cells #[.int .i64 0, .int .i64 0] 69)) := (Below.refl _ _).alloc (Nat.le_refl _) _
  have cN := num_no n h1 h2 (w.alloc (.cells #[.int .i64 0, .int .i64 0] 69))
  have cA : Hid (∀ w1, Handle w1 → Calls Tryz.prog 19 #[noV n, .iface 72 (.pointer (some ⟨w.heap.size, 0, none⟩))] w1 fun e w' => e = .returned (.bool false) ∧ Below w1.heap.size w1 w') := fun w1 h => As_no n w.heap.size w1 h
  have HG : Handle (w.alloc (.cells #[.int .i64 0, .int .i64 0] 69)) := hg.below B0
  by_cases hm : (n : Int) = m
  · subst hm
    rw [decide_eq_true rfl]
    unfold noV at cN cA ⊢
    go_enter Tryz.func10, Tryz.ntmps10
    go_wp2_with (first | (go_at_call 18; refine cN.mono ?_; rintro e w1 ⟨rfl, hb1⟩) | (go_at_call 19; refine (cA.out _ (HG.below hb1)).mono ?_; rintro e w2 ⟨rfl, hb2⟩))
    go_ret
    exact ⟨rfl, below_then (below_then B0 hb1) hb2⟩
  · have e1 : ((n : Int) == m) = false := by simpa using hm
    rw [decide_eq_false hm]
    unfold noV at cN cA ⊢
    go_enter Tryz.func10, Tryz.ntmps10
    go_wp2_with (first | (go_at_call 18; refine cN.mono ?_; rintro e w1 ⟨rfl, hb1⟩))
    go_ret
    exact ⟨rfl, below_then B0 hb1⟩

end Er
end Go.Proofs.YthdibodmnpcekaaGreatDoor
