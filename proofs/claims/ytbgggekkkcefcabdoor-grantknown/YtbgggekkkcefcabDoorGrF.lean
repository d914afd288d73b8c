/- Layer 22: a birth that is asked for, as the program holds it; what refuses one, one by one. -/
import Derived.Test.YtbgggekkkcefcabDoorGrR
import Derived.Test.YtbgggekkkcefcabDoorGrL
import Derived.Test.YtbgggekkkcefcabDoorGrS
namespace Go.Proofs.YtbgggekkkcefcabDoor
set_option linter.ambiguousOpen false
open Go.RowKit
namespace Gr
set_option linter.unusedVariables false
set_option linter.unusedSimpArgs false

/-- What is asked, and what there is. -/
structure Bi where
  p : Sn
  r : Rq
  latest : Int
  now : Int
  births : Int
  full : Bool

def Bi.arr (b : Bi) : Array Value := #[nu b.p.slot, nu b.p.birth, nu b.p.us, nu b.p.ub, nu b.p.kind, .string b.p.user, .string b.p.label, su b.p.scopes, nu b.p.level, nu b.p.born, nu b.p.deadline, nu b.p.depth,
  .string b.r.user, .string b.r.label, su b.r.scopes, nu b.r.level, nu b.r.life, nu b.latest, nu b.now, nu b.births, .bool b.full]
def Bi.v (b : Bi) : Value := .agg b.arr
theorem bi_v (b : Bi) : b.v = .agg #[nu b.p.slot, nu b.p.birth, nu b.p.us, nu b.p.ub, nu b.p.kind, .string b.p.user, .string b.p.label, su b.p.scopes, nu b.p.level, nu b.p.born, nu b.p.deadline, nu b.p.depth,
  .string b.r.user, .string b.r.label, su b.r.scopes, nu b.r.level, nu b.r.life, nu b.latest, nu b.now, nu b.births, .bool b.full] := rfl

theorem box_then {w w1 : World} {o : Obj} (hb : Below (w.alloc o).heap.size (w.alloc o) w1) : Below w.heap.size w w1 :=
  ((Below.refl _ _).alloc (Nat.le_refl _) _).trans (hb.mono (by simp))
theorem box_one (w : World) (o : Obj) : Below w.heap.size w (w.alloc o) := (Below.refl _ _).alloc (Nat.le_refl _) _

theorem name_c (s : ByteArray) (w : World) (h : s.size ≤ 281474976710656) : Calls Tryd.prog 37 #[.string s] w fun e w' => e = .returned (.bool (nmB s)) ∧ Below w.heap.size w w' :=
  Nm.name_any s w (by unfold maxLen; omega)

theorem noUser_p (b : Bi) (w : World) (h : b.r.user.size ≤ 281474976710656) :
    Calls Tryd.prog 18 #[b.v] w fun e w' => e = .returned (.bool (!nmB b.r.user)) ∧ Below w.heap.size w w' := by
  have c := fun w => name_c b.r.user w h
  rw [bi_v]
  go_enter Tryd.func18, Tryd.ntmps18
  go_wp2_with (go_at_call 37; refine (c _).mono ?_; rintro e w1 ⟨rfl, hb⟩)
  go_ret
  exact ⟨rfl, box_then hb⟩

theorem noLabel_p (b : Bi) (w : World) (h : b.r.label.size ≤ 281474976710656) :
    Calls Tryd.prog 22 #[b.v] w fun e w' => e = .returned (.bool (!nmB b.r.label)) ∧ Below w.heap.size w w' := by
  have c := fun w => name_c b.r.label w h
  rw [bi_v]
  go_enter Tryd.func22, Tryd.ntmps22
  go_wp2_with (go_at_call 37; refine (c _).mono ?_; rintro e w1 ⟨rfl, hb⟩)
  go_ret
  exact ⟨rfl, box_then hb⟩

theorem enough_lvl (n : Int) : Lv.enoughB n 0 = lvlB n := by
  unfold Lv.enoughB Lv.levelB lvlB
  by_cases h : 0 ≤ n <;> simp [h]

theorem noLevel_p (b : Bi) (w : World) :
    Calls Tryd.prog 19 #[b.v] w fun e w' => e = .returned (.bool (!lvlB b.r.level)) ∧ Below w.heap.size w w' := by
  have c := Lv.enough_any b.r.level 0
  rw [enough_lvl] at c
  rw [bi_v]
  go_enter Tryd.func19, Tryd.ntmps19
  go_wp2_with (go_at_call 38; refine (c _).mono ?_; rintro e w1 ⟨rfl, rfl⟩)
  go_ret
  exact ⟨rfl, box_one _ _⟩

/-- An error, or none. -/
def errV (n : Int) : Value := if n = 0 then .nilIface else Er.noV n

theorem deadline_p (b : Bi) (w : World) :
    Calls Tryd.prog 39 #[b.v] w fun e w' => e = .returned (.tuple #[nu (if Ck.untilB b.now b.r.life b.latest = true then Ck.untilI b.now b.r.life b.latest else 0), if Ck.untilB b.now b.r.life b.latest = true then .nilIface else Er.noV 12]) ∧ Below w.heap.size w w' := by
  rw [bi_v]
  by_cases h : Ck.untilB b.now b.r.life b.latest = true
  · have c := fun w => Ck.until_yes b.now b.r.life b.latest w h
    simp only [h, if_true]
    generalize Ck.untilI b.now b.r.life b.latest = D at c ⊢
    clear h
    go_enter Tryd.func39, Tryd.ntmps39
    go_wp2_with (go_at_call 55; refine (c _).mono ?_; rintro e w1 ⟨rfl, rfl⟩)
    go_ret2
    exact ⟨rfl, box_one _ _⟩
  · have c := fun w => Ck.until_no b.now b.r.life b.latest w (by simpa using h)
    simp only [h, if_false]
    unfold Er.noV at c ⊢
    clear h
    go_enter Tryd.func39, Tryd.ntmps39
    go_wp2_with (go_at_call 55; refine (c _).mono ?_; rintro e w1 ⟨rfl, rfl⟩)
    go_ret2
    exact ⟨rfl, box_one _ _⟩

theorem size_bi : (Tryd.prog.info? 47).map (·.size) = some 21 := by kernel_rfl
theorem all_oneB (b : Bi) : (b.arr.all fun x => x.oneCell') = true := by simp [Bi.arr, Value.oneCell']

theorem wpList_store_bi {ops : Array Oper} {rest : List Oper} {op : Oper} {a : Act} {w : World} {Q : Exit → Act → World → Prop} (hgd : op.guard = none) (x y : Operand) (ho : op.op = .store 47 x y)
    (g : Nat) (hx : a.eval x = .pointer (some ⟨g, 0, none⟩)) (s z : Bi) (hy : a.eval y = s.v) (hz : w.heap[g]? = some (.cells z.arr 47))
    (h : ∀ w', w'.heap[g]? = some (.cells s.arr 47) → w.grownBy w' (some g) → wpList Tryd.prog ops Q rest (a.put op.dst undef) w') : wpList Tryd.prog ops Q (op :: rest) a w := by
  refine wpList_plain hgd fun K hK => ?_
  have hrun := run_storeVar_row (P := Tryd.prog) w g _ 47 z.arr s.arr hz size_bi rfl (all_oneB s)
  have hk := hK _ _ (h (w.setRow g s.arr) (setRow_heap w g _ _ _ _ hz) ⟨rfl, rfl, rfl, by simp, fun k hk hn => setRow_other _ _ _ _ (fun e => hn (by rw [e]))⟩)
  unfold Oper.wp execOp
  simp only [ho, hx, hy, Bi.v, Instr.storeAt, Instr.sureAddr, Sem.run_bind, Sem.run_pure, Result.andThen_ok, hrun]
  exact hk

theorem wpList_load_bi {ops : Array Oper} {rest : List Oper} {op : Oper} {a : Act} {w : World} {Q : Exit → Act → World → Prop} (hgd : op.guard = none) (x : Operand) (ho : op.op = .load 47 x)
    (g : Nat) (hx : a.eval x = .pointer (some ⟨g, 0, none⟩)) (s : Bi) (hz : w.heap[g]? = some (.cells s.arr 47))
    (h : wpList Tryd.prog ops Q rest (a.put op.dst s.v) w) : wpList Tryd.prog ops Q (op :: rest) a w :=
  wpList_load_mid hgd 47 x ho g 0 hx s.arr.toList _ (fun j v hv => by rw [Nat.zero_add, cell_of_row w g j _ _ _ hz]; simpa using hv) Tryd.underlying47 rfl size_bi h

theorem box_at (w : World) (o : Obj) : (w.alloc o).heap[w.heap.size]? = some o := heap_alloc_new _ _

theorem noTime_p (b : Bi) (w : World) :
    Calls Tryd.prog 20 #[b.v] w fun e w' => e = .returned (.bool (!Ck.untilB b.now b.r.life b.latest)) ∧ Below w.heap.size w w' := by
  have c := deadline_p b
  obtain ⟨U, hU⟩ : ∃ U, Ck.untilB b.now b.r.life b.latest = U := ⟨_, rfl⟩
  rw [hU] at c ⊢
  generalize Ck.untilI b.now b.r.life b.latest = D at c
  have HBX := hidG (box_at w (.cells b.arr 47))
  clear hU
  show Calls Tryd.prog 20 #[.agg b.arr] w _
  cases U
  · simp only [Bool.false_eq_true, if_false] at c
    unfold Er.noV at c
    go_enter Tryd.func20, Tryd.ntmps20
    go_wp2_with (first | (refine wpList_load_bi rfl _ rfl w.heap.size rfl b HBX.out ?_) | (go_at_call 39; refine (c _).mono ?_; rintro e w1 ⟨rfl, hb⟩))
    go_ret
    exact ⟨rfl, box_then hb⟩
  · simp only [if_true] at c
    go_enter Tryd.func20, Tryd.ntmps20
    go_wp2_with (first | (refine wpList_load_bi rfl _ rfl w.heap.size rfl b HBX.out ?_) | (go_at_call 39; refine (c _).mono ?_; rintro e w1 ⟨rfl, hb⟩))
    go_ret
    exact ⟨rfl, box_then hb⟩

theorem tooLong_p (b : Bi) (w : World) :
    Calls Tryd.prog 23 #[b.v] w fun e w' => e = .returned (.bool (decide (300 < b.r.life))) ∧ Below w.heap.size w w' := by
  rw [bi_v]
  by_cases h : 300 < b.r.life
  all_goals
    go_enter Tryd.func23, Tryd.ntmps23
    go_wp2
    go_ret
    exact ⟨ret_bool (by simp [h]), box_one _ _⟩

theorem tooDeep_p (b : Bi) (w : World) :
    Calls Tryd.prog 24 #[b.v] w fun e w' => e = .returned (.bool (decide (b.p.depth < 0 ∨ 6 ≤ b.p.depth))) ∧ Below w.heap.size w w' := by
  rw [bi_v]
  by_cases h : b.p.depth < 0
  · go_enter Tryd.func24, Tryd.ntmps24
    go_wp2
    go_ret
    exact ⟨ret_bool (by simp [h]), box_one _ _⟩
  · by_cases h2 : 6 ≤ b.p.depth
    all_goals
      go_enter Tryd.func24, Tryd.ntmps24
      go_wp2
      go_ret
      exact ⟨ret_bool (by simp [h, h2]), box_one _ _⟩

theorem within_c (a b : Nat) (w : World) (ha : a < 18446744073709551616) (hb : b < 18446744073709551616) : Calls Tryd.prog 60 #[su a, su b] w fun e w' => e = .returned (.bool (inB a b)) ∧ w' = w :=
  Bt.within_any a b w ha hb

theorem tooWide_p (b : Bi) (w : World) (h1 : b.r.scopes < 18446744073709551616) (h2 : b.p.scopes < 18446744073709551616) :
    Calls Tryd.prog 43 #[b.v] w fun e w' => e = .returned (.bool (!inB b.r.scopes b.p.scopes)) ∧ Below w.heap.size w w' := by
  have c := fun w => within_c b.r.scopes b.p.scopes w h1 h2
  rw [bi_v]
  go_enter Tryd.func43, Tryd.ntmps43
  go_wp2_with (go_at_call 60; refine (c _).mono ?_; rintro e w1 ⟨rfl, rfl⟩)
  go_ret
  exact ⟨rfl, box_one _ _⟩

theorem noStep_p (b : Bi) (w : World) (hS : Lv.StepsG w) :
    Calls Tryd.prog 25 #[b.v] w fun e w' => e = .returned (.bool (!Lv.upB b.p.level b.r.level)) ∧ Below w.heap.size w w' := by
  have c0 : ∀ w1, w1 = w.alloc (.cells b.arr 47) → Lv.StepsG w1 := fun w1 h => by subst h; exact hS.below (box_one _ _)
  cases h : Lv.upB b.p.level b.r.level
  · have c := Lv.raise_level b.p.level b.r.level 1 _ (c0 _ rfl) h
    unfold Er.noV at c
    rw [bi_v]
    unfold Bi.arr at c
    clear c0 hS h
    go_enter Tryd.func25, Tryd.ntmps25
    go_wp2_with (go_at_call 41; refine c.mono ?_; rintro e w1 ⟨rfl, hb⟩)
    go_ret
    exact ⟨rfl, box_then hb⟩
  · have c := Lv.raise_ok b.p.level b.r.level 1 _ (c0 _ rfl) h ⟨by omega, by omega⟩
    rw [bi_v]
    unfold Bi.arr at c
    clear c0 hS h
    go_enter Tryd.func25, Tryd.ntmps25
    go_wp2_with (go_at_call 41; refine c.mono ?_; rintro e w1 ⟨rfl, hb⟩)
    go_ret
    exact ⟨rfl, box_then hb⟩

theorem noBirth_p (b : Bi) (w : World) :
    Calls Tryd.prog 34 #[b.v] w fun e w' => e = .returned (.bool (decide (b.births < 0 ∨ 1048576 ≤ b.births))) ∧ Below w.heap.size w w' := by
  rw [bi_v]
  by_cases h : b.births < 0
  · go_enter Tryd.func34, Tryd.ntmps34
    go_wp2
    go_ret
    exact ⟨ret_bool (by simp [h]), box_one _ _⟩
  · by_cases h2 : 1048576 ≤ b.births
    all_goals
      go_enter Tryd.func34, Tryd.ntmps34
      go_wp2
      go_ret
      exact ⟨ret_bool (by simp [h, h2]), box_one _ _⟩

theorem noRoom_p (b : Bi) (w : World) :
    Calls Tryd.prog 35 #[b.v] w fun e w' => e = .returned (.bool b.full) ∧ Below w.heap.size w w' := by
  rw [bi_v]
  go_enter Tryd.func35, Tryd.ntmps35
  go_wp2
  go_ret
  exact ⟨rfl, box_one _ _⟩
end Gr
end Go.Proofs.YtbgggekkkcefcabDoor
