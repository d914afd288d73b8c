/- Layer 22: what the outright laws call. -/
import Derived.Test.YtbgggekkkcefcabDoorGrX
namespace Go.Proofs.YtbgggekkkcefcabDoor
set_option linter.ambiguousOpen false
open Go.RowKit
namespace Gr
set_option linter.unusedVariables false
set_option linter.unusedSimpArgs false

theorem beqN {a b : Int} (h : ¬ a = b) : (a == b) = false := by simpa using h
theorem beqY {a b : Int} (h : a = b) : (a == b) = true := by simpa using h
theorem bneY {a b : Int} (h : a = b) : (a != b) = false := by simpa using h
theorem bneN {a b : Int} (h : ¬ a = b) : (a != b) = true := by simpa using h

theorem wpList_load_whenS {ops : Array Oper} {rest : List Oper} {op : Oper} {a : Act} {w : World} {Q : Exit → Act → World → Prop} (hw : Region.wanted op (yielded ops a.tmps) = true) (x : Operand) (ho : op.op = .load 28 x)
    (b : Nat) (hx : a.eval x = .pointer (some ⟨b, 0, none⟩)) (s : Sn) (hz : w.heap[b]? = some (.cells s.arr 28))
    (h : wpList Tryd.prog ops Q rest (a.put op.dst s.v) w) : wpList Tryd.prog ops Q (op :: rest) a w := by
  refine wpList_step fun K hK => ?_
  rw [if_pos hw]
  exact wp_load_mid 28 x ho b 0 hx s.arr.toList _ (fun j v hv => by rw [Nat.zero_add, cell_of_row w b j _ _ _ hz]; simpa using hv) Tryd.underlying28 rfl size_sn (hK _ _ h)

theorem wpList_load_whenR {ops : Array Oper} {rest : List Oper} {op : Oper} {a : Act} {w : World} {Q : Exit → Act → World → Prop} (hw : Region.wanted op (yielded ops a.tmps) = true) (x : Operand) (ho : op.op = .load 34 x)
    (b : Nat) (hx : a.eval x = .pointer (some ⟨b, 0, none⟩)) (r : Rq) (hz : w.heap[b]? = some (.cells r.arr 34))
    (h : wpList Tryd.prog ops Q rest (a.put op.dst r.v) w) : wpList Tryd.prog ops Q (op :: rest) a w := by
  refine wpList_step fun K hK => ?_
  rw [if_pos hw]
  exact wp_load_mid 34 x ho b 0 hx r.arr.toList _ (fun j v hv => by rw [Nat.zero_add, cell_of_row w b j _ _ _ hz]; simpa using hv) Tryd.underlying34 rfl size_rq (hK _ _ h)

@[reducible] def annT : ByteArray := ⟨#[97, 110, 110]⟩
@[reducible] def tabT : ByteArray := ⟨#[116, 97, 98, 108, 101, 116]⟩

/-- The chapter's example. -/
def parS : Sn := ⟨1, 3, 0, 0, 0, annT, ByteArray.empty, 7, 1, 0, 100, 0⟩

theorem parent_any (w : World) : Calls Tryd.prog 9 #[] w fun e w' => e = .returned parS.v ∧ Below w.heap.size w w' := by
  have HN := hidG (heap_alloc_new w (.cells zeroS.arr 28))
  go_enter Tryd.func9, Tryd.ntmps9
  go_wp2_with (first | (refine wpList_store_sn rfl _ _ rfl w.heap.size rfl parS zeroS rfl HN.out ?_; intro w2 hh hg; have HH := hidG hh; have HG := hidG (new_below (Below.refl _ _) hg); clear hh hg) | fail)
  exact bodyPost_ret (results_cell_row rfl _ _ w.heap.size _ _ _ _ rfl HH.out Tryd.underlying28 rfl size_sn) rfl ⟨rfl, HG.out⟩

theorem parS_fit : parS.fit := ⟨by decide, Nat.zero_le _, by decide, by simp [parS, i64]⟩
def tabR : Rq := ⟨ByteArray.empty, tabT, 5, 0, 1000⟩
theorem tabR_fit : tabR.fit := ⟨Nat.zero_le _, by decide, by decide, by simp [tabR, i64]⟩
def tabS : Sn := ⟨0, 10, 1, 3, 1, annT, tabT, 5, 1, 40, 100, 1⟩
theorem tab_ok : childE parS tabR 40 9 false = 0 := by decide +kernel
theorem tab_is : childS parS tabR 40 9 = tabS := rfl

theorem works22_any (w : World) : Calls Tryd.prog 11 #[] w fun e w' => e = .returned (.bool true) ∧ Below w.heap.size w w' := by
  have cP := parent_any
  have cC := fun wx => child_p parS tabR 40 9 false wx parS_fit tabR_fit
  rw [tab_ok, tab_is] at cC
  obtain ⟨S, hS⟩ : ∃ S, tabS = S := ⟨_, rfl⟩
  have hv : S.v = .agg #[.int .i64 0, .int .i64 10, .int .i64 1, .int .i64 3, .int .i64 1, .string ⟨#[97, 110, 110]⟩, .string ⟨#[116, 97, 98, 108, 101, 116]⟩, .int .u64 5, .int .i64 1, .int .i64 40, .int .i64 100, .int .i64 1] := by rw [← hS]; rfl
  have e1 := ses_sameV S
  have e2 := fun x y => ses_guard .eql x y S S
  have c2 : ∀ wx, Calls Tryd.prog 28 #[parS.v, .agg #[.string ⟨#[]⟩, .string ⟨#[116, 97, 98, 108, 101, 116]⟩, .int .u64 5, .int .i64 0, .int .i64 1000], .int .i64 40, .int .i64 9, .bool false] wx fun e w' => e = .returned (.tuple #[S.v, .nilIface]) ∧ Below wx.heap.size wx w' := fun wx => by
    have := cC wx
    rw [show orS 0 tabS = tabS from rfl, hS] at this
    exact this
  rw [hv] at e1 e2
  have HV := hidG hv
  have HP := hidG cP
  have HC := hidG c2
  clear hv cP cC c2 hS
  go_enter Tryd.func11, Tryd.ntmps11
  go_wp2_with fail
  refine (HP.out _).mono ?_
  rintro e w1 ⟨rfl, hb1⟩
  have HB1 := hidG hb1
  clear hb1
  go_wp2_with fail
  refine (HC.out _).mono ?_
  rintro e w2 ⟨rfl, hb2⟩
  have HB2 := hidG (HB1.out.trans (hb2.mono HB1.out.size))
  have HN := hidG (heap_alloc_new w2 (.cells zeroS.arr 28))
  clear hb2
  go_wp2_with (first | (refine wpList_store_sn rfl _ _ rfl w2.heap.size rfl S zeroS rfl HN.out ?_; intro w3 hh hg; have HS3 := hidG hh; have HB3 := hidG (new_below HB2.out hg); clear hh hg) | (refine wpList_load_whenS (by rfl) _ rfl w2.heap.size rfl S HS3.out ?_; rw [HV.out]) | fail)
  go_ret
  exact ⟨rfl, HB3.out⟩

theorem last_any (E : Int) (h : 0 ≤ E ∧ E ≤ 24) (w : World) : Calls Tryd.prog 33 #[errV E] w fun e w' => e = .returned (.bool (E == 18 || E == 19)) ∧ Below w.heap.size w w' := by
  have c := numE E h
  have HC := hidG c
  clear c h
  by_cases h1 : E = 18
  · subst h1
    go_enter Tryd.func33, Tryd.ntmps33
    go_wp2_with (go_at_call 27; refine (HC.out _).mono ?_; rintro e w1 ⟨rfl, hb⟩)
    go_ret
    exact ⟨rfl, hb⟩
  · have e1 := beqN h1
    go_enter Tryd.func33, Tryd.ntmps33
    go_wp2_with (go_at_call 27; refine (HC.out _).mono ?_; rintro e w1 ⟨rfl, hb⟩)
    go_ret
    exact ⟨by rw [e1]; rfl, hb⟩

/-- Is it no error? -/
theorem err_eq (E : Int) (w : World) : (binOp .eql 30 (errV E) .nilIface).run Tryd.prog w = .ok (.bool (E == 0)) w := by
  by_cases h : E = 0
  · subst h
    kernel_rfl
  · rw [beqN h, errV_no h]
    kernel_rfl

theorem err_ne (E : Int) (w : World) : (binOp .neq 30 (errV E) .nilIface).run Tryd.prog w = .ok (.bool (E != 0)) w := by
  by_cases h : E = 0
  · subst h
    kernel_rfl
  · rw [bneN h, errV_no h]
    kernel_rfl

theorem err_guard (op : BinOp) (x : Operand) (c : Value) (E : Int) (w : World) : (eqGuard op 30 x (.const c) (errV E) .nilIface).run Tryd.prog w = .ok () w := by
  by_cases h : E = 0
  · subst h
    show (eqGuard op 30 x (.const c) .nilIface .nilIface).run Tryd.prog w = _
    cases op <;> simp [eqGuard]
  · rw [errV_no h]
    cases op <;> simp [eqGuard]
end Gr
end Go.Proofs.YtbgggekkkcefcabDoor
