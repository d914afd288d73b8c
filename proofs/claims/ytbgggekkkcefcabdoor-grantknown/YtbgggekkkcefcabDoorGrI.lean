/- Layer 22: what refuses a birth, gone through in order. -/
import Derived.Test.YtbgggekkkcefcabDoorGrH
namespace Go.Proofs.YtbgggekkkcefcabDoor
set_option linter.ambiguousOpen false
open Go.RowKit
namespace Gr
set_option linter.unusedVariables false
set_option linter.unusedSimpArgs false

/-- The first refusal that tells so. -/
def firstV (P : Rf → Bool) : List Rf → Value
  | [] => .nilIface
  | x :: t => if P x then Er.noV x.no else firstV P t

/-- What holds for all births. -/
def bothR : List Rf := [⟨18, 34⟩, ⟨19, 35⟩]

/-- A call of it enters it. -/
def Goes (f : Nat) : Prop := ∀ (args : Array Value) (w : World), (callFunc f args).run Tryd.prog w = .ok (.enter f args) w

theorem goes_of {f : Nat} {fn : Func} (hf : Tryd.prog.funcs[f]? = some fn) (hn : (fn.name == "runtime.NumGoroutine") = false) (hb : fn.body.isNone = false) : Goes f := by
  intro args w
  have hn' : ¬ fn.name = "runtime.NumGoroutine" := by simpa using hn
  have hb' : ¬ fn.body = none := by
    intro h
    rw [h] at hb
    cases hb
  simp [callFunc, hf, hn', hb']

theorem first_at {P : Rf → Bool} {L : List Rf} {k : Nat} (hk : k < L.length) : firstV P (L.drop k) = if P (L[k]) then Er.noV (L[k]).no else firstV P (L.drop (k + 1)) := by
  rw [List.drop_eq_getElem_cons hk]
  rfl

theorem wpList_store_rf {ops : Array Oper} {rest : List Oper} {op : Oper} {a : Act} {w : World} {Q : Exit → Act → World → Prop} (hgd : op.guard = none) (x y : Operand) (ho : op.op = .store 52 x y)
    (g : Nat) (hx : a.eval x = .pointer (some ⟨g, 0, none⟩)) (no : Int) (f : Nat) (hy : a.eval y = .agg #[.int .i64 no, .func (.func f) #[] #[]]) (z : Array Value) (hz : w.heap[g]? = some (.cells z 52)) (hsz : z.size = 2)
    (h : ∀ w', w'.heap[g]? = some (.cells #[.int .i64 no, .func (.func f) #[] #[]] 52) → w.grownBy w' (some g) → wpList Tryd.prog ops Q rest (a.put op.dst undef) w') : wpList Tryd.prog ops Q (op :: rest) a w := by
  refine wpList_plain hgd fun K hK => ?_
  have hrun := run_storeVar_row (P := Tryd.prog) w g _ 52 z #[.int .i64 no, .func (.func f) #[] #[]] hz size_rf hsz (by simp [Value.oneCell'])
  have hk := hK _ _ (h (w.setRow g #[.int .i64 no, .func (.func f) #[] #[]]) (setRow_heap w g _ _ _ _ hz) ⟨rfl, rfl, rfl, by simp, fun k hk hn => setRow_other _ _ _ _ (fun e => hn (by rw [e]))⟩)
  unfold Oper.wp execOp
  simp only [ho, hx, hy, Instr.storeAt, Instr.sureAddr, Sem.run_bind, Sem.run_pure, Result.andThen_ok, hrun]
  exact hk

theorem round_below {w4 wr w5 : World} {o : Obj} (hr : Below w4.heap.size w4 wr) (hg : (wr.alloc o).grownBy w5 (some wr.heap.size)) : Below w4.heap.size w4 w5 :=
  (hr.alloc hr.size o).grown hg (by have := hr.size; simp; omega) (fun k e => by cases e; exact hr.size)

set_option maxRecDepth 100000 in
set_option maxHeartbeats 8000000 in
theorem refused_p (b : Bi) (P : Rf → Bool) (L : List Rf) (h0 : 0 < L.length) (h1 : L.length ≤ 900) (w : World) (v : Value) (hR : RdR w v L)
    (hgo : ∀ x ∈ L ++ bothR, Goes x.f)
    (hf : ∀ x ∈ L ++ bothR, ∀ w1, Below w.heap.size w w1 → Calls Tryd.prog x.f #[b.v] w1 fun e w' => e = .returned (.bool (P x)) ∧ Below w1.heap.size w1 w') :
    Calls Tryd.prog 17 #[b.v, v] w fun e w' => e = .returned (firstV P (L ++ bothR)) ∧ Below w.heap.size w w' := by
  have hR0 := hR
  obtain ⟨av, kv, rfl, -⟩ := hR0
  obtain ⟨n, hn⟩ : ∃ n, L.length = n := ⟨_, rfl⟩
  rw [hn] at hR h0 h1
  obtain ⟨oA, hA⟩ : ∃ o, o = Obj.cells b.arr 47 := ⟨_, rfl⟩
  obtain ⟨oB, hB⟩ : ∃ o, o = Obj.cells #[nu 18, fnV 34, nu 19, fnV 35] 52 := ⟨_, rfl⟩
  obtain ⟨oC, hC⟩ : ∃ o, o = Obj.cells #[.slice av n kv, .slice (some ⟨w.heap.size + 1, 0, none⟩) 2 2] 53 := ⟨_, rfl⟩
  obtain ⟨w3, hw3⟩ : ∃ w3, ((w.alloc oA).alloc oB).alloc oC = w3 := ⟨_, rfl⟩
  have B3 : Below w.heap.size w w3 := by rw [← hw3]; exact three_below _ _ _ _
  have q0 : w3.heap[w.heap.size]? = some oA := by rw [← hw3]; exact three_0 _ _ _ _
  have q1 : w3.heap[w.heap.size + 1]? = some oB := by rw [← hw3]; exact three_1 _ _ _ _
  have q2 : w3.heap[w.heap.size + 2]? = some oC := by rw [← hw3]; exact three_at _ _ _ _
  have R2 : RdR w3 (.slice (some ⟨w.heap.size + 1, 0, none⟩) 2 2) bothR := by
    refine ⟨_, 2, rfl, Nat.le_refl _, by unfold maxLen; omega, fun _ => ⟨w.heap.size + 1, 0, rfl, fun i hi c u hu => ?_⟩⟩
    rw [cell_of_row w3 _ (0 + i * 2 + c) _ _ _ (hB ▸ q1)]
    have hi : i < 2 := hi
    have hc : c < 2 := (List.getElem?_eq_some_iff.1 hu).1
    obtain rfl | rfl : i = 0 ∨ i = 1 := by omega
    all_goals
      obtain rfl | rfl : c = 0 ∨ c = 1 := by omega
      all_goals exact hu
  have c0 : w3.cell? ⟨w.heap.size + 2, 0, none⟩ = some (.slice av n kv) := by rw [cell_of_row w3 _ 0 _ _ _ (hC ▸ q2)]; rfl
  have c1 : w3.cell? ⟨w.heap.size + 2, 1, none⟩ = some (.slice (some ⟨w.heap.size + 1, 0, none⟩) 2 2) := by rw [cell_of_row w3 _ 1 _ _ _ (hC ▸ q2)]; rfl
  have cC := concat_p w3 (w.heap.size + 2) (.slice av n kv) _ L bothR (rd_belowR hR B3) R2 (by omega) (by decide) (by show L.length + 2 ≤ 1000; omega) c0 c1
  have hlen : (L ++ bothR).length ≤ 902 := by rw [List.length_append]; show L.length + 2 ≤ 902; omega
  obtain ⟨LL, hLL⟩ : ∃ LL, L ++ bothR = LL := ⟨_, rfl⟩
  rw [hLL] at hf hgo cC hlen ⊢
  rw [hn]
  obtain ⟨V, hV⟩ : ∃ V, firstV P LL = V := ⟨_, rfl⟩
  rw [hV]
  have HV := hidG hV
  have HF := hidG hf
  have HGO := hidG hgo
  have HB3 := hidG B3
  have HQ0 := hidG q0
  have HA := hidG hA
  have HW3 : Hid (((w.alloc (.cells b.arr 47)).alloc (.cells #[nu 18, fnV 34, nu 19, fnV 35] 52)).alloc (.cells #[.slice av n kv, .slice (some ⟨w.heap.size + 1, 0, none⟩) 2 2] 53) = w3) := hidG (by rw [← hA, ← hB, ← hC]; exact hw3)
  clear hV hf hgo B3 q0 q1 q2 R2 c0 c1 hLL hw3 hA hB hC hR hn
  show Calls Tryd.prog 17 #[.agg b.arr, .slice av n kv] w _
  go_enter Tryd.func17, Tryd.ntmps17
  go_wp2_with fail
  rw [HW3.out]
  refine cC.mono ?_
  rintro e w4 ⟨v4, rfl, hR4, hb4⟩
  have HR4 := hidG hR4
  obtain ⟨a4, k4, rfl, hk4, hm4, hc4⟩ := hR4
  obtain ⟨m, hm⟩ : ∃ m, LL.length = m := ⟨_, rfl⟩
  rw [hm] at HR4 hk4 hlen ⊢
  have HB4 := hidG (HB3.out.trans (hb4.mono HB3.out.size))
  have HQ4 := hidG (((hb4.block w.heap.size (Array.getElem?_eq_some_iff.1 HQ0.out).1).trans HQ0.out).trans (congrArg some HA.out))
  have hk4i : (k4 : Int) ≤ 9223372036854775807 := by unfold maxLen at hm4; omega
  have HM := hidG hm
  have HC4 := hidG hc4
  clear hb4 cC hm hc4
  go_wp2
  go_loopw [16] (fun i wr => ∃ k : Nat, i = .int .i64 k ∧ k ≤ m ∧ firstV P (LL.drop k) = V ∧ Below w4.heap.size w4 wr) (fun i _ => m - (intOf i).toNat)
  case atStart => exact ⟨0, rfl, by omega, HV.out, Below.refl _ _⟩
  case round =>
    obtain ⟨k, rfl, hk, hv, hb⟩ := hrel
    have HBr := hidG hb
    have HVk := hidG hv
    clear hb hv
    by_cases hlt : k < m
    · have hlt' : k < LL.length := by rw [HM.out]; exact hlt
      obtain ⟨g, o, rfl, hat⟩ := HC4.out (by omega)
      have e0 := (HBr.out.cell (p := ⟨g, o + k * 2, none⟩) (cell_ltR (hat k hlt' 0 _ rfl))).trans (hat k hlt' 0 _ rfl)
      have e1 := (HBr.out.cell (p := ⟨g, o + k * 2 + 1, none⟩) (cell_ltR (hat k hlt' 1 _ rfl))).trans (hat k hlt' 1 _ rfl)
      have HFk := hidG (HF.out (LL[k]) (List.getElem_mem _))
      have HGk := hidG (HGO.out (LL[k]) (List.getElem_mem _))
      have hfk := hidG (first_at (P := P) hlt')
      obtain ⟨⟨no, f⟩, hx⟩ : ∃ x, LL[k] = x := ⟨_, rfl⟩
      rw [hx] at e0 e1 HFk HGk hfk
      dsimp only [Rf.cells, fnV] at e0 e1
      have E0 := hidG e0
      have E1 := hidG e1
      clear hat hx hlt'
      have hltI : (k : Int) < (m : Int) := by omega
      have hk0 : (0 : Int) ≤ (k : Int) := by omega
      obtain ⟨s, hs⟩ : ∃ s, wr.heap.size = s := ⟨_, rfl⟩
      have HS := hidG hs
      have HNW := hidG (heap_alloc_new wr (.cells #[.int .i64 0, .nilFunc] 52))
      rw [hs] at HNW
      clear hs
      have HR5 : Hid (∀ w5, (wr.alloc (.cells #[.int .i64 0, .nilFunc] 52)).grownBy w5 (some s) → Below w4.heap.size w4 w5) := hidG fun w5 hg => round_below HBr.out (by rw [HS.out]; exact hg)
      have HQ5 : Hid (∀ w5, Below w4.heap.size w4 w5 → w5.heap[w.heap.size]? = some (.cells b.arr 47)) := hidG fun w5 hg => (hg.block w.heap.size (Array.getElem?_eq_some_iff.1 HQ4.out).1).trans HQ4.out
      have HB5 : Hid (∀ w5, Below w4.heap.size w4 w5 → Below w.heap.size w w5) := hidG fun w5 hg => HB4.out.trans (hg.mono HB4.out.size)
      go_wp2_with (first | (rw [HS.out]; refine wpList_store_rf rfl _ _ rfl s rfl no f rfl _ HNW.out rfl ?_; intro w5 hh hg; have HH := hidG hh; have HG := hidG (HR5.out _ hg); clear hh hg; have a0 : w5.cell? ⟨s, 0, none⟩ = some (.int .i64 no) := by { rw [cell_of_row w5 _ 0 _ _ _ HH.out]; rfl }; have a1 : w5.cell? ⟨s, 1, none⟩ = some (.func (.func f) #[] #[]) := by { rw [cell_of_row w5 _ 1 _ _ _ HH.out]; rfl }) | (refine wpList_load_bi rfl _ rfl w.heap.size rfl b (HQ5.out _ HG.out) ?_) | fail)
      rw [HGk.out]
      refine (HFk.out _ (HB5.out _ HG.out)).mono ?_
      cases hP : P ⟨no, f⟩
      · rintro e w6 ⟨rfl, hb6⟩
        have HB6 := hidG (HG.out.trans (hb6.mono HG.out.size))
        clear hb6 a0 a1
        go_wp2
        go_roundw
        case rel => exact ⟨k + 1, by go_num, by omega, by have := HVk.out; rw [hfk.out, hP] at this; exact this, HB6.out⟩
        case measure => simp [intOf]; omega
      · rintro e w6 ⟨rfl, hb6⟩
        have HB6 := hidG (HG.out.trans (hb6.mono HG.out.size))
        have b0 : w6.cell? ⟨s, 0, none⟩ = some (.int .i64 no) := (hb6.cell (p := ⟨s, 0, none⟩) (cell_ltR a0)).trans a0
        clear hb6 a0 a1
        go_wp2
        go_ret
        refine ⟨?_, HB5.out _ HB6.out⟩
        have := HVk.out
        rw [hfk.out, hP] at this
        rw [← this]
        rfl
    · have hkm : k = m := by omega
      subst hkm
      have hlt' : ¬ (k : Int) < (k : Int) := by omega
      go_wp2
      go_ret
      refine ⟨?_, HB4.out.trans (HBr.out.mono HB4.out.size)⟩
      rw [← HVk.out, ← HM.out, List.drop_length]
      rfl
end Gr
end Go.Proofs.YtbgggekkkcefcabDoor
