/- Layer 22: the program's Child and Raised. -/
import Derived.Test.YtbgggekkkcefcabDoorGrO
namespace Go.Proofs.YtbgggekkkcefcabDoor
set_option linter.ambiguousOpen false
open Go.RowKit
namespace Gr
set_option linter.unusedVariables false
set_option linter.unusedSimpArgs false

theorem new_far {w3 w5 : World} {o x : Obj} {g : Nat} (h : w3.heap[g]? = some x) (hg : (w3.alloc o).grownBy w5 (some w3.heap.size)) : w5.heap[g]? = some x := by
  have lt := (Array.getElem?_eq_some_iff.1 h).1
  exact (hg.block g (by simp; omega) (by intro h; have := Option.some.inj h; omega)).trans ((heap_alloc_old _ _ lt).trans h)

theorem new_below {w w3 w5 : World} {o : Obj} (hB : Below w.heap.size w w3) (hg : (w3.alloc o).grownBy w5 (some w3.heap.size)) : Below w.heap.size w w5 :=
  (hB.alloc hB.size o).grown hg (by have := hB.size; simp; omega) (fun k e => by cases e; exact hB.size)

def bC (p : Sn) (r : Rq) (now births : Int) (full : Bool) : Bi := ⟨p, r, p.deadline, now, births, full⟩
def listC : List Rf := [⟨8, 22⟩, ⟨12, 20⟩, ⟨17, 24⟩, ⟨11, 43⟩]
def listR : List Rf := [⟨8, 22⟩, ⟨12, 23⟩, ⟨12, 20⟩, ⟨17, 24⟩, ⟨13, 25⟩]

theorem first_C (p : Sn) (r : Rq) (now births : Int) (full : Bool) : firstV (pB (bC p r now births full)) (listC ++ bothR) = errV (childE p r now births full) := by
  show (if (!nmB r.label) = true then Er.noV 8 else if (!Ck.untilB now r.life p.deadline) = true then Er.noV 12 else if decide (p.depth < 0 ∨ 6 ≤ p.depth) = true then Er.noV 17 else if (!inB r.scopes p.scopes) = true then Er.noV 11 else firstV (pB (bC p r now births full)) bothR) = _
  rw [room_first]
  unfold childE belowE
  cases h1 : nmB r.label
  · rfl
  cases h2 : Ck.untilB now r.life p.deadline
  · rfl
  by_cases h3 : p.depth < 0 ∨ 6 ≤ p.depth
  · simp [h3, errV]
  cases h4 : inB r.scopes p.scopes
  · simp [h3, errV]
  · simp only [h3, decide_false, Bool.not_true, Bool.false_eq_true, if_false, Bool.true_eq_false, ne_eq, not_true_eq_false]
    rfl

theorem up_level (a b : Int) : (!Lv.upB a b) = decide (lvlB a = false ∨ lvlB b = false ∨ b ≤ a) := by
  have e : ∀ n, Lv.levelB n = lvlB n := fun n => rfl
  unfold Lv.upB
  rw [e, e]
  have h : decide (a < b) = !decide (b ≤ a) := by by_cases h : a < b <;> simp [h] <;> omega
  cases lvlB a <;> cases lvlB b <;> simp [h]

theorem first_R (p : Sn) (r : Rq) (now births : Int) (full : Bool) : firstV (pB (bC p r now births full)) (listR ++ bothR) = errV (raiseE p r now births full) := by
  show (if (!nmB r.label) = true then Er.noV 8 else if decide (300 < r.life) = true then Er.noV 12 else if (!Ck.untilB now r.life p.deadline) = true then Er.noV 12 else if decide (p.depth < 0 ∨ 6 ≤ p.depth) = true then Er.noV 17 else if (!Lv.upB p.level r.level) = true then Er.noV 13 else firstV (pB (bC p r now births full)) bothR) = _
  rw [room_first, up_level]
  unfold raiseE belowE
  cases h1 : nmB r.label
  · rfl
  by_cases h0 : 300 < r.life
  · simp [h0, errV]
    split <;> simp_all
    split <;> simp_all
  by_cases h00 : r.life < 1
  · have h2 : Ck.untilB now r.life p.deadline = false := by
      cases h : Ck.untilB now r.life p.deadline
      · rfl
      · have := Ck.untilB_iff.1 h
        omega
    simp [h0, h00, h2, errV]
  cases h2 : Ck.untilB now r.life p.deadline
  · simp [h0, h00, errV]
  by_cases h3 : p.depth < 0 ∨ 6 ≤ p.depth
  · simp [h0, h00, h3, errV]
  by_cases h4 : lvlB p.level = false ∨ lvlB r.level = false ∨ r.level ≤ p.level
  · simp [h0, h00, h3, h4, errV]
  · simp only [h0, h00, h3, h4, decide_false, Bool.not_true, Bool.false_eq_true, if_false, Bool.true_eq_false, ne_eq, not_true_eq_false, or_self]
    rfl

theorem below_ok {p : Sn} {r : Rq} {now : Int} (h : belowE p r now = 0) : Ck.untilB now r.life p.deadline = true ∧ 0 ≤ p.depth ∧ p.depth < 6 := by
  unfold belowE at h
  cases h1 : nmB r.label
  · simp [h1] at h
  cases h2 : Ck.untilB now r.life p.deadline
  · simp [h1, h2] at h
  by_cases h3 : p.depth < 0 ∨ 6 ≤ p.depth
  · simp [h1, h2, h3] at h
  · exact ⟨rfl, by omega, by omega⟩

theorem child_ok {p : Sn} {r : Rq} {now births : Int} {full : Bool} (h : childE p r now births full = 0) : Ck.untilB now r.life p.deadline = true ∧ 0 ≤ births ∧ births < 1048576 ∧ 0 ≤ p.depth ∧ p.depth < 6 := by
  unfold childE at h
  by_cases h1 : belowE p r now = 0
  · obtain ⟨a1, a2, a3⟩ := below_ok h1
    cases h2 : inB r.scopes p.scopes
    · simp [h1, h2] at h
    · simp only [h1, h2, ne_eq, not_true_eq_false, if_false, Bool.true_eq_false] at h
      obtain ⟨b1, b2, _⟩ := room_yes h
      exact ⟨a1, b1, b2, a2, a3⟩
  · simp [h1] at h

theorem raise_ok {p : Sn} {r : Rq} {now births : Int} {full : Bool} (h : raiseE p r now births full = 0) : Ck.untilB now r.life p.deadline = true ∧ 0 ≤ births ∧ births < 1048576 ∧ 0 ≤ p.depth ∧ p.depth < 6 := by
  unfold raiseE at h
  by_cases h8 : belowE p r now = 8
  · simp [h8] at h
  by_cases h0 : r.life < 1 ∨ 300 < r.life
  · simp [h8, h0] at h
  by_cases h1 : belowE p r now = 0
  · obtain ⟨a1, a2, a3⟩ := below_ok h1
    by_cases h2 : lvlB p.level = false ∨ lvlB r.level = false ∨ r.level ≤ p.level
    · simp [h1, h0, h2] at h
    · simp only [h1, h0, h2, ne_eq, not_true_eq_false, if_false] at h
      obtain ⟨b1, b2, _⟩ := room_yes h
      exact ⟨a1, b1, b2, a2, a3⟩
  · simp [h8, h0, h1] at h

theorem four_facts (w : World) (p : Sn) (r : Rq) : ∃ w3 wA, ((w.alloc (.cells p.arr 28)).alloc (.cells r.arr 34)).alloc (.cells zeroS.arr 28) = w3 ∧ w3.alloc (.cells zeroB.arr 47) = wA ∧
    w3.heap[w.heap.size]? = some (.cells p.arr 28) ∧ w3.heap[w.heap.size + 1]? = some (.cells r.arr 34) ∧ w3.heap.size = w.heap.size + 3 ∧
    wA.heap[w.heap.size]? = some (.cells p.arr 28) ∧ wA.heap[w.heap.size + 1]? = some (.cells r.arr 34) ∧ wA.heap[w.heap.size + 2]? = some (.cells zeroS.arr 28) ∧ wA.heap[w.heap.size + 3]? = some (.cells zeroB.arr 47) ∧ Below w.heap.size w wA := by
  refine ⟨_, _, rfl, rfl, three_0 _ _ _ _, three_1 _ _ _ _, by simp, ?_, ?_, ?_, ?_, (three_below _ _ _ _).alloc (by simp; omega) _⟩
  · rw [heap_alloc_old _ _ (by simp; omega)]
    exact three_0 _ _ _ _
  · rw [heap_alloc_old _ _ (by simp)]
    exact three_1 _ _ _ _
  · rw [heap_alloc_old _ _ (by simp)]
    exact three_at _ _ _ _
  · have := heap_alloc_new (((w.alloc (.cells p.arr 28)).alloc (.cells r.arr 34)).alloc (.cells zeroS.arr 28)) (.cells zeroB.arr 47)
    simpa using this

set_option maxRecDepth 100000 in
set_option maxHeartbeats 16000000 in
theorem child_p (p : Sn) (r : Rq) (now births : Int) (full : Bool) (w : World) (hp : p.fit) (hr : r.fit) :
    Calls Tryd.prog 28 #[p.v, r.v, nu now, nu births, .bool full] w fun e w' => e = .returned (.tuple #[(orS (childE p r now births full) (childS p r now births)).v, errV (childE p r now births full)]) ∧ Below w.heap.size w w' := by
  have hbf : (bC p r now births full).fit := ⟨hp, hr⟩
  have cR := fun (wx : World) (v : Value) (hR : RdR wx v listC) => refuses (bC p r now births full) hbf listC (by decide) (by decide) (by decide) wx v hR (fun x hx hs => by simp only [listC, List.mem_cons, List.not_mem_nil, or_false] at hx; rcases hx with rfl | rfl | rfl | rfl <;> cases hs)
  rw [first_C] at cR
  have cB := fun (h : childE p r now births full = 0) (wx : World) => below_p (bC p r now births full) wx hbf (child_ok h).1 (child_ok h).2.1 (child_ok h).2.2.1 (child_ok h).2.2.2.1 (child_ok h).2.2.2.2
  have HCR := hidG cR
  obtain ⟨E, hE⟩ : ∃ E, childE p r now births full = E := ⟨_, rfl⟩
  rw [hE] at cB HCR ⊢
  have HCB := hidG cB
  obtain ⟨b, hb⟩ : ∃ b, bC p r now births full = b := ⟨_, rfl⟩
  rw [hb] at HCB HCR
  have HBV : Hid (b.v = .agg #[nu p.slot, nu p.birth, nu p.us, nu p.ub, nu p.kind, .string p.user, .string p.label, su p.scopes, nu p.level, nu p.born, nu p.deadline, nu p.depth, .string r.user, .string r.label, su r.scopes, nu r.level, nu r.life, nu p.deadline, nu now, nu births, .bool full]) := hidG (by rw [← hb]; rfl)
  obtain ⟨S0, hS0⟩ : ∃ S0 : Sn, (⟨0, b.births + 1, b.p.slot, b.p.birth, 0, b.p.user, b.r.label, 0, 0, b.now, Ck.untilI b.now b.r.life b.latest, b.p.depth + 1⟩ : Sn) = S0 := ⟨_, rfl⟩
  rw [hS0] at HCB
  have HS1 : Hid (({ S0 with kind := 1, scopes := r.scopes, level := p.level } : Sn) = childS p r now births) := hidG (by rw [← hS0, ← hb]; rfl)
  obtain ⟨w3, wA, h3, hA, u0, u1, us, q0, q1, q2, q3, hB⟩ := four_facts w p r
  have H3 : Hid (((w.alloc (.cells #[nu p.slot, nu p.birth, nu p.us, nu p.ub, nu p.kind, .string p.user, .string p.label, su p.scopes, nu p.level, nu p.born, nu p.deadline, nu p.depth] 28)).alloc (.cells #[.string r.user, .string r.label, su r.scopes, nu r.level, nu r.life] 34)).alloc (.cells #[.int .i64 0, .int .i64 0, .int .i64 0, .int .i64 0, .int .i64 0, .string ⟨#[]⟩, .string ⟨#[]⟩, .int .u64 0, .int .i64 0, .int .i64 0, .int .i64 0, .int .i64 0] 28) = w3) := hidG h3
  have HA : Hid (w3.alloc (.cells #[.int .i64 0, .int .i64 0, .int .i64 0, .int .i64 0, .int .i64 0, .string ⟨#[]⟩, .string ⟨#[]⟩, .int .u64 0, .int .i64 0, .int .i64 0, .int .i64 0, .int .i64 0, .string ⟨#[]⟩, .string ⟨#[]⟩, .int .u64 0, .int .i64 0, .int .i64 0, .int .i64 0, .int .i64 0, .int .i64 0, .bool false] 47) = wA) := hidG hA
  have HBX := hidG hB
  have d10 : w3.cell? ⟨w.heap.size, 10, none⟩ = some (nu p.deadline) := by rw [cell_of_row w3 _ 10 _ _ _ u0]; rfl
  have U0 := hidG u0
  have U1 := hidG u1
  have Q0 := hidG q0
  have Q1 := hidG q1
  have Q2 := hidG q2
  have Q3 := hidG q3
  have US := hidG us
  clear h3 hA u0 u1 us q0 q1 q2 q3 hB cB cR hE hb hbf hr hp hS0
  show Calls Tryd.prog 28 #[.agg #[nu p.slot, nu p.birth, nu p.us, nu p.ub, nu p.kind, .string p.user, .string p.label, su p.scopes, nu p.level, nu p.born, nu p.deadline, nu p.depth], .agg #[.string r.user, .string r.label, su r.scopes, nu r.level, nu r.life], nu now, nu births, .bool full] w _
  go_enter Tryd.func28, Tryd.ntmps28
  go_wp2_with (first | (rw [H3.out]; refine wpList_load_snX rfl _ rfl w.heap.size rfl p U0.out ?_) | (refine wpList_load_rqX rfl _ rfl (w.heap.size + 1) rfl r U1.out ?_) | (rw [US.out, HA.out]; refine wpList_store_bi rfl _ _ rfl (w.heap.size + 3) rfl b zeroB HBV.out.symm Q3.out ?_; intro w1 hh hg; have HH := hidG hh; have HG := hidG hg; clear hh hg) | (refine wpList_load_bi rfl _ rfl (w.heap.size + 3) rfl b HH.out ?_) | fail)
  have hB1 : Below w.heap.size w w1 := HBX.out.grown HG.out HBX.out.size (fun k e => by cases e; omega)
  refine (HCR.out _ (.slice (some ⟨w1.heap.size, 0, none⟩) 4 4) (row_new listC (by decide) w1)).mono ?_
  rintro e w2 ⟨rfl, hb2⟩
  have hb12 : Below w1.heap.size w1 w2 := box_then hb2
  have a0 := (HG.out.block w.heap.size (Array.getElem?_eq_some_iff.1 Q0.out).1 (by intro h; have := Option.some.inj h; omega)).trans Q0.out
  have a1 := (HG.out.block (w.heap.size + 1) (Array.getElem?_eq_some_iff.1 Q1.out).1 (by intro h; have := Option.some.inj h; omega)).trans Q1.out
  have a2 := (HG.out.block (w.heap.size + 2) (Array.getElem?_eq_some_iff.1 Q2.out).1 (by intro h; have := Option.some.inj h; omega)).trans Q2.out
  have E0 := hidG ((hb12.block _ (Array.getElem?_eq_some_iff.1 a0).1).trans a0)
  have E1 := hidG ((hb12.block _ (Array.getElem?_eq_some_iff.1 a1).1).trans a1)
  have E2 := hidG ((hb12.block _ (Array.getElem?_eq_some_iff.1 a2).1).trans a2)
  have E3 := hidG ((hb12.block _ (Array.getElem?_eq_some_iff.1 HH.out).1).trans HH.out)
  have HB2 := hidG (hB1.trans (hb12.mono hB1.size))
  clear hb2 hb12 a0 a1 a2 hB1 HA H3 US U0 U1 Q0 Q1 Q2 Q3 HBX d10 HBV HH HG HCR
  by_cases hE0 : E = 0
  · subst hE0
    have HC := hidG (HCB.out rfl)
    rw [show errV 0 = Value.nilIface from rfl]
    go_wp2_with (first | (refine wpList_load_bi rfl _ rfl (w.heap.size + 3) rfl b E3.out ?_) | fail)
    refine (HC.out _).mono ?_
    rintro e w3 ⟨rfl, hb3⟩
    have x0 := hidG ((hb3.block _ (Array.getElem?_eq_some_iff.1 E0.out).1).trans E0.out)
    have x1 := hidG ((hb3.block _ (Array.getElem?_eq_some_iff.1 E1.out).1).trans E1.out)
    have x2 := hidG ((hb3.block _ (Array.getElem?_eq_some_iff.1 E2.out).1).trans E2.out)
    have lt2 := (Array.getElem?_eq_some_iff.1 x2.out).1
    have HB3 := hidG (HB2.out.trans (hb3.mono HB2.out.size))
    have HN := hidG (heap_alloc_new w3 (.cells #[.int .i64 0, .int .i64 0, .int .i64 0, .int .i64 0, .int .i64 0, .string ⟨#[]⟩, .string ⟨#[]⟩, .int .u64 0, .int .i64 0, .int .i64 0, .int .i64 0, .int .i64 0] 28))
    have n0 : ¬ w3.heap.size = w.heap.size := by omega
    have n1 : ¬ w3.heap.size = w.heap.size + 1 := by omega
    have n2 : ¬ w3.heap.size = w.heap.size + 1 + 1 := by omega
    clear hb3 E0 E1 E2 E3 HB2 lt2
    go_upto_region 6 with (first | (refine wpList_store_sn rfl _ _ rfl w3.heap.size rfl S0 zeroS rfl HN.out ?_; intro w5 hh hg; have y0 := new_far x0.out hg; have y1 := new_far x1.out hg; have Y2 := hidG (new_far x2.out hg); have HB5 := hidG (new_below HB3.out hg); have Y3 := hidG hh; have k8 : w5.cell? ⟨w.heap.size, 8, none⟩ = some (nu p.level) := by { rw [cell_of_row w5 _ 8 _ _ _ y0]; rfl }; have k2 : w5.cell? ⟨w.heap.size + 1, 2, none⟩ = some (su r.scopes) := by { rw [cell_of_row w5 _ 2 _ _ _ y1]; rfl }; have c4 : w5.cell? ⟨w3.heap.size, 4, none⟩ = some (nu S0.kind) := by { rw [cell_of_row w5 _ 4 _ _ _ hh]; rfl }; have c7 : w5.cell? ⟨w3.heap.size, 7, none⟩ = some (su S0.scopes) := by { rw [cell_of_row w5 _ 7 _ _ _ hh]; rfl }; have c8 : w5.cell? ⟨w3.heap.size, 8, none⟩ = some (nu S0.level) := by { rw [cell_of_row w5 _ 8 _ _ _ hh]; rfl }; have f4 : w5.frozen? ⟨w3.heap.size, 4, none⟩ = false := by { simp [World.frozen?, hh] }; have f7 : w5.frozen? ⟨w3.heap.size, 7, none⟩ = false := by { simp [World.frozen?, hh] }; have f8 : w5.frozen? ⟨w3.heap.size, 8, none⟩ = false := by { simp [World.frozen?, hh] }; clear hh hg y0 y1 x0 x1 x2 HN) | fail)
    go_region
    all_goals
      obtain ⟨S1, hS1⟩ : ∃ S1 : Sn, ({ S0 with kind := 1, scopes := r.scopes, level := p.level } : Sn) = S1 := ⟨_, rfl⟩
      have HS1' := HS1
      rw [hS1] at HS1'
      obtain ⟨w6, hw6⟩ : ∃ w6, (((w5.setCell ⟨w3.heap.size, 4, none⟩ (.int .i64 1)).setCell ⟨w3.heap.size, 7, none⟩ (.int .u64 (r.scopes : Nat))).setCell ⟨w3.heap.size, 8, none⟩ (.int .i64 p.level)).drew = w6 := ⟨_, rfl⟩
      rw [hw6]
      have z1 : w6.heap[w3.heap.size]? = some (.cells S1.arr 28) := by
        rw [← hw6, ← hS1]
        exact set_sn Y3.out 1 r.scopes p.level
      have z2 : w6.heap[w.heap.size + 1 + 1]? = some (.cells zeroS.arr 28) := by
        rw [← hw6]
        exact set_far Y2.out n2 _ _ _
      have HB6 : Hid (Below w.heap.size w w6) := hidG (by
        rw [← hw6]
        have := HB3.out.size
        exact (((HB5.out.setCell (p := ⟨w3.heap.size, 4, none⟩) this _).setCell (p := ⟨w3.heap.size, 7, none⟩) this _).setCell (p := ⟨w3.heap.size, 8, none⟩) this _).drew)
      have Z1 := hidG z1
      have Z2 := hidG z2
      clear z1 z2 hw6 hS1 c4 c7 c8 f4 f7 f8 k8 k2 Y2 Y3
      go_wp2_with (first | (refine wpList_load_sn rfl _ rfl w3.heap.size rfl S1 Z1.out ?_) | (refine wpList_store_sn rfl _ _ rfl (w.heap.size + 1 + 1) rfl S1 zeroS rfl Z2.out ?_; intro w7 hh hg; have HF := hidG hh; have HG6 := hidG hg; clear hh hg) | fail)
      refine bodyPost_ret (results_sn rfl _ _ (w.heap.size + 1 + 1) S1 rfl HF.out) rfl ⟨?_, HB6.out.grown HG6.out HB6.out.size (fun k e => by cases e; omega)⟩
      rw [orS, if_pos rfl, ← HS1'.out]
      rfl
  · rw [errV_no hE0]
    go_wp2_with (first | (refine wpList_store_sn rfl _ _ rfl (w.heap.size + 1 + 1) rfl zeroS zeroS rfl E2.out ?_; intro w6 hh hg; have HF := hidG hh; have HG6 := hidG hg; clear hh hg) | fail)
    refine bodyPost_ret (results_sn rfl _ _ (w.heap.size + 1 + 1) zeroS rfl HF.out) rfl ⟨?_, HB2.out.grown HG6.out HB2.out.size (fun k e => by cases e; omega)⟩
    rw [orS, if_neg hE0, errV_no hE0]
    rfl

set_option maxRecDepth 100000 in
set_option maxHeartbeats 16000000 in
theorem raised_p (p : Sn) (r : Rq) (now births : Int) (full : Bool) (w : World) (hp : p.fit) (hr : r.fit) (hS : Lv.StepsG w):
    Calls Tryd.prog 8 #[p.v, r.v, nu now, nu births, .bool full] w fun e w' => e = .returned (.tuple #[(orS (raiseE p r now births full) (raiseS p r now births)).v, errV (raiseE p r now births full)]) ∧ Below w.heap.size w w' := by
  have hbf : (bC p r now births full).fit := ⟨hp, hr⟩
  have cR := fun (wx : World) (hSx : Lv.StepsG wx) (v : Value) (hR : RdR wx v listR) => refuses (bC p r now births full) hbf listR (by decide) (by decide) (by decide) wx v hR (fun _ _ _ => hSx)
  rw [first_R] at cR
  have cB := fun (h : raiseE p r now births full = 0) (wx : World) => below_p (bC p r now births full) wx hbf (raise_ok h).1 (raise_ok h).2.1 (raise_ok h).2.2.1 (raise_ok h).2.2.2.1 (raise_ok h).2.2.2.2
  have HCR := hidG cR
  obtain ⟨E, hE⟩ : ∃ E, raiseE p r now births full = E := ⟨_, rfl⟩
  rw [hE] at cB HCR ⊢
  have HCB := hidG cB
  obtain ⟨b, hb⟩ : ∃ b, bC p r now births full = b := ⟨_, rfl⟩
  rw [hb] at HCB HCR
  have HBV : Hid (b.v = .agg #[nu p.slot, nu p.birth, nu p.us, nu p.ub, nu p.kind, .string p.user, .string p.label, su p.scopes, nu p.level, nu p.born, nu p.deadline, nu p.depth, .string r.user, .string r.label, su r.scopes, nu r.level, nu r.life, nu p.deadline, nu now, nu births, .bool full]) := hidG (by rw [← hb]; rfl)
  obtain ⟨S0, hS0⟩ : ∃ S0 : Sn, (⟨0, b.births + 1, b.p.slot, b.p.birth, 0, b.p.user, b.r.label, 0, 0, b.now, Ck.untilI b.now b.r.life b.latest, b.p.depth + 1⟩ : Sn) = S0 := ⟨_, rfl⟩
  rw [hS0] at HCB
  have HS1 : Hid (({ S0 with kind := 2, scopes := p.scopes, level := r.level } : Sn) = raiseS p r now births) := hidG (by rw [← hS0, ← hb]; rfl)
  obtain ⟨w3, wA, h3, hA, u0, u1, us, q0, q1, q2, q3, hB⟩ := four_facts w p r
  have H3 : Hid (((w.alloc (.cells #[nu p.slot, nu p.birth, nu p.us, nu p.ub, nu p.kind, .string p.user, .string p.label, su p.scopes, nu p.level, nu p.born, nu p.deadline, nu p.depth] 28)).alloc (.cells #[.string r.user, .string r.label, su r.scopes, nu r.level, nu r.life] 34)).alloc (.cells #[.int .i64 0, .int .i64 0, .int .i64 0, .int .i64 0, .int .i64 0, .string ⟨#[]⟩, .string ⟨#[]⟩, .int .u64 0, .int .i64 0, .int .i64 0, .int .i64 0, .int .i64 0] 28) = w3) := hidG h3
  have HA : Hid (w3.alloc (.cells #[.int .i64 0, .int .i64 0, .int .i64 0, .int .i64 0, .int .i64 0, .string ⟨#[]⟩, .string ⟨#[]⟩, .int .u64 0, .int .i64 0, .int .i64 0, .int .i64 0, .int .i64 0, .string ⟨#[]⟩, .string ⟨#[]⟩, .int .u64 0, .int .i64 0, .int .i64 0, .int .i64 0, .int .i64 0, .int .i64 0, .bool false] 47) = wA) := hidG hA
  have HBX := hidG hB
  have d10 : w3.cell? ⟨w.heap.size, 10, none⟩ = some (nu p.deadline) := by rw [cell_of_row w3 _ 10 _ _ _ u0]; rfl
  have U0 := hidG u0
  have U1 := hidG u1
  have Q0 := hidG q0
  have Q1 := hidG q1
  have Q2 := hidG q2
  have Q3 := hidG q3
  have US := hidG us
  clear h3 hA u0 u1 us q0 q1 q2 q3 hB cB cR hE hb hbf hr hp hS0
  show Calls Tryd.prog 8 #[.agg #[nu p.slot, nu p.birth, nu p.us, nu p.ub, nu p.kind, .string p.user, .string p.label, su p.scopes, nu p.level, nu p.born, nu p.deadline, nu p.depth], .agg #[.string r.user, .string r.label, su r.scopes, nu r.level, nu r.life], nu now, nu births, .bool full] w _
  go_enter Tryd.func8, Tryd.ntmps8
  go_wp2_with (first | (rw [H3.out]; refine wpList_load_snX rfl _ rfl w.heap.size rfl p U0.out ?_) | (refine wpList_load_rqX rfl _ rfl (w.heap.size + 1) rfl r U1.out ?_) | (rw [US.out, HA.out]; refine wpList_store_bi rfl _ _ rfl (w.heap.size + 3) rfl b zeroB HBV.out.symm Q3.out ?_; intro w1 hh hg; have HH := hidG hh; have HG := hidG hg; clear hh hg) | (refine wpList_load_bi rfl _ rfl (w.heap.size + 3) rfl b HH.out ?_) | fail)
  have hB1 : Below w.heap.size w w1 := HBX.out.grown HG.out HBX.out.size (fun k e => by cases e; omega)
  refine (HCR.out _ (hS.below (hB1.alloc hB1.size _)) (.slice (some ⟨w1.heap.size, 0, none⟩) 5 5) (row_new listR (by decide) w1)).mono ?_
  rintro e w2 ⟨rfl, hb2⟩
  have hb12 : Below w1.heap.size w1 w2 := box_then hb2
  have a0 := (HG.out.block w.heap.size (Array.getElem?_eq_some_iff.1 Q0.out).1 (by intro h; have := Option.some.inj h; omega)).trans Q0.out
  have a1 := (HG.out.block (w.heap.size + 1) (Array.getElem?_eq_some_iff.1 Q1.out).1 (by intro h; have := Option.some.inj h; omega)).trans Q1.out
  have a2 := (HG.out.block (w.heap.size + 2) (Array.getElem?_eq_some_iff.1 Q2.out).1 (by intro h; have := Option.some.inj h; omega)).trans Q2.out
  have E0 := hidG ((hb12.block _ (Array.getElem?_eq_some_iff.1 a0).1).trans a0)
  have E1 := hidG ((hb12.block _ (Array.getElem?_eq_some_iff.1 a1).1).trans a1)
  have E2 := hidG ((hb12.block _ (Array.getElem?_eq_some_iff.1 a2).1).trans a2)
  have E3 := hidG ((hb12.block _ (Array.getElem?_eq_some_iff.1 HH.out).1).trans HH.out)
  have HB2 := hidG (hB1.trans (hb12.mono hB1.size))
  clear hb2 hb12 a0 a1 a2 hB1 HA H3 US U0 U1 Q0 Q1 Q2 Q3 HBX d10 HBV HH HG HCR
  by_cases hE0 : E = 0
  · subst hE0
    have HC := hidG (HCB.out rfl)
    rw [show errV 0 = Value.nilIface from rfl]
    go_wp2_with (first | (refine wpList_load_bi rfl _ rfl (w.heap.size + 3) rfl b E3.out ?_) | fail)
    refine (HC.out _).mono ?_
    rintro e w3 ⟨rfl, hb3⟩
    have x0 := hidG ((hb3.block _ (Array.getElem?_eq_some_iff.1 E0.out).1).trans E0.out)
    have x1 := hidG ((hb3.block _ (Array.getElem?_eq_some_iff.1 E1.out).1).trans E1.out)
    have x2 := hidG ((hb3.block _ (Array.getElem?_eq_some_iff.1 E2.out).1).trans E2.out)
    have lt2 := (Array.getElem?_eq_some_iff.1 x2.out).1
    have HB3 := hidG (HB2.out.trans (hb3.mono HB2.out.size))
    have HN := hidG (heap_alloc_new w3 (.cells #[.int .i64 0, .int .i64 0, .int .i64 0, .int .i64 0, .int .i64 0, .string ⟨#[]⟩, .string ⟨#[]⟩, .int .u64 0, .int .i64 0, .int .i64 0, .int .i64 0, .int .i64 0] 28))
    have n0 : ¬ w3.heap.size = w.heap.size := by omega
    have n1 : ¬ w3.heap.size = w.heap.size + 1 := by omega
    have n2 : ¬ w3.heap.size = w.heap.size + 1 + 1 := by omega
    clear hb3 E0 E1 E2 E3 HB2 lt2
    go_upto_region 6 with (first | (refine wpList_store_sn rfl _ _ rfl w3.heap.size rfl S0 zeroS rfl HN.out ?_; intro w5 hh hg; have y0 := new_far x0.out hg; have y1 := new_far x1.out hg; have Y2 := hidG (new_far x2.out hg); have HB5 := hidG (new_below HB3.out hg); have Y3 := hidG hh; have k7 : w5.cell? ⟨w.heap.size, 7, none⟩ = some (su p.scopes) := by { rw [cell_of_row w5 _ 7 _ _ _ y0]; rfl }; have k3 : w5.cell? ⟨w.heap.size + 1, 3, none⟩ = some (nu r.level) := by { rw [cell_of_row w5 _ 3 _ _ _ y1]; rfl }; have c4 : w5.cell? ⟨w3.heap.size, 4, none⟩ = some (nu S0.kind) := by { rw [cell_of_row w5 _ 4 _ _ _ hh]; rfl }; have c7 : w5.cell? ⟨w3.heap.size, 7, none⟩ = some (su S0.scopes) := by { rw [cell_of_row w5 _ 7 _ _ _ hh]; rfl }; have c8 : w5.cell? ⟨w3.heap.size, 8, none⟩ = some (nu S0.level) := by { rw [cell_of_row w5 _ 8 _ _ _ hh]; rfl }; have f4 : w5.frozen? ⟨w3.heap.size, 4, none⟩ = false := by { simp [World.frozen?, hh] }; have f7 : w5.frozen? ⟨w3.heap.size, 7, none⟩ = false := by { simp [World.frozen?, hh] }; have f8 : w5.frozen? ⟨w3.heap.size, 8, none⟩ = false := by { simp [World.frozen?, hh] }; clear hh hg y0 y1 x0 x1 x2 HN) | fail)
    go_region
    all_goals
      obtain ⟨S1, hS1⟩ : ∃ S1 : Sn, ({ S0 with kind := 2, scopes := p.scopes, level := r.level } : Sn) = S1 := ⟨_, rfl⟩
      have HS1' := HS1
      rw [hS1] at HS1'
      obtain ⟨w6, hw6⟩ : ∃ w6, (((w5.setCell ⟨w3.heap.size, 4, none⟩ (.int .i64 2)).setCell ⟨w3.heap.size, 7, none⟩ (.int .u64 (p.scopes : Nat))).setCell ⟨w3.heap.size, 8, none⟩ (.int .i64 r.level)).drew = w6 := ⟨_, rfl⟩
      rw [hw6]
      have z1 : w6.heap[w3.heap.size]? = some (.cells S1.arr 28) := by
        rw [← hw6, ← hS1]
        exact set_sn Y3.out 2 p.scopes r.level
      have z2 : w6.heap[w.heap.size + 1 + 1]? = some (.cells zeroS.arr 28) := by
        rw [← hw6]
        exact set_far Y2.out n2 _ _ _
      have HB6 : Hid (Below w.heap.size w w6) := hidG (by
        rw [← hw6]
        have := HB3.out.size
        exact (((HB5.out.setCell (p := ⟨w3.heap.size, 4, none⟩) this _).setCell (p := ⟨w3.heap.size, 7, none⟩) this _).setCell (p := ⟨w3.heap.size, 8, none⟩) this _).drew)
      have Z1 := hidG z1
      have Z2 := hidG z2
      clear z1 z2 hw6 hS1 c4 c7 c8 f4 f7 f8 k7 k3 Y2 Y3
      go_wp2_with (first | (refine wpList_load_sn rfl _ rfl w3.heap.size rfl S1 Z1.out ?_) | (refine wpList_store_sn rfl _ _ rfl (w.heap.size + 1 + 1) rfl S1 zeroS rfl Z2.out ?_; intro w7 hh hg; have HF := hidG hh; have HG6 := hidG hg; clear hh hg) | fail)
      refine bodyPost_ret (results_sn rfl _ _ (w.heap.size + 1 + 1) S1 rfl HF.out) rfl ⟨?_, HB6.out.grown HG6.out HB6.out.size (fun k e => by cases e; omega)⟩
      rw [orS, if_pos rfl, ← HS1'.out]
      rfl
  · rw [errV_no hE0]
    go_wp2_with (first | (refine wpList_store_sn rfl _ _ rfl (w.heap.size + 1 + 1) rfl zeroS zeroS rfl E2.out ?_; intro w6 hh hg; have HF := hidG hh; have HG6 := hidG hg; clear hh hg) | fail)
    refine bodyPost_ret (results_sn rfl _ _ (w.heap.size + 1 + 1) zeroS rfl HF.out) rfl ⟨?_, HB2.out.grown HG6.out HB2.out.size (fun k e => by cases e; omega)⟩
    rw [orS, if_neg hE0, errV_no hE0]
    rfl
end Gr
end Go.Proofs.YtbgggekkkcefcabDoor
