/- Layer 22: what refuses does so whatever room there is. -/
import Derived.Test.YtbgggekkkcefcabDoorGrZa
namespace Go.Proofs.YtbgggekkkcefcabDoor
set_option linter.ambiguousOpen false
open Go.RowKit
namespace Gr
set_option linter.unusedVariables false
set_option linter.unusedSimpArgs false

/-- The same but for the last two. -/
def Same (a b : Int) : Prop := (a = b ∨ ((a = 18 ∨ a = 19) ∧ b = 0)) ∧ b ≠ 18 ∧ b ≠ 19

theorem room_same (b : Int) (f : Bool) : Same (roomE b f) (roomE 0 false) := by
  have h0 : roomE 0 false = 0 := rfl
  rw [h0]
  unfold Same roomE
  by_cases h : b < 0 ∨ 1048576 ≤ b
  · simp [h]
  · cases f <;> simp [h]

theorem same_refl {a : Int} (h1 : a ≠ 18) (h2 : a ≠ 19) : Same a a := ⟨.inl rfl, h1, h2⟩

theorem login_same (r : Rq) (n b : Int) (f : Bool) : Same (loginE r n b f) (loginE r n 0 false) := by
  have := room_same b f
  unfold loginE
  split
  · exact same_refl (by decide) (by decide)
  split
  · exact same_refl (by decide) (by decide)
  split
  · exact same_refl (by decide) (by decide)
  · exact this

theorem below_not (p : Sn) (r : Rq) (n : Int) : belowE p r n ≠ 18 ∧ belowE p r n ≠ 19 := by
  unfold belowE
  repeat' split
  all_goals omega

theorem child_same (p : Sn) (r : Rq) (n b : Int) (f : Bool) : Same (childE p r n b f) (childE p r n 0 false) := by
  have := room_same b f
  unfold childE
  split
  · exact same_refl (below_not p r n).1 (below_not p r n).2
  split
  · exact same_refl (by decide) (by decide)
  · exact this

theorem raise_same (p : Sn) (r : Rq) (n b : Int) (f : Bool) : Same (raiseE p r n b f) (raiseE p r n 0 false) := by
  have := room_same b f
  unfold raiseE
  split
  · exact same_refl (by decide) (by decide)
  split
  · exact same_refl (by decide) (by decide)
  split
  · exact same_refl (below_not p r n).1 (below_not p r n).2
  split
  · exact same_refl (by decide) (by decide)
  · exact this

theorem last_no {b : Int} (h : 0 ≤ b ∧ b ≤ 24) (h1 : b ≠ 18) (h2 : b ≠ 19) (w : World) : Calls Tryd.prog 33 #[errV b] w fun e w' => e = .returned (.bool false) ∧ Below w.heap.size w w' := by
  have := last_any b h w
  rw [beqN h1, beqN h2] at this
  exact this

theorem last_yes {a : Int} (h : 0 ≤ a ∧ a ≤ 24) (h1 : a = 18 ∨ a = 19) (w : World) : Calls Tryd.prog 33 #[errV a] w fun e w' => e = .returned (.bool true) ∧ Below w.heap.size w w' := by
  have := last_any a h w
  rw [show (a == 18 || a == 19) = true by rcases h1 with h | h <;> simp [h]] at this
  exact this

set_option maxRecDepth 100000 in
set_option maxHeartbeats 64000000 in
theorem order_yes (p : Sn) (r : Rq) (now births : Int) (full : Bool) (w : World) (hp : p.fit) (hr : r.fit) (hS : Lv.StepsG w) :
    Calls Tryd.prog 16 #[p.v, r.v, .agg #[nu now, nu births, .bool full]] w fun e w' => e = .returned (.bool true) ∧ Below w.heap.size w w' := by
  have cA := hidG fun wx => login_p r now births full wx hr
  have cB := hidG fun wx => login_p r now 0 false wx hr
  have cC := hidG fun wx => child_p p r now births full wx hp hr
  have cD := hidG fun wx => child_p p r now 0 false wx hp hr
  have cE := hidG fun wx (hx : Lv.StepsG wx) => raised_p p r now births full wx hp hr hx
  have cF := hidG fun wx (hx : Lv.StepsG wx) => raised_p p r now 0 false wx hp hr hx
  have sAB := login_same r now births full
  have sCD := child_same p r now births full
  have sEF := raise_same p r now births full
  have rA := login_rng r now births full
  have rB := login_rng r now 0 false
  have rC := child_rng p r now births full
  have rD := child_rng p r now 0 false
  have rE := raise_rng p r now births full
  have rF := raise_rng p r now 0 false
  obtain ⟨A, hA⟩ : ∃ A, loginE r now births full = A := ⟨_, rfl⟩
  obtain ⟨B, hB⟩ : ∃ A, loginE r now 0 false = A := ⟨_, rfl⟩
  obtain ⟨C, hC⟩ : ∃ A, childE p r now births full = A := ⟨_, rfl⟩
  obtain ⟨D, hD⟩ : ∃ A, childE p r now 0 false = A := ⟨_, rfl⟩
  obtain ⟨E, hE⟩ : ∃ A, raiseE p r now births full = A := ⟨_, rfl⟩
  obtain ⟨F, hF⟩ : ∃ A, raiseE p r now 0 false = A := ⟨_, rfl⟩
  rw [hA] at cA sAB rA
  obtain ⟨SA, hSA⟩ : ∃ S, orS A (loginS r now births) = S := ⟨_, rfl⟩
  rw [hSA] at cA
  rw [hB] at cB sAB rB
  obtain ⟨SB, hSB⟩ : ∃ S, orS B (loginS r now 0) = S := ⟨_, rfl⟩
  rw [hSB] at cB
  rw [hC] at cC sCD rC
  obtain ⟨SC, hSC⟩ : ∃ S, orS C (childS p r now births) = S := ⟨_, rfl⟩
  rw [hSC] at cC
  rw [hD] at cD sCD rD
  obtain ⟨SD, hSD⟩ : ∃ S, orS D (childS p r now 0) = S := ⟨_, rfl⟩
  rw [hSD] at cD
  rw [hE] at cE sEF rE
  obtain ⟨SE, hSE⟩ : ∃ S, orS E (raiseS p r now births) = S := ⟨_, rfl⟩
  rw [hSE] at cE
  rw [hF] at cF sEF rF
  obtain ⟨SF, hSF⟩ : ∃ S, orS F (raiseS p r now 0) = S := ⟨_, rfl⟩
  rw [hSF] at cF
  have nA := hidG fun wx => numE A rA wx
  have nB := hidG fun wx => numE B rB wx
  have nC := hidG fun wx => numE C rC wx
  have nD := hidG fun wx => numE D rD wx
  have nE := hidG fun wx => numE E rE wx
  have nF := hidG fun wx => numE F rF wx
  have lB := hidG fun wx => last_no rB sAB.2.1 sAB.2.2 wx
  have lD := hidG fun wx => last_no rD sCD.2.1 sCD.2.2 wx
  have lF := hidG fun wx => last_no rF sEF.2.1 sEF.2.2 wx
  have LA := hidG fun (h : A = 18 ∨ A = 19) wx => last_yes rA h wx
  have JA := hidG sAB.1
  have LC := hidG fun (h : C = 18 ∨ C = 19) wx => last_yes rC h wx
  have JC := hidG sCD.1
  have LE := hidG fun (h : E = 18 ∨ E = 19) wx => last_yes rE h wx
  have JE := hidG sEF.1
  obtain ⟨w0, h0, hAt, hBw⟩ := atC_start w p r now births full
  have H0 : Hid (((w.alloc (.cells #[nu p.slot, nu p.birth, nu p.us, nu p.ub, nu p.kind, .string p.user, .string p.label, su p.scopes, nu p.level, nu p.born, nu p.deadline, nu p.depth] 28)).alloc (.cells #[.string r.user, .string r.label, su r.scopes, nu r.level, nu r.life] 34)).alloc (.cells #[nu now, nu births, .bool full] 43) = w0) := hidG h0
  have X0 : Hid (AtX w p r now births full [] w0) := hidG ⟨hAt, fun _ h => (by cases h), hBw⟩
  have HS := hidG hS
  have x0 := hAt.x0
  have x1 := hAt.x1
  have x2 := hAt.x2
  clear hA hB hC hD hE hF hSA hSB hSC hSD hSE hSF rA rB rC rD rE rF sAB sCD sEF hp hr h0 hAt hBw hS
  show Calls Tryd.prog 16 #[.agg #[nu p.slot, nu p.birth, nu p.us, nu p.ub, nu p.kind, .string p.user, .string p.label, su p.scopes, nu p.level, nu p.born, nu p.deadline, nu p.depth], .agg #[.string r.user, .string r.label, su r.scopes, nu r.level, nu r.life], .agg #[nu now, nu births, .bool full]] w _
  go_enter Tryd.func16, Tryd.ntmps16
  go_wp2_with (first | (rw [H0.out]; refine wpList_load_rq rfl _ rfl (w.heap.size + 1) rfl r X0.out.at'.hr ?_) | fail)
  refine (cA.out _).mono ?_
  rintro e w1 ⟨rfl, hb⟩
  have X1 := hidG (X0.out.below hb)
  have HN1 := hidG (heap_alloc_new w1 (.cells zeroS.arr 28))
  clear hb x0 x1 x2 cA
  go_wp2_with (first | (refine wpList_store_sn rfl _ _ rfl w1.heap.size rfl SA zeroS rfl HN1.out ?_; intro w2 hh hg; have X2 := hidG (X1.out.new hg); have x0 := X2.out.at'.x0; have x1 := X2.out.at'.x1; have x2 := X2.out.at'.x2; clear hh hg) | (refine wpList_load_sn rfl _ rfl w.heap.size rfl p X2.out.at'.hp ?_) | (refine wpList_load_rq rfl _ rfl (w.heap.size + 1) rfl r X2.out.at'.hr ?_) | fail)
  refine (cB.out _).mono ?_
  rintro e w3 ⟨rfl, hb⟩
  have X3 := hidG (X2.out.below hb)
  have HN3 := hidG (heap_alloc_new w3 (.cells zeroS.arr 28))
  clear hb x0 x1 x2 cB
  go_wp2_with (first | (refine wpList_store_sn rfl _ _ rfl w3.heap.size rfl SB zeroS rfl HN3.out ?_; intro w4 hh hg; have X4 := hidG (X3.out.new hg); have x0 := X4.out.at'.x0; have x1 := X4.out.at'.x1; have x2 := X4.out.at'.x2; clear hh hg) | (refine wpList_load_sn rfl _ rfl w.heap.size rfl p X4.out.at'.hp ?_) | (refine wpList_load_rq rfl _ rfl (w.heap.size + 1) rfl r X4.out.at'.hr ?_) | fail)
  refine (cC.out _).mono ?_
  rintro e w5 ⟨rfl, hb⟩
  have X5 := hidG (X4.out.below hb)
  have HN5 := hidG (heap_alloc_new w5 (.cells zeroS.arr 28))
  clear hb x0 x1 x2 cC
  go_wp2_with (first | (refine wpList_store_sn rfl _ _ rfl w5.heap.size rfl SC zeroS rfl HN5.out ?_; intro w6 hh hg; have X6 := hidG (X5.out.new hg); have x0 := X6.out.at'.x0; have x1 := X6.out.at'.x1; have x2 := X6.out.at'.x2; clear hh hg) | (refine wpList_load_sn rfl _ rfl w.heap.size rfl p X6.out.at'.hp ?_) | (refine wpList_load_rq rfl _ rfl (w.heap.size + 1) rfl r X6.out.at'.hr ?_) | fail)
  refine (cD.out _).mono ?_
  rintro e w7 ⟨rfl, hb⟩
  have X7 := hidG (X6.out.below hb)
  have HN7 := hidG (heap_alloc_new w7 (.cells zeroS.arr 28))
  clear hb x0 x1 x2 cD
  go_wp2_with (first | (refine wpList_store_sn rfl _ _ rfl w7.heap.size rfl SD zeroS rfl HN7.out ?_; intro w8 hh hg; have X8 := hidG (X7.out.new hg); have x0 := X8.out.at'.x0; have x1 := X8.out.at'.x1; have x2 := X8.out.at'.x2; clear hh hg) | (refine wpList_load_sn rfl _ rfl w.heap.size rfl p X8.out.at'.hp ?_) | (refine wpList_load_rq rfl _ rfl (w.heap.size + 1) rfl r X8.out.at'.hr ?_) | fail)
  refine (cE.out _ (HS.out.below X8.out.bel)).mono ?_
  rintro e w9 ⟨rfl, hb⟩
  have X9 := hidG (X8.out.below hb)
  have HN9 := hidG (heap_alloc_new w9 (.cells zeroS.arr 28))
  clear hb x0 x1 x2 cE
  go_wp2_with (first | (refine wpList_store_sn rfl _ _ rfl w9.heap.size rfl SE zeroS rfl HN9.out ?_; intro w10 hh hg; have X10 := hidG (X9.out.new hg); have x0 := X10.out.at'.x0; have x1 := X10.out.at'.x1; have x2 := X10.out.at'.x2; clear hh hg) | (refine wpList_load_sn rfl _ rfl w.heap.size rfl p X10.out.at'.hp ?_) | (refine wpList_load_rq rfl _ rfl (w.heap.size + 1) rfl r X10.out.at'.hr ?_) | fail)
  refine (cF.out _ (HS.out.below X10.out.bel)).mono ?_
  rintro e w11 ⟨rfl, hb⟩
  have X11 := hidG (X10.out.below hb)
  have HN11 := hidG (heap_alloc_new w11 (.cells zeroS.arr 28))
  clear hb x0 x1 x2 cF
  go_upto_region 7 with (first | (refine wpList_store_sn rfl _ _ rfl w11.heap.size rfl SF zeroS rfl HN11.out ?_; intro w12 hh hg; have X12 := hidG (X11.out.new hg); clear hh hg) | fail)
  have HBB := hidG X12.out.bel
  clear X12 X11 X0 X1 X2 X3 X4 X5 X6 X7 X8 X9 X10 HN11 HN1 HN3 HN5 HN7 HN9 HS H0
  by_cases eA : A = B
  · have qA := beqY eA
    clear LA JA eA
    go_upto_region 8 with (first | (go_at_call 27; (first | (with_reducible refine (nA.out _).mono ?_) | (with_reducible refine (nB.out _).mono ?_)); rintro e w9 ⟨rfl, hb9⟩; have HBB := hidG (HBB.out.trans (hb9.mono HBB.out.size)); clear hb9) | fail)
    clear nA nB qA
    by_cases eC : C = D
    · have qC := beqY eC
      clear LC JC eC
      go_upto_region 9 with (first | (go_at_call 27; (first | (with_reducible refine (nC.out _).mono ?_) | (with_reducible refine (nD.out _).mono ?_)); rintro e w9 ⟨rfl, hb9⟩; have HBB := hidG (HBB.out.trans (hb9.mono HBB.out.size)); clear hb9) | fail)
      clear nC nD qC
      by_cases eE : E = F
      · have qE := beqY eE
        clear LE JE eE
        go_upto_region 10 with (first | (go_at_call 27; (first | (with_reducible refine (nE.out _).mono ?_) | (with_reducible refine (nF.out _).mono ?_)); rintro e w9 ⟨rfl, hb9⟩; have HBB := hidG (HBB.out.trans (hb9.mono HBB.out.size)); clear hb9) | fail)
        clear nE nF qE
        go_wp2_with (first | (go_at_call 11; refine (works22_any _).mono ?_; rintro e w9 ⟨rfl, hb9⟩; have HBB := hidG (HBB.out.trans (hb9.mono HBB.out.size)); clear hb9) | (go_at_call 33; (first | (with_reducible refine (lB.out _).mono ?_) | (with_reducible refine (lD.out _).mono ?_) | (with_reducible refine (lF.out _).mono ?_)); rintro e w9 ⟨rfl, hb9⟩; have HBB := hidG (HBB.out.trans (hb9.mono HBB.out.size)); clear hb9) | fail)
        go_ret
        exact ⟨rfl, HBB.out⟩
      · have qE := beqN eE
        have zF : F = 0 := by rcases JE.out with h | h <;> omega
        have LY := hidG (LE.out (by rcases JE.out with h | h <;> omega))
        have eF := err_eq F
        rw [beqY zF] at eF
        have gF := fun o x c => err_guard o x c F
        clear LE JE eE zF
        go_upto_region 10 with (first | (go_at_call 27; (first | (with_reducible refine (nE.out _).mono ?_) | (with_reducible refine (nF.out _).mono ?_)); rintro e w9 ⟨rfl, hb9⟩; have HBB := hidG (HBB.out.trans (hb9.mono HBB.out.size)); clear hb9) | (go_at_call 33; with_reducible refine (LY.out _).mono ?_; rintro e w9 ⟨rfl, hb9⟩; have HBB := hidG (HBB.out.trans (hb9.mono HBB.out.size)); clear hb9) | fail)
        clear nE nF qE LY eF gF
        go_wp2_with (first | (go_at_call 11; refine (works22_any _).mono ?_; rintro e w9 ⟨rfl, hb9⟩; have HBB := hidG (HBB.out.trans (hb9.mono HBB.out.size)); clear hb9) | (go_at_call 33; (first | (with_reducible refine (lB.out _).mono ?_) | (with_reducible refine (lD.out _).mono ?_) | (with_reducible refine (lF.out _).mono ?_)); rintro e w9 ⟨rfl, hb9⟩; have HBB := hidG (HBB.out.trans (hb9.mono HBB.out.size)); clear hb9) | fail)
        go_ret
        exact ⟨rfl, HBB.out⟩
    · have qC := beqN eC
      have zD : D = 0 := by rcases JC.out with h | h <;> omega
      have LY := hidG (LC.out (by rcases JC.out with h | h <;> omega))
      have eD := err_eq D
      rw [beqY zD] at eD
      have gD := fun o x c => err_guard o x c D
      clear LC JC eC zD
      go_upto_region 9 with (first | (go_at_call 27; (first | (with_reducible refine (nC.out _).mono ?_) | (with_reducible refine (nD.out _).mono ?_)); rintro e w9 ⟨rfl, hb9⟩; have HBB := hidG (HBB.out.trans (hb9.mono HBB.out.size)); clear hb9) | (go_at_call 33; with_reducible refine (LY.out _).mono ?_; rintro e w9 ⟨rfl, hb9⟩; have HBB := hidG (HBB.out.trans (hb9.mono HBB.out.size)); clear hb9) | fail)
      clear nC nD qC LY eD gD
      by_cases eE : E = F
      · have qE := beqY eE
        clear LE JE eE
        go_upto_region 10 with (first | (go_at_call 27; (first | (with_reducible refine (nE.out _).mono ?_) | (with_reducible refine (nF.out _).mono ?_)); rintro e w9 ⟨rfl, hb9⟩; have HBB := hidG (HBB.out.trans (hb9.mono HBB.out.size)); clear hb9) | fail)
        clear nE nF qE
        go_wp2_with (first | (go_at_call 11; refine (works22_any _).mono ?_; rintro e w9 ⟨rfl, hb9⟩; have HBB := hidG (HBB.out.trans (hb9.mono HBB.out.size)); clear hb9) | (go_at_call 33; (first | (with_reducible refine (lB.out _).mono ?_) | (with_reducible refine (lD.out _).mono ?_) | (with_reducible refine (lF.out _).mono ?_)); rintro e w9 ⟨rfl, hb9⟩; have HBB := hidG (HBB.out.trans (hb9.mono HBB.out.size)); clear hb9) | fail)
        go_ret
        exact ⟨rfl, HBB.out⟩
      · have qE := beqN eE
        have zF : F = 0 := by rcases JE.out with h | h <;> omega
        have LY := hidG (LE.out (by rcases JE.out with h | h <;> omega))
        have eF := err_eq F
        rw [beqY zF] at eF
        have gF := fun o x c => err_guard o x c F
        clear LE JE eE zF
        go_upto_region 10 with (first | (go_at_call 27; (first | (with_reducible refine (nE.out _).mono ?_) | (with_reducible refine (nF.out _).mono ?_)); rintro e w9 ⟨rfl, hb9⟩; have HBB := hidG (HBB.out.trans (hb9.mono HBB.out.size)); clear hb9) | (go_at_call 33; with_reducible refine (LY.out _).mono ?_; rintro e w9 ⟨rfl, hb9⟩; have HBB := hidG (HBB.out.trans (hb9.mono HBB.out.size)); clear hb9) | fail)
        clear nE nF qE LY eF gF
        go_wp2_with (first | (go_at_call 11; refine (works22_any _).mono ?_; rintro e w9 ⟨rfl, hb9⟩; have HBB := hidG (HBB.out.trans (hb9.mono HBB.out.size)); clear hb9) | (go_at_call 33; (first | (with_reducible refine (lB.out _).mono ?_) | (with_reducible refine (lD.out _).mono ?_) | (with_reducible refine (lF.out _).mono ?_)); rintro e w9 ⟨rfl, hb9⟩; have HBB := hidG (HBB.out.trans (hb9.mono HBB.out.size)); clear hb9) | fail)
        go_ret
        exact ⟨rfl, HBB.out⟩
  · have qA := beqN eA
    have zB : B = 0 := by rcases JA.out with h | h <;> omega
    have LY := hidG (LA.out (by rcases JA.out with h | h <;> omega))
    have eB := err_eq B
    rw [beqY zB] at eB
    have gB := fun o x c => err_guard o x c B
    clear LA JA eA zB
    go_upto_region 8 with (first | (go_at_call 27; (first | (with_reducible refine (nA.out _).mono ?_) | (with_reducible refine (nB.out _).mono ?_)); rintro e w9 ⟨rfl, hb9⟩; have HBB := hidG (HBB.out.trans (hb9.mono HBB.out.size)); clear hb9) | (go_at_call 33; with_reducible refine (LY.out _).mono ?_; rintro e w9 ⟨rfl, hb9⟩; have HBB := hidG (HBB.out.trans (hb9.mono HBB.out.size)); clear hb9) | fail)
    clear nA nB qA LY eB gB
    by_cases eC : C = D
    · have qC := beqY eC
      clear LC JC eC
      go_upto_region 9 with (first | (go_at_call 27; (first | (with_reducible refine (nC.out _).mono ?_) | (with_reducible refine (nD.out _).mono ?_)); rintro e w9 ⟨rfl, hb9⟩; have HBB := hidG (HBB.out.trans (hb9.mono HBB.out.size)); clear hb9) | fail)
      clear nC nD qC
      by_cases eE : E = F
      · have qE := beqY eE
        clear LE JE eE
        go_upto_region 10 with (first | (go_at_call 27; (first | (with_reducible refine (nE.out _).mono ?_) | (with_reducible refine (nF.out _).mono ?_)); rintro e w9 ⟨rfl, hb9⟩; have HBB := hidG (HBB.out.trans (hb9.mono HBB.out.size)); clear hb9) | fail)
        clear nE nF qE
        go_wp2_with (first | (go_at_call 11; refine (works22_any _).mono ?_; rintro e w9 ⟨rfl, hb9⟩; have HBB := hidG (HBB.out.trans (hb9.mono HBB.out.size)); clear hb9) | (go_at_call 33; (first | (with_reducible refine (lB.out _).mono ?_) | (with_reducible refine (lD.out _).mono ?_) | (with_reducible refine (lF.out _).mono ?_)); rintro e w9 ⟨rfl, hb9⟩; have HBB := hidG (HBB.out.trans (hb9.mono HBB.out.size)); clear hb9) | fail)
        go_ret
        exact ⟨rfl, HBB.out⟩
      · have qE := beqN eE
        have zF : F = 0 := by rcases JE.out with h | h <;> omega
        have LY := hidG (LE.out (by rcases JE.out with h | h <;> omega))
        have eF := err_eq F
        rw [beqY zF] at eF
        have gF := fun o x c => err_guard o x c F
        clear LE JE eE zF
        go_upto_region 10 with (first | (go_at_call 27; (first | (with_reducible refine (nE.out _).mono ?_) | (with_reducible refine (nF.out _).mono ?_)); rintro e w9 ⟨rfl, hb9⟩; have HBB := hidG (HBB.out.trans (hb9.mono HBB.out.size)); clear hb9) | (go_at_call 33; with_reducible refine (LY.out _).mono ?_; rintro e w9 ⟨rfl, hb9⟩; have HBB := hidG (HBB.out.trans (hb9.mono HBB.out.size)); clear hb9) | fail)
        clear nE nF qE LY eF gF
        go_wp2_with (first | (go_at_call 11; refine (works22_any _).mono ?_; rintro e w9 ⟨rfl, hb9⟩; have HBB := hidG (HBB.out.trans (hb9.mono HBB.out.size)); clear hb9) | (go_at_call 33; (first | (with_reducible refine (lB.out _).mono ?_) | (with_reducible refine (lD.out _).mono ?_) | (with_reducible refine (lF.out _).mono ?_)); rintro e w9 ⟨rfl, hb9⟩; have HBB := hidG (HBB.out.trans (hb9.mono HBB.out.size)); clear hb9) | fail)
        go_ret
        exact ⟨rfl, HBB.out⟩
    · have qC := beqN eC
      have zD : D = 0 := by rcases JC.out with h | h <;> omega
      have LY := hidG (LC.out (by rcases JC.out with h | h <;> omega))
      have eD := err_eq D
      rw [beqY zD] at eD
      have gD := fun o x c => err_guard o x c D
      clear LC JC eC zD
      go_upto_region 9 with (first | (go_at_call 27; (first | (with_reducible refine (nC.out _).mono ?_) | (with_reducible refine (nD.out _).mono ?_)); rintro e w9 ⟨rfl, hb9⟩; have HBB := hidG (HBB.out.trans (hb9.mono HBB.out.size)); clear hb9) | (go_at_call 33; with_reducible refine (LY.out _).mono ?_; rintro e w9 ⟨rfl, hb9⟩; have HBB := hidG (HBB.out.trans (hb9.mono HBB.out.size)); clear hb9) | fail)
      clear nC nD qC LY eD gD
      by_cases eE : E = F
      · have qE := beqY eE
        clear LE JE eE
        go_upto_region 10 with (first | (go_at_call 27; (first | (with_reducible refine (nE.out _).mono ?_) | (with_reducible refine (nF.out _).mono ?_)); rintro e w9 ⟨rfl, hb9⟩; have HBB := hidG (HBB.out.trans (hb9.mono HBB.out.size)); clear hb9) | fail)
        clear nE nF qE
        go_wp2_with (first | (go_at_call 11; refine (works22_any _).mono ?_; rintro e w9 ⟨rfl, hb9⟩; have HBB := hidG (HBB.out.trans (hb9.mono HBB.out.size)); clear hb9) | (go_at_call 33; (first | (with_reducible refine (lB.out _).mono ?_) | (with_reducible refine (lD.out _).mono ?_) | (with_reducible refine (lF.out _).mono ?_)); rintro e w9 ⟨rfl, hb9⟩; have HBB := hidG (HBB.out.trans (hb9.mono HBB.out.size)); clear hb9) | fail)
        go_ret
        exact ⟨rfl, HBB.out⟩
      · have qE := beqN eE
        have zF : F = 0 := by rcases JE.out with h | h <;> omega
        have LY := hidG (LE.out (by rcases JE.out with h | h <;> omega))
        have eF := err_eq F
        rw [beqY zF] at eF
        have gF := fun o x c => err_guard o x c F
        clear LE JE eE zF
        go_upto_region 10 with (first | (go_at_call 27; (first | (with_reducible refine (nE.out _).mono ?_) | (with_reducible refine (nF.out _).mono ?_)); rintro e w9 ⟨rfl, hb9⟩; have HBB := hidG (HBB.out.trans (hb9.mono HBB.out.size)); clear hb9) | (go_at_call 33; with_reducible refine (LY.out _).mono ?_; rintro e w9 ⟨rfl, hb9⟩; have HBB := hidG (HBB.out.trans (hb9.mono HBB.out.size)); clear hb9) | fail)
        clear nE nF qE LY eF gF
        go_wp2_with (first | (go_at_call 11; refine (works22_any _).mono ?_; rintro e w9 ⟨rfl, hb9⟩; have HBB := hidG (HBB.out.trans (hb9.mono HBB.out.size)); clear hb9) | (go_at_call 33; (first | (with_reducible refine (lB.out _).mono ?_) | (with_reducible refine (lD.out _).mono ?_) | (with_reducible refine (lF.out _).mono ?_)); rintro e w9 ⟨rfl, hb9⟩; have HBB := hidG (HBB.out.trans (hb9.mono HBB.out.size)); clear hb9) | fail)
        go_ret
        exact ⟨rfl, HBB.out⟩
end Gr
end Go.Proofs.YtbgggekkkcefcabDoor
