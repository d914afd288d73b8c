/- Layer 22: the law of what is no wider. -/
import Derived.Test.YtbgggekkkcefcaaDoorGrZc
namespace Go.Proofs.YtbgggekkkcefcaaDoor
set_option linter.ambiguousOpen false
open Go.RowKit
namespace Gr
set_option linter.unusedVariables false
set_option linter.unusedSimpArgs false

theorem in_self (a : Nat) (h : a < 18446744073709551616) : inB a a = true := by
  have e : Bt.less a a = 0 := by
    unfold Bt.less
    apply Nat.eq_of_testBit_eq
    intro i
    have h64 : (18446744073709551615 - a) = 2 ^ 64 - (a + 1) := by omega
    rw [Nat.testBit_and, h64, Nat.testBit_two_pow_sub_succ (by omega)]
    cases a.testBit i <;> simp
  unfold inB
  rw [e]
  rfl

theorem until_facts {n l m : Int} (h : Ck.untilB n l m = true) : Ck.untilI n l m ≤ m ∧ n < Ck.untilI n l m ∧ Ck.untilI n l m - n ≤ l ∧ 0 ≤ n ∧ Ck.untilI n l m ≤ 1099511627776 := by
  have := Ck.untilB_iff.1 h
  unfold Ck.untilI
  omega

theorem child_in {p : Sn} {r : Rq} {now births : Int} {full : Bool} (h : childE p r now births full = 0) : inB r.scopes p.scopes = true := by
  unfold childE at h
  by_cases h1 : belowE p r now = 0
  · cases h2 : inB r.scopes p.scopes
    · simp [h1, h2] at h
    · rfl
  · simp [h1] at h

theorem raise_up {p : Sn} {r : Rq} {now births : Int} {full : Bool} (h : raiseE p r now births full = 0) : r.life ≤ 300 ∧ ¬ r.level ≤ p.level := by
  unfold raiseE at h
  by_cases h8 : belowE p r now = 8
  · simp [h8] at h
  by_cases h0 : r.life < 1 ∨ 300 < r.life
  · simp [h8, h0] at h
  by_cases h1 : belowE p r now = 0
  · by_cases h2 : lvlB p.level = false ∨ lvlB r.level = false ∨ r.level ≤ p.level
    · simp [h1, h0, h2] at h
    · exact ⟨by omega, fun hl => h2 (.inr (.inr hl))⟩
  · simp [h8, h0, h1] at h

/-- What the law holds behind its calls. -/
structure AtN (w0 : World) (p : Sn) (r : Rq) (now births : Int) (full : Bool) (g1 g2 : Nat) (S1 S2 : Sn) (w : World) : Prop where
  x : AtX w0 p r now births full [] w
  h1 : w.heap[g1]? = some (.cells S1.arr 31)
  h2 : w.heap[g2]? = some (.cells S2.arr 31)

theorem AtN.below {w0 : World} {p : Sn} {r : Rq} {now births : Int} {full : Bool} {g1 g2 : Nat} {S1 S2 : Sn} {w w' : World} (h : AtN w0 p r now births full g1 g2 S1 S2 w) (hb : Below w.heap.size w w') : AtN w0 p r now births full g1 g2 S1 S2 w' :=
  ⟨h.x.below hb, (hb.block _ (Array.getElem?_eq_some_iff.1 h.h1).1).trans h.h1, (hb.block _ (Array.getElem?_eq_some_iff.1 h.h2).1).trans h.h2⟩

/-- What the law asks of one that was born below. -/
structure Nar (p : Sn) (r : Rq) (now births : Int) (full : Bool) (S : Sn) : Prop where
  c : ∀ w, Calls Tryd.prog 17 #[S.v, p.v, r.v, .agg #[nu now, nu births, .bool full]] w fun e w' => e = .returned (.bool true) ∧ Below w.heap.size w w'

theorem child_nar {p : Sn} {r : Rq} {now births : Int} {full : Bool} (hp : p.fit) (hr : r.fit) (h : childE p r now births full = 0) : Nar p r now births full (childS p r now births) := by
  obtain ⟨a1, a2, a3, a4, a5⟩ := child_ok h
  obtain ⟨u1, u2, u3, u4, u5⟩ := until_facts a1
  exact ⟨fun w => lbelow_yes p r now births full _ 1 p.level r.scopes r.label w hr.2.2.1 hp.2.2.1 (child_in h) u1 u2 u3 u4 u5 a2 a3 a4 a5⟩

theorem raise_nar {p : Sn} {r : Rq} {now births : Int} {full : Bool} (hp : p.fit) (hr : r.fit) (h : raiseE p r now births full = 0) : Nar p r now births full (raiseS p r now births) := by
  obtain ⟨a1, a2, a3, a4, a5⟩ := raise_ok h
  obtain ⟨u1, u2, u3, u4, u5⟩ := until_facts a1
  exact ⟨fun w => lbelow_yes p r now births full _ 2 r.level p.scopes r.label w hp.2.2.1 hp.2.2.1 (in_self _ hp.2.2.1) u1 u2 u3 u4 u5 a2 a3 a4 a5⟩

set_option maxRecDepth 100000 in
set_option maxHeartbeats 64000000 in
theorem narrower_yes (p : Sn) (r : Rq) (now births : Int) (full : Bool) (w : World) (hp : p.fit) (hr : r.fit) (hS : Lv.StepsG w) :
    Calls Tryd.prog 6 #[p.v, r.v, .agg #[nu now, nu births, .bool full]] w fun e w' => e = .returned (.bool true) ∧ Below w.heap.size w w' := by
  have cA := hidG fun wx => child_p p r now births full wx hp hr
  have cF := hidG fun wx (hx : Lv.StepsG wx) => raised_p p r now births full wx hp hr hx
  have fA := fun h : childE p r now births full = 0 => child_nar hp hr h
  have fF := fun h : raiseE p r now births full = 0 => raise_nar hp hr h
  have uF := fun h : raiseE p r now births full = 0 => And.intro (raise_up h) (until_facts (raise_ok h).1)
  obtain ⟨A, hA⟩ : ∃ A, childE p r now births full = A := ⟨_, rfl⟩
  obtain ⟨F, hF⟩ : ∃ A, raiseE p r now births full = A := ⟨_, rfl⟩
  rw [hA] at cA fA
  rw [hF] at cF fF uF
  obtain ⟨S1, hS1⟩ : ∃ S, orS A (childS p r now births) = S := ⟨_, rfl⟩
  obtain ⟨S2, hS2⟩ : ∃ S, orS F (raiseS p r now births) = S := ⟨_, rfl⟩
  rw [hS1] at cA
  rw [hS2] at cF
  have FA := hidG fA
  have FF := hidG fF
  have UF := hidG uF
  have HS1 := hidG hS1
  have HS2 := hidG hS2
  obtain ⟨w0, h0, hAt, hBw⟩ := atC_start w p r now births full
  have H0 : Hid (((w.alloc (.cells #[nu p.slot, nu p.birth, nu p.us, nu p.ub, nu p.kind, .string p.user, .string p.label, su p.scopes, nu p.level, nu p.born, nu p.deadline, nu p.depth] 31)).alloc (.cells #[.string r.user, .string r.label, su r.scopes, nu r.level, nu r.life] 25)).alloc (.cells #[nu now, nu births, .bool full] 27) = w0) := hidG h0
  have X0 : Hid (AtX w p r now births full [] w0) := hidG ⟨hAt, fun _ h => (by cases h), hBw⟩
  have HS := hidG hS
  have x0 := hAt.x0
  have x1 := hAt.x1
  have x2 := hAt.x2
  clear hA hF fA fF uF hS1 hS2 hp hr h0 hAt hBw hS
  show Calls Tryd.prog 6 #[.agg #[nu p.slot, nu p.birth, nu p.us, nu p.ub, nu p.kind, .string p.user, .string p.label, su p.scopes, nu p.level, nu p.born, nu p.deadline, nu p.depth], .agg #[.string r.user, .string r.label, su r.scopes, nu r.level, nu r.life], .agg #[nu now, nu births, .bool full]] w _
  go_enter Tryd.func6, Tryd.ntmps6
  go_wp2_with (first | (rw [H0.out]; refine wpList_load_sn rfl _ rfl w.heap.size rfl p X0.out.at'.hp ?_) | (refine wpList_load_rq rfl _ rfl (w.heap.size + 1) rfl r X0.out.at'.hr ?_) | fail)
  refine (cA.out _).mono ?_
  rintro e w1 ⟨rfl, hb⟩
  have X1 := hidG (X0.out.below hb)
  have HN1 := hidG (heap_alloc_new w1 (.cells zeroS.arr 31))
  clear hb x0 x1 x2 cA
  go_wp2_with (first | (refine wpList_store_sn rfl _ _ rfl w1.heap.size rfl S1 zeroS rfl HN1.out ?_; intro w2 hh hg; have X2 := hidG (X1.out.new hg); have HG2 := hidG hh; have x0 := X2.out.at'.x0; have x1 := X2.out.at'.x1; have x2 := X2.out.at'.x2; clear hh hg) | (refine wpList_load_sn rfl _ rfl w.heap.size rfl p X2.out.at'.hp ?_) | (refine wpList_load_rq rfl _ rfl (w.heap.size + 1) rfl r X2.out.at'.hr ?_) | fail)
  refine (cF.out _ (HS.out.below X2.out.bel)).mono ?_
  rintro e w3 ⟨rfl, hb⟩
  have X3 := hidG (X2.out.below hb)
  have HG3 := hidG ((hb.block _ (Array.getElem?_eq_some_iff.1 HG2.out).1).trans HG2.out)
  have HN3 := hidG (heap_alloc_new w3 (.cells zeroS.arr 31))
  clear hb x0 x1 x2 cF HG2 X2 HN1
  go_upto_region 3 with (first | (refine wpList_store_sn rfl _ _ rfl w3.heap.size rfl S2 zeroS rfl HN3.out ?_; intro w4 hh hg; have XN := hidG (AtN.mk (X3.out.new hg) (new_far HG3.out hg) hh); clear hh hg) | fail)
  go_wp2_with fail
  refine (works22_any _).mono ?_
  rintro e w5 ⟨rfl, hb⟩
  have XN5 := hidG (XN.out.below hb)
  obtain ⟨g1, hg1⟩ : ∃ g, w1.heap.size = g := ⟨_, rfl⟩
  obtain ⟨g2, hg2⟩ : ∃ g, w3.heap.size = g := ⟨_, rfl⟩
  rw [hg1, hg2] at XN5 ⊢
  have x0 := XN5.out.x.at'.x0
  have x1 := XN5.out.x.at'.x1
  have x2 := XN5.out.x.at'.x2
  have nA := err_eq A
  have nF := err_eq F
  have gA := fun o x c => err_guard o x c A
  have gF := fun o x c => err_guard o x c F
  have hz0 : zeroS.v = .agg #[.int .i64 0, .int .i64 0, .int .i64 0, .int .i64 0, .int .i64 0, .string ⟨#[]⟩, .string ⟨#[]⟩, .int .u64 0, .int .i64 0, .int .i64 0, .int .i64 0, .int .i64 0] := rfl
  have z1 := ses_sameV zeroS
  have z2 := fun x y => ses_guard .eql x y zeroS zeroS
  rw [hz0] at z1 z2
  have HZ := hidG hz0
  clear hb XN X3 HG3 HN3 hg1 hg2 X0 X1 H0 HS hz0
  -- region 5: the delegation
  by_cases hA0 : A = 0
  · rw [beqY hA0] at nA
    have HC := hidG (FA.out hA0).c
    have hS1e : S1 = childS p r now births := by rw [← HS1.out, orS, if_pos hA0]
    rw [← hS1e] at HC
    have HE1 := hidG hS1e
    clear hA0 hS1e
    go_upto_region 7 with (first | (refine wpList_load_whenS (by rfl) _ rfl g1 rfl S1 XN5.out.h1 ?_) | (refine wpList_load_whenS (by rfl) _ rfl w.heap.size rfl p XN5.out.x.at'.hp ?_) | (refine wpList_load_whenR (by rfl) _ rfl (w.heap.size + 1) rfl r XN5.out.x.at'.hr ?_) | (go_at_call 17; refine (HC.out _).mono ?_; rintro e w7 ⟨rfl, hb⟩; have XN7 := hidG (XN5.out.below hb); have hh1 := XN7.out.h1; rw [HE1.out] at hh1; have c8 : w7.cell? ⟨g1, 8, none⟩ = some (nu p.level) := by { rw [cell_of_row w7 _ 8 _ _ _ hh1]; rfl }; have c7 : w7.cell? ⟨g1, 7, none⟩ = some (su r.scopes) := by { rw [cell_of_row w7 _ 7 _ _ _ hh1]; rfl }; have c4 : w7.cell? ⟨g1, 4, none⟩ = some (nu 1) := by { rw [cell_of_row w7 _ 4 _ _ _ hh1]; rfl }; have p8 : w7.cell? ⟨w.heap.size, 8, none⟩ = some (nu p.level) := by { rw [cell_of_row w7 _ 8 _ _ _ XN7.out.x.at'.hp]; rfl }; have q2 : w7.cell? ⟨w.heap.size + 1, 2, none⟩ = some (su r.scopes) := by { rw [cell_of_row w7 _ 2 _ _ _ XN7.out.x.at'.hr]; rfl }; have x0 := XN7.out.x.at'.x0; have x1 := XN7.out.x.at'.x1; have x2 := XN7.out.x.at'.x2; clear hb hh1) | fail)
    clear c8 c7 c4 p8 q2
    by_cases hF0 : F = 0
    · rw [beqY hF0] at nF
      have HR := hidG (FF.out hF0).c
      obtain ⟨⟨ul, uh⟩, v1, v2, v3, v4, v5⟩ := UF.out hF0
      have hS2e : S2 = raiseS p r now births := by rw [← HS2.out, orS, if_pos hF0]
      rw [← hS2e] at HR
      have HE2 := hidG hS2e
      obtain ⟨D, hD⟩ : ∃ D, Ck.untilI now r.life p.deadline = D := ⟨_, rfl⟩
      rw [hD] at v1 v2 v3 v5
      have HD := hidG hD
      have t1 : wrap64 (D - now) = D - now := by unfold wrap64; omega
      have t2 : ¬ 300 < D - now := by omega
      clear hF0 hS2e hD v1 v2 v3 v4 v5 ul
      go_upto_region 9 with (first | (refine wpList_load_whenS (by rfl) _ rfl g2 rfl S2 XN7.out.h2 ?_) | (refine wpList_load_whenS (by rfl) _ rfl w.heap.size rfl p XN7.out.x.at'.hp ?_) | (refine wpList_load_whenR (by rfl) _ rfl (w.heap.size + 1) rfl r XN7.out.x.at'.hr ?_) | (go_at_call 17; refine (HR.out _).mono ?_; rintro e w9 ⟨rfl, hb⟩; have XN9 := hidG (XN7.out.below hb); have hh2 := XN9.out.h2; rw [HE2.out] at hh2; have c8 : w9.cell? ⟨g2, 8, none⟩ = some (nu r.level) := by { rw [cell_of_row w9 _ 8 _ _ _ hh2]; rfl }; have c7 : w9.cell? ⟨g2, 7, none⟩ = some (su p.scopes) := by { rw [cell_of_row w9 _ 7 _ _ _ hh2]; rfl }; have c4 : w9.cell? ⟨g2, 4, none⟩ = some (nu 2) := by { rw [cell_of_row w9 _ 4 _ _ _ hh2]; rfl }; have c10 : w9.cell? ⟨g2, 10, none⟩ = some (nu D) := by { rw [cell_of_row w9 _ 10 _ _ _ hh2, ← HD.out]; rfl }; have p8 : w9.cell? ⟨w.heap.size, 8, none⟩ = some (nu p.level) := by { rw [cell_of_row w9 _ 8 _ _ _ XN9.out.x.at'.hp]; rfl }; have p7 : w9.cell? ⟨w.heap.size, 7, none⟩ = some (su p.scopes) := by { rw [cell_of_row w9 _ 7 _ _ _ XN9.out.x.at'.hp]; rfl }; have x0 := XN9.out.x.at'.x0; clear hb hh2) | fail)
      go_wp2_with (first | fail)
      go_ret
      exact ⟨rfl, XN9.out.x.bel⟩
    · rw [beqN hF0] at nF
      have HV2 : Hid (S2.v = .agg #[.int .i64 0, .int .i64 0, .int .i64 0, .int .i64 0, .int .i64 0, .string ⟨#[]⟩, .string ⟨#[]⟩, .int .u64 0, .int .i64 0, .int .i64 0, .int .i64 0, .int .i64 0]) := hidG (by rw [← HS2.out, orS, if_neg hF0]; rfl)
      clear hF0
      go_upto_region 9 with fail
      go_wp2_with (first | (refine wpList_load_whenS (by rfl) _ rfl g2 rfl S2 XN7.out.h2 ?_; rw [HV2.out]) | fail)
      go_ret
      exact ⟨rfl, XN7.out.x.bel⟩
  · rw [beqN hA0] at nA
    have HV1 : Hid (S1.v = .agg #[.int .i64 0, .int .i64 0, .int .i64 0, .int .i64 0, .int .i64 0, .string ⟨#[]⟩, .string ⟨#[]⟩, .int .u64 0, .int .i64 0, .int .i64 0, .int .i64 0, .int .i64 0]) := hidG (by rw [← HS1.out, orS, if_neg hA0]; rfl)
    clear hA0
    go_upto_region 7 with fail
    by_cases hF0 : F = 0
    · rw [beqY hF0] at nF
      have HR := hidG (FF.out hF0).c
      obtain ⟨⟨ul, uh⟩, v1, v2, v3, v4, v5⟩ := UF.out hF0
      have hS2e : S2 = raiseS p r now births := by rw [← HS2.out, orS, if_pos hF0]
      rw [← hS2e] at HR
      have HE2 := hidG hS2e
      obtain ⟨D, hD⟩ : ∃ D, Ck.untilI now r.life p.deadline = D := ⟨_, rfl⟩
      rw [hD] at v1 v2 v3 v5
      have HD := hidG hD
      have t1 : wrap64 (D - now) = D - now := by unfold wrap64; omega
      have t2 : ¬ 300 < D - now := by omega
      clear hF0 hS2e hD v1 v2 v3 v4 v5 ul
      go_upto_region 9 with (first | (refine wpList_load_whenS (by rfl) _ rfl g2 rfl S2 XN5.out.h2 ?_) | (refine wpList_load_whenS (by rfl) _ rfl w.heap.size rfl p XN5.out.x.at'.hp ?_) | (refine wpList_load_whenR (by rfl) _ rfl (w.heap.size + 1) rfl r XN5.out.x.at'.hr ?_) | (go_at_call 17; refine (HR.out _).mono ?_; rintro e w9 ⟨rfl, hb⟩; have XN9 := hidG (XN5.out.below hb); have hh2 := XN9.out.h2; rw [HE2.out] at hh2; have c8 : w9.cell? ⟨g2, 8, none⟩ = some (nu r.level) := by { rw [cell_of_row w9 _ 8 _ _ _ hh2]; rfl }; have c7 : w9.cell? ⟨g2, 7, none⟩ = some (su p.scopes) := by { rw [cell_of_row w9 _ 7 _ _ _ hh2]; rfl }; have c4 : w9.cell? ⟨g2, 4, none⟩ = some (nu 2) := by { rw [cell_of_row w9 _ 4 _ _ _ hh2]; rfl }; have c10 : w9.cell? ⟨g2, 10, none⟩ = some (nu D) := by { rw [cell_of_row w9 _ 10 _ _ _ hh2, ← HD.out]; rfl }; have p8 : w9.cell? ⟨w.heap.size, 8, none⟩ = some (nu p.level) := by { rw [cell_of_row w9 _ 8 _ _ _ XN9.out.x.at'.hp]; rfl }; have p7 : w9.cell? ⟨w.heap.size, 7, none⟩ = some (su p.scopes) := by { rw [cell_of_row w9 _ 7 _ _ _ XN9.out.x.at'.hp]; rfl }; have x0 := XN9.out.x.at'.x0; clear hb hh2) | fail)
      go_wp2_with (first | (refine wpList_load_whenS (by rfl) _ rfl g1 rfl S1 XN9.out.h1 ?_; rw [HV1.out]) | fail)
      go_ret
      exact ⟨rfl, XN9.out.x.bel⟩
    · rw [beqN hF0] at nF
      have HV2 : Hid (S2.v = .agg #[.int .i64 0, .int .i64 0, .int .i64 0, .int .i64 0, .int .i64 0, .string ⟨#[]⟩, .string ⟨#[]⟩, .int .u64 0, .int .i64 0, .int .i64 0, .int .i64 0, .int .i64 0]) := hidG (by rw [← HS2.out, orS, if_neg hF0]; rfl)
      clear hF0
      go_upto_region 9 with fail
      go_wp2_with (first | (refine wpList_load_whenS (by rfl) _ rfl g1 rfl S1 XN5.out.h1 ?_; rw [HV1.out]) | (refine wpList_load_whenS (by rfl) _ rfl g2 rfl S2 XN5.out.h2 ?_; rw [HV2.out]) | fail)
      go_ret
      exact ⟨rfl, XN5.out.x.bel⟩
end Gr
end Go.Proofs.YtbgggekkkcefcaaDoor
