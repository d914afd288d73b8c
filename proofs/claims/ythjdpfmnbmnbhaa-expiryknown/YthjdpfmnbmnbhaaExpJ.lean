/- The program's expiry: the iterators of what is due; its calls meet what is asked of them. -/
import Derived.Test.YthjdpfmnbmnbhaaExpI
namespace Go.Proofs.Ythjdpfmnbmnbhaa
set_option linter.ambiguousOpen false
open Go.RowKit Go.Maps
namespace Ex
open Hh Ft Hq
set_option linter.unusedSimpArgs false
set_option linter.unusedVariables false
attribute [local go_sem] Oper.semAt_some

def ReadyO (p : Nat) (now : Int) (Be Bn : Nat) (c : Kn) (W : World) : Prop := RepX W p c.1 c.2 ∧ W.cell? ⟨Be, 0, none⟩ = some (ptr p) ∧ W.cell? ⟨Bn, 0, none⟩ = some (nu now)

def StepO (now : Int) (c : Kn) (W0 : World) (o : Option Int) (c' : Kn) (W1 : World) : Prop :=
  c' = c ∧ Below W0.heap.size W0 W1 ∧ match o with
  | some s => ∃ x M, c.2 = x :: M ∧ x.t ≤ now ∧ s = x.s
  | none => ∀ x M, c.2 = x :: M → now < x.t

set_option maxRecDepth 100000 in
set_option maxHeartbeats 4000000 in
theorem over_seq (p Be Bn : Nat) (now : Int) : Rf.SeqM Try.prog 27 #[.pointer (some ⟨Be, 0, none⟩), .pointer (some ⟨Bn, 0, none⟩)] (fun s : Int => #[nu s]) (fun b => b = Be ∨ b = Bn) 0 (ReadyO p now Be Bn) (StepO now) (fun _ _ => False) := by
  intro l I D Ix n c W hready hY hI hD hIx hround hend h0
  have HRD := Hid.mk' hready
  have HRO := Hid.mk' hround
  have HEN := Hid.mk' hend
  have H0 := Hid.mk' h0
  clear hready hY hI hD hIx hround hend h0
  refine callsIn_of_wp Try.func27 rfl trivial ?_ rfl
  refine wpIn_wide.2 ?_
  simp only [Try.ntmps27, List.size_toArray, List.length_cons, List.length_nil, Nat.reduceAdd, Nat.reduceSub, Array.replicate_succ, Array.replicate_zero, List.push_toArray, List.append_toArray, List.nil_append, List.cons_append]
  go_wp2_with fail
  go_loopg [4] n (fun k _ wr => ∃ c1, Hid (I c1 k wr) ∧ Hid (W.heap.size + 0 ≤ wr.heap.size))
  case atStart => exact ⟨c, H0, Nat.le_refl _⟩
  case round =>
    obtain ⟨c1, HI1, HSZ⟩ := hrel
    clear H0
    obtain ⟨hr, q0, q1⟩ := HRD.out c1 gk wr HI1.out
    obtain ⟨F1, L1⟩ := c1
    dsimp only at hr
    obtain ⟨bm, h, Fh, D', hl, _⟩ := id hr
    have cL := leastq_p wr h Fh 32 (its L1) hl.heap hl.ge.hk
    rw [nextE_its, snextE_its] at cL
    have p1 := hl.cells.2
    cases L1 with
    | nil =>
      have cL2 : Hid (Calls Try.prog 20 #[ptr h] wr fun e w' => ∃ s0 t0, e = .returned (.tuple #[nu s0, nu t0, .bool false]) ∧ Hid (D w')) := by
        refine cL.mono ?_
        rintro e w' ⟨rfl, hb⟩
        exact ⟨_, _, rfl, HEN.out (F1, []) gk (F1, []) wr w' HSZ.out HI1.out ⟨rfl, hb, fun x M e => by cases e⟩⟩
      clear hr hl cL
      go_wp2_with (first | (go_at_call 20; refine cL2.out.mono ?_; rintro e w1 ⟨s0, t0, rfl, HD1⟩) | fail)
      refine bodyPost_ret (results_none rfl _ _ _) rfl ?_
      exact ⟨⟨_, rfl⟩, .inl HD1.out⟩
    | cons x M =>
      obtain ⟨xs, xb, xt⟩ := x
      by_cases ht : xt ≤ now
      · have d1 : decide (xt > now) = false := decide_eq_false (by omega)
        have cL2 : Hid (Calls Try.prog 20 #[ptr h] wr fun e w' => e = .returned (.tuple #[nu xs, nu xt, .bool true]) ∧ w'.cell? ⟨Bn, 0, none⟩ = some (nu now) ∧ Hid (Below wr.heap.size wr w')) := by
          refine cL.mono ?_
          rintro e w' ⟨rfl, hb⟩
          exact ⟨rfl, (hb.cell (p := ⟨Bn, 0, none⟩) (cell_lt q1)).trans q1, hb⟩
        have HT := Hid.mk' ht
        clear hr hl cL ht
        go_upto_region 1 with (first | (go_at_call 20; refine cL2.out.mono ?_; rintro e w1 ⟨rfl, q2, HB1⟩) | fail)
        obtain ⟨fn, tmps, assign, body, hy, hR⟩ := HRO.out (F1, ⟨xs, xb, xt⟩ :: M) gk xs (F1, ⟨xs, xb, xt⟩ :: M) wr w1 HSZ.out HI1.out ⟨rfl, HB1.out, ⟨xs, xb, xt⟩, M, rfl, HT.out, rfl⟩
        have HS1 : Hid (W.heap.size + 0 ≤ w1.heap.size) := Nat.le_trans HSZ.out HB1.out.size
        clear q0 q1 p1 cL2
        refine (wpIn_wide (n := 8)).1 ?_
        gi_wp2_with fail
        refine hR.mono ?_
        rintro e W3 ⟨hlt, (⟨rfl, c2, j, hj, hI3⟩ | ⟨rfl, hIx3⟩)⟩
        · have HI3 := Hid.mk' hI3
          have HJ := Hid.mk' hj
          have HS3 : Hid (W.heap.size + 0 ≤ W3.heap.size) := Nat.le_trans HS1.out hlt.size
          clear hI3 hj hlt hy hR
          gi_wp2_with fail
          go_wp2
          go_roundg j
          case measure => exact HJ.out
          case rel => exact ⟨c2, HI3, HS3⟩
        · have HX3 := Hid.mk' hIx3
          clear hIx3 hlt hy hR
          gi_wp2_with fail
          go_wp2
          refine bodyPost_ret (results_none rfl _ _ _) rfl ?_
          exact ⟨⟨_, rfl⟩, .inr HX3.out⟩
      · have d1 : decide (xt > now) = true := decide_eq_true (by omega)
        have cL2 : Hid (Calls Try.prog 20 #[ptr h] wr fun e w' => e = .returned (.tuple #[nu xs, nu xt, .bool true]) ∧ w'.cell? ⟨Bn, 0, none⟩ = some (nu now) ∧ Hid (D w')) := by
          refine cL.mono ?_
          rintro e w' ⟨rfl, hb⟩
          refine ⟨rfl, (hb.cell (p := ⟨Bn, 0, none⟩) (cell_lt q1)).trans q1, HEN.out (F1, ⟨xs, xb, xt⟩ :: M) gk (F1, ⟨xs, xb, xt⟩ :: M) wr w' HSZ.out HI1.out ⟨rfl, hb, fun x M' e => ?_⟩⟩
          injection e with e1 e2
          rw [← e1]
          show now < xt
          omega
        clear hr hl cL ht
        go_wp2_with (first | (go_at_call 20; refine cL2.out.mono ?_; rintro e w1 ⟨rfl, q2, HD1⟩) | fail)
        refine bodyPost_ret (results_none rfl _ _ _) rfl ?_
        exact ⟨⟨_, rfl⟩, .inl HD1.out⟩
end Ex
end Go.Proofs.Ythjdpfmnbmnbhaa
