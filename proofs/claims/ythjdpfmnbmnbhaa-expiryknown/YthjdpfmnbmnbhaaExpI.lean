/- The program's expiry: what is due, one after another. -/
import Derived.Test.YthjdpfmnbmnbhaaExpH
import Derived.Test.YthjdpfmnbmnbhaaRoundIn
import Derived.Laws.ResultCell
import Derived.Deep.LoopGhost
namespace Go.Proofs.Ythjdpfmnbmnbhaa
set_option linter.ambiguousOpen false
open Go.RowKit Go.Maps
namespace Ex
open Hh Ft Hq
set_option linter.unusedSimpArgs false
set_option linter.unusedVariables false
attribute [local go_sem] Oper.semAt_some

set_option maxRecDepth 100000 in
set_option maxHeartbeats 4000000 in
theorem take_p (w : World) (p : Nat) (F : Nat → Prop) (x : En) (L : List En) (hr : RepX w p F (x :: L)) :
    Calls Try.prog 19 #[ptr p, nu x.s] w fun e w' => e = .returned (.agg #[nu x.s, nu x.b]) ∧ LeftX RepX w w' p F L := by
  obtain ⟨bm, h, Fh, D, hl, rfl⟩ := id hr
  have hge := hl.ge
  have hat := hl.bd.at_ x (by simp)
  have hok := hge.ok x (by simp)
  have hhd := hge.head
  obtain ⟨xs, xb, xt⟩ := x
  dsimp only at hat hok hhd ⊢
  obtain ⟨rb, hrb⟩ : ∃ rb, w.heap.size = rb := ⟨_, rfl⟩
  obtain ⟨W0, hW0⟩ : ∃ W0, w.alloc (.cells #[nu 0, nu 0] 32) = W0 := ⟨_, rfl⟩
  have hB0 : Below w.heap.size w W0 := by rw [← hW0]; exact (Below.refl _ _).alloc (Nat.le_refl _) _
  have hR0 : W0.heap[rb]? = some (.cells #[nu 0, nu 0] 32) := by rw [← hW0, ← hrb]; exact heap_alloc_new _ _
  have hs0 : W0.heap.size = rb + 1 := by rw [← hW0, ← hrb]; simp
  have h0 := hl.below hB0
  obtain ⟨q0, q1⟩ := h0.cells
  have HM := Hid.mk' h0.map
  have hs : I64e xs := by have := hok.1; show _ ∧ _; dsimp only at this; omega
  have hkey := keyOf_int_mk Try.underlying3 (q := .i64) (a := xs) (WalkArith.wf_i64 (by omega))
  obtain ⟨W1, hW1⟩ : ∃ W1, (W0.alloc (.cells #[nu 0, nu 0] 32)) = W1 := ⟨_, rfl⟩
  have hZ1 : W1.heap[rb + 1]? = some (.cells #[nu 0, nu 0] 32) := by rw [← hW1, ← hs0]; exact heap_alloc_new _ _
  have hs1 : W1.heap.size = rb + 2 := by rw [← hW1]; simp; omega
  have hB1 : Below W0.heap.size W0 W1 := by rw [← hW1]; exact (Below.refl _ _).alloc (Nat.le_refl _) _
  have hR1 : W1.heap[rb]? = some (.cells #[nu 0, nu 0] 32) := (hB1.block rb (by omega)).trans hR0
  have HEND : Hid (∀ w2 : World, w2.heap[rb + 1]? = some (.cells #[nu xs, nu xb] 32) → W1.grownBy w2 (some (rb + 1)) → RepX w2 p (footX p bm Fh) (⟨xs, xb, xt⟩ :: L) ∧ w2.heap[rb]? = some (.cells #[nu 0, nu 0] 32) ∧ Below w.heap.size w w2) := fun w2 h2 hg => by
    have hb2 : Below w.heap.size w w2 := ((hB0.trans (hB1.mono hB0.size)).grown hg (hB0.trans (hB1.mono hB0.size)).size (fun r e => by injection e; omega))
    exact ⟨repX_below hr hb2, (hg.block rb (by omega) (fun e => by injection e; omega)).trans hR1, hb2⟩
  have HW0 := Hid.mk' hW0
  have HRB := Hid.mk' hrb
  have HW1 := Hid.mk' hW1
  have HS0 := Hid.mk' hs0
  have HZ1 := Hid.mk' hZ1
  have HAT := Hid.mk' hat
  have HSI := Hid.mk' hs
  have HHD := Hid.mk' hhd
  have HLT := Hid.mk' hl.lt
  clear hr hl hge hat hok hhd hB0 hW0 hR0 hrb h0 hs0 hW1 hZ1 hs1 hB1 hR1 hs
  go_enter Try.func19, Try.ntmps19
  go_upto_region 1 with fail
  rw [HW0.out, HRB.out]
  go_upto_region 2 with (first | (at_lookup; refine wpList_lookup_own_int _ rfl _ _ 47 rfl 3 3 .i64 keyed_int Try.underlying47 Try.underlying3 (zero_int _) bm 32 D rfl HM.out _ _ rfl hkey ?_; intro c hat2 hwc; obtain rfl : c = xb := (by have := hat2.symm.trans HAT.out; injection this with h1; injection h1); clear hat2 hwc) | (rw [HW1.out, HS0.out]; refine wpList_store_lnk rfl _ _ rfl (rb + 1) rfl _ _ rfl _ _ HZ1.out ?_; intro w2 hl2 hg2; have HL2 := Hid.mk' hl2; have HG2 := Hid.mk' hg2; clear hl2 hg2) | fail)
  obtain ⟨hr2, hz2, hb2⟩ := HEND.out w2 HL2.out HG2.out
  have hlt : ∀ k, footX p bm Fh k → k < rb := fun k hk => by have := HLT.out k hk; have := HRB.out; omega
  have c2 : Hid (Calls Try.prog 11 #[ptr p, nu xs] w2 fun e w' => ∃ bb, e = .returned (.bool bb) ∧ Hid (LeftX RepX w2 w' p (footX p bm Fh) L)) := by
    refine (forgetX_p w2 p _ _ xs hr2 HSI.out).mono ?_
    rintro e w' ⟨rfl, hle⟩
    rw [HHD.out] at hle
    exact ⟨_, rfl, hle⟩
  have HB2 := Hid.mk' hb2
  have HZ2 := Hid.mk' hz2
  have HLTR := Hid.mk' hlt
  have hs2 : rb + 2 ≤ w2.heap.size := by have := (Array.getElem?_eq_some_iff.1 HL2.out).1; omega
  have HS2 := Hid.mk' hs2
  clear hr2 hz2 hb2 hlt hs2 q0 q1 hkey HEND HM HAT HHD HLT HW0 HW1 HS0 HZ1 HG2
  go_wp2_with fail
  refine c2.out.mono ?_
  rintro e w3 ⟨bb, rfl, HLE⟩
  obtain ⟨G, g1, g2, g3⟩ := HLE.out
  have hl3 : w3.heap[rb + 1]? = some (.cells #[nu xs, nu c] 32) := g2.at HL2.out (fun e => by have := HLTR.out _ e; omega)
  have hz3 : w3.heap[rb]? = some (.cells #[nu 0, nu 0] 32) := g2.at HZ2.out (fun e => by have := HLTR.out _ e; omega)
  have HMID := Hid.mk' (link_mid hl3)
  have HZ3 := Hid.mk' hz3
  have HFIN : Hid (∀ w4, w3.grownBy w4 (some rb) → LeftX RepX w w4 p (footX p bm Fh) L) := fun w4 hg => by
    have hs2 := HS2.out
    have hk : Keep (fun j => j = rb) w3 w4 := (Keep.refl (fun j => j = rb) w3).grown hg (fun k e => .inl (by injection e with e; exact e.symm))
    refine ⟨G, repX_keep g1 hk (fun k hk2 e => ?_), ?_, fun k hk2 => ?_⟩
    · rcases g3 k hk2 with h1 | h1
      · have := HLTR.out k h1; omega
      · omega
    · have h1 : Keep (footX p bm Fh) w w3 := (Keep.of_below HB2.out).trans g2 (fun _ _ h => h)
      exact h1.grown hg (fun k e => .inr (by injection e with e; have := HRB.out; omega))
    · rcases g3 k hk2 with h1 | h1
      · exact .inl h1
      · have := HRB.out; exact .inr (by omega)
  clear hl3 hz3 g1 g2 g3 c2 HLE HL2 HZ2 HB2
  go_wp2_with (first | (refine wpList_load_mid rfl 32 _ rfl (rb + 1) 0 rfl [nu xs, nu c] _ HMID.out Try.underlying32 rfl size_lk ?_) | (refine wpList_store_lnk rfl _ _ rfl rb rfl _ _ rfl _ _ HZ3.out ?_; intro w4 hl4 hg4; have HL4 := Hid.mk' hl4; have HG4 := Hid.mk' hg4; clear hl4 hg4) | fail)
  refine bodyPost_ret (results_cell_row rfl _ _ rb _ _ _ _ rfl HL4.out Try.underlying32 rfl size_lk) rfl ?_
  exact ⟨rfl, HFIN.out w4 HG4.out⟩

theorem over_p (w : World) (p : Nat) (now : Int) : Calls Try.prog 18 #[ptr p, nu now] w fun e w' => e = .returned (.func (.func 27) #[] #[.pointer (some ⟨w.heap.size, 0, none⟩), .pointer (some ⟨w.heap.size + 1, 0, none⟩)]) ∧ w' = (w.alloc (.cells #[ptr p] 24)).alloc (.cells #[nu now] 3) := by
  have hmf : ∀ fn first cap w, (Instr.makeFunc fn first cap).run Try.prog w = .ok (.func fn first cap) w := fun _ _ _ _ => rfl
  go_enter Try.func18, Try.ntmps18
  go_wp2
  go_ret
  exact ⟨by simp, rfl⟩

theorem dueMake_p (w : World) (p : Nat) (now : Int) : Calls Try.prog 9 #[ptr p, nu now] w fun e w' => e = .returned (.func (.func 17) #[] #[.pointer (some ⟨w.heap.size, 0, none⟩), .pointer (some ⟨w.heap.size + 1, 0, none⟩)]) ∧ w' = (w.alloc (.cells #[ptr p] 24)).alloc (.cells #[nu now] 3) := by
  have hmf : ∀ fn first cap w, (Instr.makeFunc fn first cap).run Try.prog w = .ok (.func fn first cap) w := fun _ _ _ _ => rfl
  go_enter Try.func9, Try.ntmps9
  go_wp2
  go_ret
  exact ⟨by simp, rfl⟩

end Ex
end Go.Proofs.Ythjdpfmnbmnbhaa
