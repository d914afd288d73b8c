/- One act, on the program's expiry and as the document has it. -/
import Derived.Test.YthjdpfmnbmnbhaaDoorExpF
namespace Go.Proofs.YthjdpfmnbmnbhaaDoor
set_option linter.ambiguousOpen false
open Go.RowKit
namespace Ex
open Hh Ft
set_option linter.unusedSimpArgs false
set_option linter.unusedVariables false
attribute [local go_sem] Oper.semAt_some

theorem ret_nuE {a b : Int} (h : a = b) : Ending.returned (nu a) = Ending.returned (nu b) := by rw [h]

theorem pickE (k : Int) (n : Nat) (w : World) (hn : 0 < n) (hn2 : n ≤ 4611686018427387904) (hk : -9223372036854775808 ≤ k ∧ k ≤ 9223372036854775807) :
    Calls Tryd.prog 8 #[nu k, nu n] w fun e w' => e = .returned (nu (k % (n : Int))) ∧ w' = w := by
  have d1 : (decide ((n : Int) < 1)) = false := by simp; omega
  have e1 := Int.emod_add_mul_ediv k n
  have e2 := Int.emod_nonneg k (b := (n : Int)) (by omega)
  have e3 := Int.emod_lt_of_pos k (b := (n : Int)) (by omega)
  have te : k.tmod n = k % (n : Int) ∨ k.tmod n = k % (n : Int) - n := by
    rw [Int.tmod_eq_emod]
    split
    · left; omega
    · right; simp
  clear e1
  by_cases h : k.tmod n < 0
  · have HT : Hid (k.tmod n + n = k % (n : Int)) := by
      show _ = _
      omega
    have b1 : -(n : Int) ≤ k.tmod n := by omega
    clear te e2 e3
    go_enter Tryd.func8, Tryd.ntmps8
    go_wp2
    go_ret
    exact ⟨ret_nuE HT.out, rfl⟩
  · have HT : Hid (k.tmod n = k % (n : Int)) := by
      show _ = _
      omega
    clear te e2 e3
    go_enter Tryd.func8, Tryd.ntmps8
    go_wp2
    go_ret
    exact ⟨ret_nuE HT.out, rfl⟩

/-- One thing that is done. -/
structure Xact where
  k : Int
  a : Int
  n : Int
  s : Int
  b : Int

def Xact.fits (x : Xact) : Prop := I64e x.k ∧ I64e x.n ∧ I64e x.s

@[reducible] def Xact.cells (x : Xact) : List Value := [nu x.k, nu x.a, nu x.n, nu x.s, nu x.b]

theorem size_xact : (Tryd.prog.info? 33).map (·.size) = some 5 := by kernel_rfl

/-- An act that lies alone. -/
def LoneA (w : World) (b : Nat) (x : Xact) : Prop := w.heap[b]? = some (.cells #[nu x.k, nu x.a, nu x.n, nu x.s, nu x.b] 33)

theorem LoneA.cells {w : World} {b : Nat} {x : Xact} (h : LoneA w b x) : w.cell? ⟨b, 0, none⟩ = some (nu x.k) ∧ w.cell? ⟨b, 1, none⟩ = some (nu x.a) ∧ w.cell? ⟨b, 2, none⟩ = some (nu x.n) ∧ w.cell? ⟨b, 3, none⟩ = some (nu x.s) ∧ w.cell? ⟨b, 4, none⟩ = some (nu x.b) :=
  ⟨by rw [cell_of_row w b 0 _ _ _ h]; rfl, by rw [cell_of_row w b 1 _ _ _ h]; rfl, by rw [cell_of_row w b 2 _ _ _ h]; rfl, by rw [cell_of_row w b 3 _ _ _ h]; rfl, by rw [cell_of_row w b 4 _ _ _ h]; rfl⟩

theorem LoneA.range {w : World} {b : Nat} {x : Xact} (h : LoneA w b x) : w.rangeAt b 0 [nu x.k, nu x.a, nu x.n, nu x.s, nu x.b] := fun j v hv => by
  rw [cell_of_row w b _ _ _ _ h, Nat.zero_add, ← hv, List.getElem?_toArray]

set_option maxRecDepth 1000000 in
set_option maxHeartbeats 16000000 in
theorem does_any {R : RepXT} (C : ExpiryC R) (base : Nat) (w0 w : World) (p t : Nat) (F G : Nat → Prop) (L : List En) (x : Xact) (h : Bd R base w0 w w p t F G F G L L) (hx : x.fits) (hE : Er.Handle w0) :
    Calls Tryd.prog 5 #[ptr p, ptr t, .agg #[nu x.k, nu x.a, nu x.n, nu x.s, nu x.b]] w fun e w' => e = .returned (.bool true) ∧ ∃ F' G' L', Bd R base w0 w w' p t F G F' G' L' L' := by
  obtain ⟨xb, hxb⟩ : ∃ xb, w.heap.size = xb := ⟨_, rfl⟩
  obtain ⟨W, hW⟩ : ∃ W, w.alloc (.cells #[nu x.k, nu x.a, nu x.n, nu x.s, nu x.b] 33) = W := ⟨_, rfl⟩
  have hBW : Below w.heap.size w W := by rw [← hW]; exact (Below.refl _ _).alloc (Nat.le_refl _) _
  have hLW : LoneA W xb x := by rw [← hW, ← hxb]; exact heap_alloc_new _ _
  have hbW := h.below C hBW
  have hFx : ¬ F xb := fun e => by have := C.lt h.xe.rep _ e; omega
  have hGx : ¬ G xb := fun e => by have := (h.ref.lt _ e).2; omega
  -- the block stays, the pair goes on
  have HKP : Hid (∀ wx F' G' L1 L2, Bd R base w0 W wx p t F G F' G' L1 L2 → LoneA wx xb x ∧ Bd R base w0 w wx p t F G F' G' L1 L2) := fun wx F' G' L1 L2 hb =>
    ⟨hb.kp.at hLW (fun e => e.elim hFx hGx), hbW.trans hb⟩
  have HST := Hid.mk' hbW.start
  have HSTD : Hid (Bd R base w0 W W.drew p t F G F G L L) := hbW.start.keep C (Keep.refl (fun _ => False) W).drew (fun _ e => e.elim)
  have cK : Hid (∀ wx, Calls Tryd.prog 8 #[nu x.k, nu 6] wx fun e w' => e = .returned (nu (x.k % 6)) ∧ w' = wx) := fun wx => pickE x.k 6 wx (by decide) (by decide) (by have := hx.1; omega)
  have c4 : Hid (∀ wx, Calls Tryd.prog 8 #[nu x.n, nu 4] wx fun e w' => e = .returned (nu (x.n % 4)) ∧ w' = wx) := fun wx => pickE x.n 4 wx (by decide) (by decide) (by have := hx.2.1; omega)
  have e1 := Int.emod_nonneg x.k (b := 6) (by omega)
  have e2 := Int.emod_lt_of_pos x.k (b := 6) (by omega)
  obtain ⟨kd, hkd⟩ : ∃ kd, x.k % 6 = kd := ⟨_, rfl⟩
  rw [hkd] at cK e1 e2
  have HXI := Hid.mk' hx
  have HE := Hid.mk' hE
  have HC := Hid.mk' C
  have HL0 := Hid.mk' hLW
  obtain ⟨y0, y1, y2, y3, y4⟩ := hLW.cells
  have HW := Hid.mk' hW
  have HXB := Hid.mk' hxb
  clear hBW hLW hbW hFx hGx h hkd hW hxb hx hE
  go_enter Tryd.func5, Tryd.ntmps5
  go_upto_region 1 with fail
  rw [HW.out, HXB.out]
  go_wp2_with fail
  refine (cK.out W).mono ?_
  rintro e w1 ⟨rfl, hw1⟩
  subst w1
  clear cK
  have hkc : kd = 0 ∨ kd = 1 ∨ kd = 2 ∨ kd = 3 ∨ kd = 4 ∨ kd = 5 := by omega
  clear e1 e2
  by_cases h01 : kd = 0 ∨ kd = 1
  · obtain ⟨z, L2, hz, hs1, hs2⟩ := both_set C base p t L x.s x.b x.a
    have cS1 : Hid (Calls Tryd.prog 10 #[ptr p, .agg #[nu x.s, nu x.b], nu x.a] W.drew fun e w' => e = .returned (errE z) ∧ (w'.cell? ⟨xb, 1, none⟩ = some (nu x.a) ∧ w'.cell? ⟨xb, 3, none⟩ = some (nu x.s) ∧ w'.cell? ⟨xb, 4, none⟩ = some (nu x.b)) ∧ Hid (∃ F', Bd R base w0 W w' p t F G F' G L2 L)) := by
      refine (hs1 W.drew F HSTD.out.xe.rep).mono ?_
      rintro e w' ⟨rfl, hl⟩
      obtain ⟨F', g1, _⟩ := HSTD.out.turn1 C hl
      obtain ⟨_, q1, _, q3, q4⟩ := (HKP.out _ _ _ _ _ g1).1.cells
      exact ⟨rfl, ⟨q1, q3, q4⟩, F', g1⟩
    have cS2 : Hid (∀ wx, Hid (∃ F', Bd R base w0 W wx p t F G F' G L2 L) → Calls Tryd.prog 11 #[ptr t, .agg #[nu x.s, nu x.b], nu x.a] wx fun e w' => e = .returned (nun z) ∧ (w'.cell? ⟨xb, 1, none⟩ = some (nu x.a) ∧ w'.cell? ⟨xb, 3, none⟩ = some (nu x.s) ∧ w'.cell? ⟨xb, 4, none⟩ = some (nu x.b)) ∧ Hid (∃ F' G', Bd R base w0 W w' p t F G F' G' L2 L2)) := fun wx hq => by
      obtain ⟨F', g0⟩ := hq.out
      refine (hs2 wx G g0.ref).mono ?_
      rintro e w' ⟨rfl, hl⟩
      obtain ⟨G', g1, _⟩ := g0.turn2 C hl
      obtain ⟨_, q1, _, q3, q4⟩ := (HKP.out _ _ _ _ _ g1).1.cells
      exact ⟨rfl, ⟨q1, q3, q4⟩, F', G', g1⟩
    have cS3 : Hid (∀ wx, Hid (∃ F' G', Bd R base w0 W wx p t F G F' G' L2 L2) → Calls Tryd.prog 9 #[errE z, nun z] wx fun e w' => e = .returned (.bool true) ∧ (w'.cell? ⟨xb, 1, none⟩ = some (nu x.a) ∧ w'.cell? ⟨xb, 3, none⟩ = some (nu x.s) ∧ w'.cell? ⟨xb, 4, none⟩ = some (nu x.b)) ∧ Hid (∃ F' G' L', Bd R base w0 w w' p t F G F' G' L' L')) := fun wx hq => by
      obtain ⟨F', G', g0⟩ := hq.out
      refine (plainH z hz wx (HE.out.below g0.xe.bel)).mono ?_
      rintro e w' ⟨rfl, hb⟩
      have g1 := g0.below C hb
      obtain ⟨g2, g3⟩ := HKP.out _ _ _ _ _ g1
      obtain ⟨_, q1, _, q3, q4⟩ := g2.cells
      exact ⟨rfl, ⟨q1, q3, q4⟩, F', G', L2, g3⟩
    have y134 : W.drew.cell? ⟨xb, 1, none⟩ = some (nu x.a) ∧ W.drew.cell? ⟨xb, 3, none⟩ = some (nu x.s) ∧ W.drew.cell? ⟨xb, 4, none⟩ = some (nu x.b) := ⟨y1, y3, y4⟩
    clear hz hs1 hs2 HKP HST HSTD c4 hkc HL0
    rcases h01 with rfl | rfl
    all_goals
      go_wp2_with fail
      go_region_held3 (fun w' => w'.cell? ⟨xb, 1, none⟩ = some (nu x.a) ∧ w'.cell? ⟨xb, 3, none⟩ = some (nu x.s) ∧ w'.cell? ⟨xb, 4, none⟩ = some (nu x.b)) (first | assumption | exact y134 | fail) (first | (go_at_call 10; with_reducible refine cS1.out.mono ?_; rintro e w5 ⟨rfl, hs5, hQ5⟩) | (go_at_call 11; with_reducible refine (cS2.out _ hQ5).mono ?_; rintro e w6 ⟨rfl, hs6, hQ6⟩) | (go_at_call 9; with_reducible refine (cS3.out _ hQ6).mono ?_; rintro e w7 ⟨rfl, hs7, hQ7⟩) | fail)
      obtain ⟨_, _, _⟩ := hs7
      clear y0 y1 y2 y3 y4 y134 hQ5 hQ6 hs5 hs6 cS1 cS2 cS3
      go_wp2
      go_ret
      exact ⟨rfl, hQ7.out⟩
  have hk0 : (kd == 0) = false := by simp only [beq_eq_false_iff_ne]; omega
  have hk1 : (kd == 1) = false := by simp only [beq_eq_false_iff_ne]; omega
  by_cases h2 : kd = 2
  · obtain ⟨bb, hbb⟩ : ∃ bb, hasE L x.s = bb := ⟨_, rfl⟩
    have hne : (bb == bb) = true := by simp
    have cD1 : Hid (Calls Tryd.prog 12 #[ptr p, nu x.s] W.drew fun e w' => e = .returned (.bool bb) ∧ w'.cell? ⟨xb, 3, none⟩ = some (nu x.s) ∧ Hid (∃ F', Bd R base w0 W w' p t F G F' G (dropE L x.s) L)) := by
      refine (C.forget W.drew p F L x.s HSTD.out.xe.rep HXI.out.2.2).mono ?_
      rintro e w' ⟨rfl, hl⟩
      obtain ⟨F', g1, _⟩ := HSTD.out.turn1 C hl
      obtain ⟨_, q1, _, q3, q4⟩ := (HKP.out _ _ _ _ _ g1).1.cells
      rw [hbb]
      exact ⟨rfl, q3, F', g1⟩
    have cD2 : Hid (∀ wx, Hid (∃ F', Bd R base w0 W wx p t F G F' G (dropE L x.s) L) → Calls Tryd.prog 13 #[ptr t, nu x.s] wx fun e w' => e = .returned (.bool bb) ∧ w'.cell? ⟨xb, 3, none⟩ = some (nu x.s) ∧ Hid (∃ F' G' L', Bd R base w0 w w' p t F G F' G' L' L')) := fun wx hq => by
      obtain ⟨F', g0⟩ := hq.out
      refine (forgetE_r g0.ref x.s).mono ?_
      rintro e w' ⟨rfl, hl⟩
      obtain ⟨G', g1, _⟩ := g0.turn2 C hl
      obtain ⟨g2, g3⟩ := HKP.out _ _ _ _ _ g1
      obtain ⟨_, q1, _, q3, q4⟩ := g2.cells
      rw [hbb]
      exact ⟨rfl, q3, F', G', _, g3⟩
    have y3d : W.drew.cell? ⟨xb, 3, none⟩ = some (nu x.s) := y3
    subst h2
    clear hbb HKP HST HSTD c4 hkc HL0 h01 y0 y1 y2 y4
    go_wp2_with fail
    go_region_held3 (fun w' => w'.cell? ⟨xb, 3, none⟩ = some (nu x.s)) (first | assumption | exact y3d | fail) (first | (go_at_call 12; with_reducible refine cD1.out.mono ?_; rintro e w5 ⟨rfl, hs5, hQ5⟩) | (go_at_call 13; with_reducible refine (cD2.out _ hQ5).mono ?_; rintro e w6 ⟨rfl, hs6, hQ6⟩) | fail)
    clear y3 y3d hQ5 hs5 cD1 cD2
    go_wp2
    go_ret
    exact ⟨rfl, hQ6.out⟩
  have hk2 : (kd == 2) = false := by simp only [beq_eq_false_iff_ne]; omega
  by_cases h4 : kd = 4
  · have cE : Hid (Calls Tryd.prog 14 #[ptr p, ptr t, .agg #[nu x.k, nu x.a, nu x.n, nu x.s, nu x.b], nu 1000, .bool false] W fun e w' => e = .returned (.bool true) ∧ Hid (∃ F' G' L', Bd R base w0 w w' p t F G F' G' L' L')) := by
      refine (due_any C base w0 W p t F G L x.k x.a x.n x.s x.b 1000 false HST.out ⟨by omega, by omega⟩ HE.out).mono ?_
      rintro e w' ⟨rfl, F', G', L', g⟩
      exact ⟨rfl, F', G', L', (HKP.out _ _ _ _ _ g).2⟩
    have HRG := Hid.mk' HL0.out.range
    subst h4
    clear HKP HST HSTD c4 hkc h01 h2 y0 y1 y2 y3 y4
    go_wp2_with (first | (refine wpList_load_mid rfl 33 _ rfl xb 0 rfl [nu x.k, nu x.a, nu x.n, nu x.s, nu x.b] _ HRG.out Tryd.underlying33 rfl size_xact ?_) | fail)
    refine cE.out.mono ?_
    rintro e w2 ⟨rfl, HQ⟩
    go_wp2
    go_ret
    exact ⟨rfl, HQ.out⟩
  have hk4 : (kd == 4) = false := by simp only [beq_eq_false_iff_ne]; omega
  by_cases h5 : kd = 5
  · have m1 := Int.emod_nonneg x.n (b := 4) (by omega)
    have m2 := Int.emod_lt_of_pos x.n (b := 4) (by omega)
    obtain ⟨mo, hmo, hmo2⟩ : ∃ mo : Nat, x.n % 4 = mo ∧ mo ≤ 3 := ⟨(x.n % 4).toNat, by omega, by omega⟩
    rw [hmo] at c4
    obtain ⟨m3, hm3⟩ : ∃ m3 : Nat, mo + 1 = m3 := ⟨_, rfl⟩
    have hwr : IntKind.i64.wrap (1 + (mo : Int)) = (m3 : Int) := by rw [IntKind.wrap_i64]; omega
    have hLD : LoneA W.drew xb x := HL0.out
    have cP : Hid (Calls Tryd.prog 8 #[nu x.n, nu 4] W.drew fun e w' => e = .returned (nun mo) ∧ (w'.cell? ⟨xb, 0, none⟩ = some (nu x.k) ∧ w'.cell? ⟨xb, 1, none⟩ = some (nu x.a) ∧ w'.cell? ⟨xb, 2, none⟩ = some (nu x.n) ∧ w'.cell? ⟨xb, 3, none⟩ = some (nu x.s) ∧ w'.cell? ⟨xb, 4, none⟩ = some (nu x.b)) ∧ w' = W.drew) := by
      refine (c4.out W.drew).mono ?_
      rintro e w' ⟨rfl, rfl⟩
      exact ⟨rfl, hLD.cells, rfl⟩
    have cE : Hid (Calls Tryd.prog 14 #[ptr p, ptr t, .agg #[nu x.k, nu x.a, nu x.n, nu x.s, nu x.b], nun m3, .bool true] W.drew fun e w' => e = .returned (.bool true) ∧ (w'.cell? ⟨xb, 0, none⟩ = some (nu x.k) ∧ w'.cell? ⟨xb, 1, none⟩ = some (nu x.a) ∧ w'.cell? ⟨xb, 2, none⟩ = some (nu x.n) ∧ w'.cell? ⟨xb, 3, none⟩ = some (nu x.s) ∧ w'.cell? ⟨xb, 4, none⟩ = some (nu x.b)) ∧ Hid (∃ F' G' L', Bd R base w0 w w' p t F G F' G' L' L')) := by
      refine (due_any C base w0 W.drew p t F G L x.k x.a x.n x.s x.b m3 true HSTD.out.start ⟨by omega, by omega⟩ HE.out).mono ?_
      rintro e w' ⟨rfl, F', G', L', g⟩
      obtain ⟨g2, g3⟩ := HKP.out _ _ _ _ _ (HSTD.out.trans g)
      exact ⟨rfl, g2.cells, F', G', L', g3⟩
    have hS : (W.drew.cell? ⟨xb, 0, none⟩ = some (nu x.k) ∧ W.drew.cell? ⟨xb, 1, none⟩ = some (nu x.a) ∧ W.drew.cell? ⟨xb, 2, none⟩ = some (nu x.n) ∧ W.drew.cell? ⟨xb, 3, none⟩ = some (nu x.s) ∧ W.drew.cell? ⟨xb, 4, none⟩ = some (nu x.b)) := hLD.cells
    subst h5
    clear HKP HST HSTD c4 hkc h01 h2 h4 y0 y1 y3 y4 m1 m2 hmo hmo2 hm3 hLD
    go_wp2_with fail
    go_region_held3 (fun w' => (w'.cell? ⟨xb, 0, none⟩ = some (nu x.k) ∧ w'.cell? ⟨xb, 1, none⟩ = some (nu x.a) ∧ w'.cell? ⟨xb, 2, none⟩ = some (nu x.n) ∧ w'.cell? ⟨xb, 3, none⟩ = some (nu x.s) ∧ w'.cell? ⟨xb, 4, none⟩ = some (nu x.b))) (first | assumption | exact hS | fail) (first | (go_at_call 8; with_reducible refine cP.out.mono ?_; rintro e w5 ⟨rfl, hs5, hw5⟩; subst w5) | (go_at_call 14; with_reducible refine cE.out.mono ?_; rintro e w6 ⟨rfl, hs6, hQ6⟩) | fail)
    all_goals (clear y2 hS cP cE; go_wp2; go_ret; exact ⟨rfl, hQ6.out⟩)
  have h3 : kd = 3 := by omega
  have cN1 : Hid (Calls Tryd.prog 15 #[ptr t] W fun e w' => e = .returned (.tuple #[nu (nextE L), .bool (snextE L)]) ∧ w' = W) := by
    obtain ⟨lv, r1, _⟩ := HST.out.ref
    exact nextE_ref base W t lv L r1
  have cN2 : Hid (Calls Tryd.prog 6 #[ptr p] W fun e w' => e = .returned (.tuple #[nu (nextE L), .bool (snextE L)]) ∧ Hid (∃ F' G' L', Bd R base w0 w w' p t F G F' G' L' L')) := by
    refine (C.next W p F L HST.out.xe.rep).mono ?_
    rintro e w' ⟨rfl, hb⟩
    exact ⟨rfl, F, G, L, (HKP.out _ _ _ _ _ (HST.out.below C hb)).2⟩
  subst h3
  obtain ⟨i1, hi1⟩ : ∃ i1, nextE L = i1 := ⟨_, rfl⟩
  obtain ⟨b1, hb1⟩ : ∃ b1, snextE L = b1 := ⟨_, rfl⟩
  rw [hi1, hb1] at cN1 cN2
  have hbb : (b1 == b1) = true := by simp
  clear HKP HST HSTD c4 hkc h01 h2 h4 h5 y0 y1 y2 y3 y4 hi1 hb1
  go_wp2_with fail
  refine cN1.out.mono ?_
  rintro e w2 ⟨rfl, hw2⟩
  subst w2
  go_wp2_with fail
  refine cN2.out.mono ?_
  rintro e w3 ⟨rfl, HQ⟩
  clear cN1 cN2
  go_wp2
  go_ret
  exact ⟨by simp, HQ.out⟩
end Ex
end Go.Proofs.YthjdpfmnbmnbhaaDoor
