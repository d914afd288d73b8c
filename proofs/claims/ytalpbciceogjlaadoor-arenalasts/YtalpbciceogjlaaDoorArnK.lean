/- Scripts of acts; the first law on arenas out of what the program's calls must answer. -/
import Derived.Test.YtalpbciceogjlaaDoorArnD4
namespace Go.Proofs.YtalpbciceogjlaaDoor
set_option linter.ambiguousOpen false
open Go.RowKit
namespace An
open Ft Lv
set_option linter.unusedSimpArgs false
set_option linter.unusedVariables false

/-- An act. -/
structure Actn where
  k : Int
  n : Int
  s : Slt

def Actn.fits (x : Actn) : Prop := (-9223372036854775808 ≤ x.k ∧ x.k ≤ 9223372036854775807) ∧ (-9223372036854775808 ≤ x.n ∧ x.n ≤ 9223372036854775807)

/-- A list of acts lies there. -/
def RdT (w : World) (v : Value) (L : List Actn) : Prop :=
  ∃ a cap, v = .slice a L.length cap ∧ L.length ≤ cap ∧ cap ≤ maxLen ∧ (0 < L.length → ∃ g o, a = some ⟨g, o, none⟩ ∧ g < w.heap.size ∧ ∀ i x, L[i]? = some x → w.rangeAt g (o + i * 19) (actL x.k x.n x.s))

theorem actL_len (k n : Int) (s : Slt) : (actL k n s).length = 19 := rfl

theorem size_act : (Tryd.prog.info? 38).map (·.size) = some 19 := by kernel_rfl

theorem range_below {w w' : World} {B g o : Nat} {cs : List Value} (h : w.rangeAt g o cs) (hb : Below B w w') (hg : g < B) : w'.rangeAt g o cs := fun j v hv => (hb.cell (p := ⟨g, o + j, none⟩) hg).trans (h j v hv)

set_option maxRecDepth 100000 in
theorem wpList_load_act {ops : Array Oper} {rest : List Oper} {op : Oper} {a : Act} {w : World} {Q : Exit → Act → World → Prop} (hgd : op.guard = none) (x : Operand) (ho : op.op = .load 38 x)
    (b o : Nat) (hx : a.eval x = .pointer (some ⟨b, o, none⟩)) (k n : Int) (s : Slt) (hr : w.rangeAt b o (actL k n s))
    (h : wpList Tryd.prog ops Q rest (a.put op.dst (.agg (actL k n s).toArray)) w) : wpList Tryd.prog ops Q (op :: rest) a w :=
  wpList_load_mid hgd 38 x ho b o hx (actL k n s) _ hr Tryd.underlying38 rfl size_act h

/-- The act that takes a slot, as the law builds it. -/
@[reducible] def actZ : Value := .agg #[nu 2, nu 0, .bool false, .bool false, nu 0, nu 0, nu 0, nu 0, nu 0, nu 0, nu 0, nu 0, .string ⟨#[]⟩, .string ⟨#[]⟩, .int .u64 0, nu 0, nu 0, nu 0, nu 0]

theorem actZ_eq : actV 2 0 slt0 = actZ := rfl

section
variable {Rep RepR : World → Nat → (Nat → Prop) → Arn → Prop} {w0 w w' : World} {p g p2 : Nat} {F G F2 F' G' : Nat → Prop} {A A' : Arn}

/-- Both arenas, and another one beside them that nobody touches. -/
structure Tr (Rep RepR : World → Nat → (Nat → Prop) → Arn → Prop) (w0 w : World) (p g p2 : Nat) (F G F2 : Nat → Prop) (A : Arn) : Prop where
  pr : Pr Rep RepR w0 w p g F G A A
  oth : Rep w p2 F2 arn0
  off : ∀ k, F2 k → ¬ F k ∧ ¬ G k

theorem Tr.turn (H : KeepC Rep) (h : Tr Rep RepR w0 w p g p2 F G F2 A) (hd : Dn Rep RepR w0 w w' p g F G F' G' A' A') : Tr Rep RepR w0 w' p g p2 F' G' F2 A' :=
  ⟨hd.pr, H.keep h.oth hd.kp (fun k hk e => e.elim (h.off k hk).1 (h.off k hk).2), fun k hk => by
    have hl := H.lt h.oth k hk
    refine ⟨fun e => ?_, fun e => ?_⟩
    · rcases hd.gf k e with h1 | h1
      · exact (h.off k hk).1 h1
      · omega
    · rcases hd.gg k e with h1 | h1
      · exact (h.off k hk).2 h1
      · omega⟩

theorem Tr.below (H : KeepC Rep) (HR : KeepC RepR) (h : Tr Rep RepR w0 w p g p2 F G F2 A) (hb : Below w.heap.size w w') : Tr Rep RepR w0 w' p g p2 F G F2 A :=
  ⟨h.pr.below H HR hb, H.below h.oth hb, h.off⟩
end

set_option maxRecDepth 100000 in
set_option maxHeartbeats 8000000 in
theorem arenaPlays_yes {Rep : World → Nat → (Nat → Prop) → Arn → Prop} (H : KeepC Rep) (CN : NewC Rep) (CG : GetC Rep) (CP : PutC Rep) (CT : TakeC Rep) (CL : PlaceC Rep) (CX : FreeC Rep) (CF : FreesC Rep) (CW : WritesC Rep) (t : Int) (sv : Value) (L : List Actn) (w : World) (ht : -9223372036854775808 ≤ t ∧ t ≤ 9223372036854775807) (hR : RdT w sv L) (hF : ∀ x ∈ L, x.fits) (hE : Er.Handle w) :
    Calls Tryd.prog 3 #[nu t, sv] w fun e w' => e = .returned (.bool true) ∧ Below w.heap.size w w' := by
  obtain ⟨av, cv, rfl, hc1, hc2, hcell⟩ := hR
  obtain ⟨N, hN⟩ : ∃ N, L.length = N := ⟨_, rfl⟩
  have HN := Hid.mk' hN
  have HC := Hid.mk' hcell
  have HF := Hid.mk' hF
  rw [hN] at hc1 ⊢
  unfold maxLen at hc2
  by_cases hbig : 4000 < N
  · have hbI : (4000 : Int) < (N : Int) := by omega
    clear H CN CG CP CT CL CX CF CW hcell hF HC HF hE
    go_enter Tryd.func3, Tryd.ntmps3
    go_wp2
    go_ret
    exact ⟨rfl, Below.refl _ _⟩
  have hbI : ¬ (4000 : Int) < (N : Int) := by omega
  have c1 : Hid (∀ wx, _) := fun wx => CN wx
  have c2 : Hid (∀ wx, _) := fun wx => new_r wx
  obtain ⟨T, hT, hT1⟩ : ∃ T : Nat, t % 33 = T ∧ T < 33 := ⟨(t % 33).toNat, by omega, by omega⟩
  have c3 : Hid (∀ wx, Calls Tryd.prog 7 #[nu t, nu 33] wx fun e w' => e = .returned (nun T) ∧ w' = wx) := fun wx => by
    have := pick_any t 33 wx (by decide) (by decide) ht
    rw [show ((33 : Nat) : Int) = 33 from rfl, hT] at this
    exact this
  have cD : Hid (∀ wx base p g p2 F G F2 A k n s, Tr Rep (RepA base) w wx p g p2 F G F2 A → A.wr ≤ 999999999 → (-9223372036854775808 ≤ k ∧ k ≤ 9223372036854775807) → (-9223372036854775808 ≤ n ∧ n ≤ 9223372036854775807) → Calls Tryd.prog 8 #[ptr p, ptr g, actV k n s] wx fun e w' => e = .returned (.bool true) ∧ Hid (∃ F' G' A', A'.wr ≤ A.wr + 1 ∧ Tr Rep (RepA base) w w' p g p2 F' G' F2 A')) := fun wx base p g p2 F G F2 A k n s h1 h2 h3 h4 => by
    refine (does_any H CG CP CT CL CX CF CW base w wx p g F G A k n s h1.pr h2 hE h3 h4).mono ?_
    rintro e w' ⟨rfl, F', G', hd⟩
    exact ⟨rfl, F', G', _, step_wr A k n s, h1.turn H hd⟩
  have cA : Hid (∀ wx base p g F G A, Rep wx p F A → RepA base wx g G A → Good A → A.wr ≤ 1000000000 → Below w.heap.size w wx → Calls Tryd.prog 9 #[ptr p, ptr g] wx fun e w' => e = .returned (.bool true) ∧ Below wx.heap.size wx w') := fun wx base p g F G A h1 h2 h3 h4 h5 => asked_any H CG CF CW base wx p g F G A h1 h2 h3 h4 (hE.below h5)
  have HH := Hid.mk' H
  clear CN CG CP CT CL CX CF CW hcell hF hE H hN ht hT
  go_enter Tryd.func3, Tryd.ntmps3
  go_wp2_with fail
  refine (c1.out _).mono ?_
  rintro e w1 ⟨p, F, rfl, hr1, hf1, hb1⟩
  have HR1 : Hid (Rep w1 p F arn0 ∧ (∀ k, F k → w.heap.size ≤ k) ∧ Below w.heap.size w w1) := ⟨hr1, hf1, hb1⟩
  clear hr1 hf1 hb1
  go_wp2_with fail
  refine (c1.out _).mono ?_
  rintro e w2 ⟨p2, F2, rfl, hr2, hf2, hb2⟩
  have HR2 : Hid (Rep w2 p F arn0 ∧ Rep w2 p2 F2 arn0 ∧ (∀ k, F k → w.heap.size ≤ k ∧ k < w2.heap.size) ∧ (∀ k, F2 k → ¬ F k ∧ k < w2.heap.size) ∧ Below w.heap.size w w2) := ⟨HH.out.below HR1.out.1 hb2, hr2, fun k hk => ⟨HR1.out.2.1 k hk, Nat.lt_of_lt_of_le (HH.out.lt HR1.out.1 k hk) hb2.size⟩, fun k hk => ⟨fun e => by have h1 := HH.out.lt HR1.out.1 k e; have h2 := hf2 k hk; omega, HH.out.lt hr2 k hk⟩, HR1.out.2.2.trans (hb2.mono HR1.out.2.2.size)⟩
  clear hr2 hf2 hb2 HR1 c1
  go_wp2_with fail
  refine (c2.out _).mono ?_
  rintro e w3 ⟨G, rfl, hr3, hb3⟩
  have HT3 : Hid (Tr Rep (RepA w2.heap.size) w w3 p w2.heap.size p2 F G F2 arn0) := by
    obtain ⟨z1, z2, z3, z4, z5⟩ := HR2.out
    refine ⟨⟨HH.out.below z1 hb3, hr3, fun k hk e => ?_, fun k hk => (z3 k hk).1, fun k hk => Nat.le_trans z5.size (hr3.lt k hk).1, good0, good0, z5.trans (hb3.mono z5.size)⟩, HH.out.below z2 hb3, fun k hk => ⟨(z4 k hk).1, fun e => ?_⟩⟩
    · have h1 := (z3 k hk).2
      have h2 := (hr3.lt k e).1
      omega
    · have h1 := (z4 k hk).2
      have h2 := (hr3.lt k e).1
      omega
  clear hr3 hb3 HR2
  obtain ⟨bs, hbs⟩ : ∃ bs, w2.heap.size = bs := ⟨_, rfl⟩
  rw [hbs] at HT3 ⊢
  clear hbs
  go_wp2_with fail
  go_loopw [8] (fun iv wr => ∃ k : Nat, k ≤ T ∧ iv = nun k ∧ Hid (∃ F G A, A.wr ≤ k ∧ Tr Rep (RepA bs) w wr p bs p2 F G F2 A)) (fun iv _ => T - (intOf iv).toNat)
  case atStart => exact ⟨0, Nat.zero_le _, rfl, F, G, arn0, Nat.le_refl _, HT3.out⟩
  case round =>
    clear HT3
    obtain ⟨k, hk, rfl, hq⟩ := hrel
    go_wp2_with fail
    refine (c3.out _).mono ?_
    rintro e w' ⟨rfl, hw'⟩
    subst w'
    by_cases hlt : k < T
    · have hkI : (k : Int) < (T : Int) := by omega
      obtain ⟨F', G', A', ha, htr⟩ := hq.out
      have C := cD.out wr bs p bs p2 F' G' F2 A' 2 0 slt0 htr (by omega) (by decide) (by decide)
      rw [actZ_eq] at C
      have HC2 := Hid.mk' C
      clear C htr hq
      go_wp2_with fail
      refine HC2.out.mono ?_
      rintro e w5 ⟨rfl, hq5⟩
      have HQ5 : Hid (∃ F G A, A.wr ≤ k + 1 ∧ Tr Rep (RepA bs) w w5 p bs p2 F G F2 A) := by
        obtain ⟨F1, G1, A1, h1, h2⟩ := hq5.out
        exact ⟨F1, G1, A1, by omega, h2⟩
      clear hq5 HC2 ha
      go_wp2
      go_roundw
      case rel => exact ⟨k + 1, by omega, by go_num, HQ5⟩
      case measure => simp [intOf]; omega
    · have hkI : ¬ (k : Int) < (T : Int) := by omega
      have HQ0 : Hid (∃ F G A, A.wr ≤ 33 ∧ Tr Rep (RepA bs) w wr p bs p2 F G F2 A) := by
        obtain ⟨F1, G1, A1, h1, h2⟩ := hq.out
        exact ⟨F1, G1, A1, by omega, h2⟩
      rename World => wq
      clear hq
      go_wp2_with fail
      go_loopw [9] (fun iv wr => ∃ k : Nat, k ≤ N ∧ iv = nun k ∧ Hid (∃ F G A, A.wr ≤ 33 + k ∧ Tr Rep (RepA bs) w wr p bs p2 F G F2 A)) (fun iv _ => N - (intOf iv).toNat)
      case atStart => exact ⟨0, Nat.zero_le _, rfl, HQ0.out⟩
      case round =>
        clear HQ0
        obtain ⟨j, hj, rfl, hq⟩ := hrel
        obtain ⟨F', G', A', ha, htr⟩ := hq.out
        have hbel := htr.pr.bel
        by_cases hlt : j < N
        · have hjI : (j : Int) < (N : Int) := by omega
          obtain ⟨gv, ov, rfl, hgl, hcl⟩ := HC.out (by rw [HN.out]; omega)
          obtain ⟨x, hx⟩ : ∃ x, L[j]? = some x := ⟨_, List.getElem?_eq_getElem (by rw [HN.out]; exact hlt)⟩
          have HRG := Hid.mk' (range_below (hcl j x hx) hbel hgl)
          obtain ⟨f1, f2⟩ := HF.out x (List.mem_of_getElem? hx)
          have HC2 := Hid.mk' (cD.out wr bs p bs p2 F' G' F2 A' x.k x.n x.s htr (by omega) f1 f2)
          clear htr hq hcl hbel
          go_wp2_with (first | (refine wpList_load_act rfl _ rfl gv (ov + j * 19) rfl x.k x.n x.s HRG.out ?_) | fail)
          refine HC2.out.mono ?_
          rintro e w5 ⟨rfl, hq5⟩
          have HQ5 : Hid (∃ F G A, A.wr ≤ 33 + (j + 1) ∧ Tr Rep (RepA bs) w w5 p bs p2 F G F2 A) := by
            obtain ⟨F1, G1, A1, h1, h2⟩ := hq5.out
            exact ⟨F1, G1, A1, by omega, h2⟩
          clear hq5 HC2 ha HRG
          go_wp2
          go_roundw
          case rel => exact ⟨j + 1, by omega, by go_num, HQ5⟩
          case measure => simp [intOf]; omega
        · have hjI : ¬ (j : Int) < (N : Int) := by omega
          have C1 := Hid.mk' (cA.out wr bs p bs F' G' A' htr.pr.rep htr.pr.ref htr.pr.good1 (by omega) hbel)
          have C2 : Hid (∀ w5, Below wr.heap.size wr w5 → Calls Tryd.prog 6 #[] w5 fun e w' => ∃ g, e = .returned (ptr g) ∧ Hid (Calls Tryd.prog 9 #[ptr p2, ptr g] w' fun e w'' => e = .returned (.bool true) ∧ Below w.heap.size w w'')) := fun w5 hb5 => by
            refine (c2.out w5).mono ?_
            rintro e w' ⟨G2, rfl, hr, hb⟩
            have hb' : Below wr.heap.size wr w' := hb5.trans (hb.mono hb5.size)
            have hbw : Below w.heap.size w w' := hbel.trans (hb'.mono hbel.size)
            refine ⟨_, rfl, (cA.out w' w5.heap.size p2 w5.heap.size F2 G2 arn0 (HH.out.below htr.oth hb') hr good0 (by decide) hbw).mono ?_⟩
            rintro e w'' ⟨rfl, hb''⟩
            exact ⟨rfl, hbw.trans (hb''.mono hbw.size)⟩
          clear htr hq hbel c2 c3 cD cA
          go_wp2_with fail
          refine C1.out.mono ?_
          rintro e w5 ⟨rfl, hb5⟩
          have C3 := Hid.mk' (C2.out w5 hb5)
          clear hb5 C1 C2
          go_wp2_with fail
          refine C3.out.mono ?_
          rintro e w6 ⟨g6, rfl, hc6⟩
          clear C3
          go_wp2_with fail
          refine hc6.out.mono ?_
          rintro e w7 ⟨rfl, hb7⟩
          have HB7 := Hid.mk' hb7
          clear hb7 hc6
          go_wp2
          go_ret
          exact ⟨rfl, HB7.out⟩
end An
end Go.Proofs.YtalpbciceogjlaaDoor
