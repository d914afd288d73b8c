/- Whatever is done with rings, each call answers as the document has it: RingPlays out of what the program's calls must answer. -/
import Derived.Test.YtckgecmcjnhceaaDoorRngE
import Derived.Test.YtckgecmcjnhceaaDoorLoopM
namespace Go.Proofs.YtckgecmcjnhceaaDoor
set_option linter.ambiguousOpen false
open Go.RowKit
namespace Rg
open An Ft Lv
set_option linter.unusedSimpArgs false
set_option linter.unusedVariables false
attribute [local go_sem] Oper.semAt_some

/-- One thing that is done. -/
structure Rct where
  k : Int
  i : Int
  kk : Int
  j : Int

def Rct.fits (x : Rct) : Prop := I64 x.k ∧ I64 x.i ∧ I64 x.kk ∧ I64 x.j

@[reducible] def Rct.cells (x : Rct) : List Value := [nu x.k, nu x.i, nu x.kk, nu x.j]

/-- A list of them. -/
def RdC (w : World) (v : Value) (L : List Rct) : Prop :=
  ∃ a cap, v = .slice a L.length cap ∧ L.length ≤ cap ∧ cap ≤ maxLen ∧ (0 < L.length → ∃ g o, a = some ⟨g, o, none⟩ ∧ g < w.heap.size ∧ ∀ n x, L[n]? = some x → w.rangeAt g (o + n * 4) x.cells)

theorem RdN.take {w : World} {a : Option Addr} {cap : Nat} {l : List Nat} (h : RdN w (.slice a l.length cap) l) (m : Nat) (hm : m ≤ l.length) : RdN w (.slice a m cap) (l.take m) := by
  obtain ⟨a', cap', e, h1, h2, h3⟩ := h
  simp only [Value.slice.injEq, true_and] at e
  obtain ⟨rfl, rfl⟩ := e
  have hl : (l.take m).length = m := by rw [List.length_take]; omega
  refine ⟨a, cap, by rw [hl], by omega, h2, fun h0 => ?_⟩
  obtain ⟨g, rfl, hg, hc⟩ := h3 (by omega)
  refine ⟨g, rfl, hg, fun k i hk => hc k i ?_⟩
  rw [List.getElem?_take] at hk
  split at hk
  · exact hk
  · simp at hk

theorem slice_toN (a : Option Addr) (len cap k : Nat) (h : k ≤ cap) (w : World) : (Instr.slice 30 (.slice a len cap) none (some (.int .i64 (k : Int))) none).run Tryd.prog w = .ok (.slice a k cap) w := by
  have h1 : (0 : Int) ≤ (k : Int) ∧ (k : Int) ≤ (cap : Int) := by omega
  have hu := Tryd.underlying30
  cases a with
  | none =>
    simp [Instr.slice, Instr.sliceBounds, Instr.sliceBound, asIntOf, run_underlying hu]
    intro hh; omega
  | some ad =>
    simp [Instr.slice, Instr.sliceBounds, Instr.sliceBound, asIntOf, run_underlying hu, Addr.add]
    intro hh; omega

theorem min_twoA (a b : Int) (w : World) : (Builtin.min_ #[3, 3] 3 #[.int .i64 a, .int .i64 b]).run Tryd.prog w = .ok (.int .i64 (if b < a then b else a)) w := run_min_int2 ..

theorem size_rct : (Tryd.prog.info? 28).map (·.size) = some 4 := by kernel_rfl

theorem range_bel {w w' : World} {B g o : Nat} {cs : List Value} (h : w.rangeAt g o cs) (hb : Below B w w') (hg : g < B) : w'.rangeAt g o cs := fun j v hv => (hb.cell (p := ⟨g, o + j, none⟩) hg).trans (h j v hv)

set_option maxRecDepth 100000 in
theorem wpList_load_rct {ops : Array Oper} {rest : List Oper} {op : Oper} {a : Act} {w : World} {Q : Exit → Act → World → Prop} (hgd : op.guard = none) (x : Operand) (ho : op.op = .load 28 x)
    (b o : Nat) (hx : a.eval x = .pointer (some ⟨b, o, none⟩)) (k i kk j : Int) (hr : w.rangeAt b o [nu k, nu i, nu kk, nu j])
    (h : wpList Tryd.prog ops Q rest (a.put op.dst (.agg #[nu k, nu i, nu kk, nu j])) w) : wpList Tryd.prog ops Q (op :: rest) a w :=
  wpList_load_mid hgd 28 x ho b o hx [nu k, nu i, nu kk, nu j] _ hr Tryd.underlying28 rfl size_rct h

/-- Amid the acts: both arenas, and the marks that loops have left. -/
structure St (Rep : World → Nat → (Nat → Prop) → Arn → Prop) (w : World) (p bs q : Nat) (Ds : List Nat) (wr : World) : Prop where
  op : Rf.Open w.heap.size Ds wr
  pr : ∃ F G A1 A2, Pr Rep (RepA bs) w wr p bs F G A1 A2 ∧ A1.sl = A2.sl ∧ A1.fr = A2.fr ∧ A1.wr ≤ 4 * q ∧ ∀ D ∈ Ds, ¬ F D ∧ ¬ G D

section
variable {Rep : World → Nat → (Nat → Prop) → Arn → Prop} {w wr w' : World} {p bs q : Nat} {Ds : List Nat}

theorem St.bel (h : St Rep w p bs q Ds wr) : Below w.heap.size w wr := by
  obtain ⟨F, G, A1, A2, hp, _⟩ := h.pr
  exact hp.bel

theorem St.below (H : KeepC Rep) (h : St Rep w p bs q Ds wr) (hb : Below wr.heap.size wr w') : St Rep w p bs q Ds w' := by
  obtain ⟨F, G, A1, A2, hp, h1, h2, h3, h4⟩ := h.pr
  exact ⟨h.op.below hb (Nat.le_refl _), F, G, A1, A2, hp.below H (keepA bs) hb, h1, h2, h3, h4⟩

/-- One more mark. -/
theorem St.marked (H : KeepC Rep) (h : St Rep w p bs q Ds wr) (hb : Below wr.heap.size wr w') {B : Nat} (hB : wr.heap.size ≤ B) (hK : w'.heap[B]? = some (.deferred (some []))) : St Rep w p bs q (B :: Ds) w' := by
  obtain ⟨F, G, A1, A2, hp, h1, h2, h3, h4⟩ := h.pr
  have hw := h.bel.size
  refine ⟨(h.op.below hb (Nat.le_refl _)).cons (by omega) hK (fun e => by have := h.op.lt B e; omega), F, G, A1, A2, hp.below H (keepA bs) hb, h1, h2, h3, fun D hD => ?_⟩
  rcases List.mem_cons.1 hD with rfl | hD
  · exact ⟨fun e => by have := H.lt hp.rep D e; omega, fun e => by have := (hp.ref.lt D e).2; omega⟩
  · exact h4 D hD

theorem St.turn {F G : Nat → Prop} {A1 A1' A2' : Arn} (ho : Rf.Open w.heap.size Ds wr) (h4 : ∀ D ∈ Ds, ¬ F D ∧ ¬ G D) (h3 : A1.wr ≤ 4 * q) (ht : Tw Rep bs w wr w' p bs F G A1' A2') (hw : A1'.wr ≤ A1.wr + 4) : St Rep w p bs (q + 1) Ds w' := by
  obtain ⟨F', G', hd⟩ := ht.dn
  refine ⟨ho.kept (fun D hD => hd.kp.block D (ho.lt D hD) (fun e => e.elim (h4 D hD).1 (h4 D hD).2)), F', G', A1', A2', hd.pr, ht.sl, ht.fr, by omega, fun D hD => ⟨fun e => ?_, fun e => ?_⟩⟩
  · rcases hd.gf D e with e | e
    · exact (h4 D hD).1 e
    · have := ho.lt D hD; omega
  · rcases hd.gg D e with e | e
    · exact (h4 D hD).2 e
    · have := ho.lt D hD; omega

theorem St.more (h : St Rep w p bs q Ds wr) : St Rep w p bs (q + 1) Ds wr := by
  obtain ⟨F, G, A1, A2, hp, h1, h2, h3, h4⟩ := h.pr
  exact ⟨h.op, F, G, A1, A2, hp, h1, h2, by omega, h4⟩
end

set_option maxRecDepth 1000000 in
set_option maxHeartbeats 16000000 in
theorem ringPlays_yes {Rep : World → Nat → (Nat → Prop) → Arn → Prop} (H : KeepC Rep) (CN : NewC Rep) (CG : GetC Rep) (CU : PutC Rep) (CF : FreesC Rep) (CW : WritesC Rep) (CP : PushC Rep) (CD : DropC Rep) (CS : SpliceC Rep) (CA : AllC Rep) (sv : Value) (L : List Rct) (w : World) (hR : RdC w sv L) (hF : ∀ x ∈ L, x.fits) (hE : Er.Handle w) :
    Calls Tryd.prog 3 #[sv] w fun e w' => e = .returned (.bool true) ∧ Below w.heap.size w w' := by
  obtain ⟨i0, ji, hz0, hz1, hz2⟩ := info_parts info_int
  obtain ⟨av, cv, rfl, hc1, hc2, hcell⟩ := hR
  obtain ⟨N, hN⟩ : ∃ N, L.length = N := ⟨_, rfl⟩
  have HN := Hid.mk' hN
  have HC := Hid.mk' hcell
  have HF := Hid.mk' hF
  rw [hN] at hc1 ⊢
  unfold maxLen at hc2
  have c1 := Hid.mk' (CN w)
  have c2 : Hid (∀ wx, _) := fun wx => new_r wx
  have HH := Hid.mk' H
  have cD : Hid (∀ wx p bs q Ds k i kk j, St Rep w p bs q Ds wx → q ≤ 500 → I64 k → I64 i → I64 kk → Calls Tryd.prog 13 #[ptr p, ptr bs, .agg #[nu k, nu i, nu kk, nu j]] wx fun e w' => e = .returned (.bool true) ∧ Hid (St Rep w p bs (q + 1) Ds w')) := fun wx p bs q Ds k i kk j hs hq h1 h2 h3 => by
    obtain ⟨F, G, A1, A2, hp, z1, z2, z3, z4⟩ := hs.pr
    refine (does_any H CP CD CS CW bs w wx p bs F G A1 A2 k i kk j hp z1 z2 (by omega) hE h1 h2 h3).mono ?_
    rintro e w' ⟨rfl, A1', A2', y1, y2⟩
    exact ⟨rfl, St.turn hs.op z4 z3 y2 y1⟩
  have cU : Hid (∀ wx p bs q Ds k i kk j, St Rep w p bs q Ds wx → q ≤ 500 → I64 i → Calls Tryd.prog 12 #[ptr p, ptr bs, .agg #[nu k, nu i, nu kk, nu j]] wx fun e w' => e = .returned (.bool true) ∧ Hid (St Rep w p bs (q + 1) Ds w')) := fun wx p bs q Ds k i kk j hs hq h1 => by
    obtain ⟨F, G, A1, A2, hp, z1, z2, z3, z4⟩ := hs.pr
    refine (put_yes H CG CU bs w wx p bs F G A1 A2 k i kk j hp z1 z2 (by omega) h1).mono ?_
    rintro e w' ⟨rfl, A1', A2', y1, y2⟩
    exact ⟨rfl, St.turn hs.op z4 z3 y2 y1⟩
  have cS : Hid (∀ wx p bs q Ds, St Rep w p bs q Ds wx → Calls Tryd.prog 14 #[ptr p, ptr bs] wx fun e w' => e = .returned (.bool true) ∧ Hid (St Rep w p bs q Ds w')) := fun wx p bs q Ds hs => by
    obtain ⟨F, G, A1, A2, hp, z1, z2, z3, z4⟩ := hs.pr
    refine (same_any H CG bs wx p bs F G A1 A2 hp.rep hp.ref hp.good1 z1).mono ?_
    rintro e w' ⟨rfl, hb⟩
    exact ⟨rfl, hs.below H hb⟩
  have hcI : (cv : Int) ≤ 9223372036854775807 := by omega
  refine (callsIn_wide (n := 8)).1 ?_
  refine callsIn_of_wp_marks Tryd.func3 rfl trivial ?_ rfl
  refine wpIn_wide.2 ?_
  simp only [Tryd.ntmps3, List.size_toArray, List.length_cons, List.length_nil, Nat.reduceAdd, Nat.reduceSub, Array.replicate_succ, Array.replicate_zero, List.push_toArray, List.append_toArray, List.nil_append, List.cons_append]
  clear hN hcell hF
  go_wp2_with fail
  refine c1.out.mono ?_
  rintro e w1 ⟨p, F, rfl, hr1, hf1, hb1⟩
  have HR1 : Hid (Rep w1 p F arn0 ∧ (∀ k, F k → w.heap.size ≤ k) ∧ Below w.heap.size w w1) := ⟨hr1, hf1, hb1⟩
  clear hr1 hf1 hb1 c1
  go_wp2_with fail
  refine (c2.out _).mono ?_
  rintro e w3 ⟨G, rfl, hr3, hb3⟩
  have HT3 : Hid (Pr Rep (RepA w1.heap.size) w w3 p w1.heap.size F G arn0 arn0) := by
    obtain ⟨z1, z2, z3⟩ := HR1.out
    refine ⟨HH.out.below z1 hb3, hr3, fun k hk e => ?_, z2, fun k hk => Nat.le_trans z3.size (hr3.lt k hk).1, good0, good0, z3.trans (hb3.mono z3.size)⟩
    have h1 := HH.out.lt z1 k hk
    have h2 := (hr3.lt k e).1
    omega
  clear hr3 hb3 HR1 c2
  obtain ⟨bs, hbs⟩ : ∃ bs, w1.heap.size = bs := ⟨_, rfl⟩
  rw [hbs] at HT3 ⊢
  clear hbs
  by_cases hbig : 500 < N
  · have hbI : (500 : Int) < (N : Int) := by omega
    have HB3 := Hid.mk' HT3.out.bel
    go_wp2
    exact Rf.leaves_marks (B := w3.heap.size) (Ds := []) ⟨List.nodup_nil, fun D hD => by simp at hD⟩ (Nat.le_refl _) (fun W' hW' => ⟨_, results_tmp rfl _ _ _, rfl, HB3.out.trans (hW'.mono HB3.out.size)⟩)
  have hbI : ¬ (500 : Int) < (N : Int) := by omega
  have hbd : decide ((500 : Int) < (N : Int)) = false := decide_eq_false hbI
  go_wp2_with fail
  clear hbd
  refine Lm.wp_loopT (fun u => #[.slice av N cv, undef, .bool false, ptr p, ptr bs, u 5, u 6, u 7, u 8, u 9, u 10, u 11, u 12, undef, undef, ptr p, ptr bs, .slice av N cv, .int .i64 (N : Int), .bool false, .bool false, ptr p, .bool false, .bool false, undef, undef, u 26, u 27, u 28, u 29, u 30, u 31, u 32, u 33, u 34, u 35, u 36, u 37, u 38, u 39, u 40, u 41, u 42, u 43, u 44, u 45, u 46, u 47, u 48, u 49, u 50, u 51, u 52, u 53, u 54, u 55, u 56, u 57, u 58, u 59, u 60, u 61, u 62, u 63, u 64, u 65, u 66, u 67, u 68, u 69, u 70, u 71, u 72, u 73, u 74, u 75, u 76, u 77, u 78, u 79, u 80, u 81, u 82, u 83, u 84, u 85, u 86, u 87, u 88, u 89, u 90, u 91, u 92, u 93, u 94, undef, undef, undef, undef, undef, undef, undef, undef, undef, undef, undef, undef, undef]) (fun u ds wr => ∃ (q : Nat) (Ds : List Nat), q ≤ N ∧ u 5 = nun q ∧ ds = Rf.marks Ds ∧ Hid (St Rep w p bs q Ds wr)) (fun u => N - (intOf (u 5)).toNat) (by kernel_rfl) ⟨0, [], Nat.zero_le _, rfl, rfl, ⟨⟨List.nodup_nil, fun D hD => by simp at hD⟩, F, G, arn0, arn0, HT3.out, rfl, rfl, by decide, fun D hD => by simp at hD⟩⟩ ?_
  clear HT3
  rintro u ds wr ⟨q, Ds, hq, hu5, rfl, HS⟩
  simp only [hu5]
  clear hu5
  by_cases hlt : q < N
  · have hqI : (q : Int) < (N : Int) := by omega
    obtain ⟨gv, ov, rfl, hgl, hcl⟩ := HC.out (by rw [HN.out]; omega)
    obtain ⟨x, hx⟩ : ∃ x, L[q]? = some x := ⟨_, List.getElem?_eq_getElem (by rw [HN.out]; exact hlt)⟩
    have hrg := range_bel (hcl q x hx) HS.out.bel hgl
    obtain ⟨f1, f2, f3, f4⟩ := HF.out x (List.mem_of_getElem? hx)
    obtain ⟨k, i, kk, j⟩ := x
    have HRG : Hid (wr.rangeAt gv (ov + q * 4) [nu k, nu i, nu kk, nu j]) := hrg
    obtain ⟨m, hm⟩ : ∃ m, k % 6 = m := ⟨_, rfl⟩
    have cK : Hid (∀ wx, Calls Tryd.prog 7 #[nu k, nu 6] wx fun e w' => e = .returned (nu m) ∧ w' = wx) := fun wx => by rw [← hm]; exact pick_any k 6 wx (by decide) (by decide) f1
    have hBA : Below wr.heap.size wr (wr.alloc (.cells #[nu k, nu i, nu kk, nu j] 28)) := (Below.refl _ _).alloc (Nat.le_refl _) _
    have hAA : (wr.alloc (.cells #[nu k, nu i, nu kk, nu j] 28)).heap[wr.heap.size]? = some (.cells #[nu k, nu i, nu kk, nu j] 28) := heap_alloc_new _ _
    have hsA : (wr.alloc (.cells #[nu k, nu i, nu kk, nu j] 28)).heap.size = wr.heap.size + 1 := by simp
    obtain ⟨W1, hW1⟩ : ∃ W1, wr.alloc (.cells #[nu k, nu i, nu kk, nu j] 28) = W1 := ⟨_, rfl⟩
    rw [hW1] at hBA hAA hsA
    have HW1 := Hid.mk' hW1
    have HS1 := Hid.mk' (HS.out.below HH.out hBA)
    have AC : Hid (∀ wx : World, Below W1.heap.size W1 wx → wx.cell? ⟨wr.heap.size, 0, none⟩ = some (nu k) ∧ wx.cell? ⟨wr.heap.size, 1, none⟩ = some (nu i) ∧ wx.cell? ⟨wr.heap.size, 2, none⟩ = some (nu kk) ∧ wx.cell? ⟨wr.heap.size, 3, none⟩ = some (nu j)) := fun wx hb => by
      have hx := (hb.block wr.heap.size (by omega)).trans hAA
      simp [World.cell?, hx]
    obtain ⟨y0, y1, y2, y3⟩ := AC.out W1 (Below.refl _ _)
    clear hcl hx hrg hm hW1 HS
    go_wp2_with (first | (refine wpList_load_rct rfl _ rfl gv (ov + q * 4) rfl k i kk j HRG.out ?_) | fail)
    rw [HW1.out]
    refine (cK.out _).mono ?_
    rintro e w9 ⟨rfl, hw9⟩
    subst w9
    clear cK HRG
    by_cases h4 : m = 4
    · have hm4 : (m == 4) = true := by simpa using h4
      obtain ⟨F1, G1, A1, A2, hp1, z1, z2, z3, z4⟩ := HS1.out.pr
      have hgd := hp1.good1
      have hl2 : A2.sl.length = 32 := by rw [← z1]; exact hgd.len
      have C1 := Hid.mk' (all_r bs W1 bs G1 A2 i hp1.ref hl2)
      obtain ⟨m40, hm40, hm40'⟩ : ∃ m40 : Nat, kk % 40 = m40 ∧ m40 < 40 := ⟨(kk % 40).toNat, by omega, by omega⟩
      have cK2 : Hid (∀ wx, Calls Tryd.prog 7 #[nu kk, nu 40] wx fun e w' => e = .returned (nun m40) ∧ w' = wx) := fun wx => by
        have := pick_any kk 40 wx (by decide) (by decide) f3
        rw [show ((40 : Nat) : Int) = 40 from rfl, hm40] at this
        exact this
      have C3 : Hid (∀ wx, Below W1.heap.size W1 wx → Calls Tryd.prog 9 #[ptr p, nu i] wx fun e w' => ∃ fv X, e = .returned fv ∧ IterA w' fv X (allL A2.sl i) ∧ (∀ b, X b → wx.heap.size ≤ b) ∧ Below wx.heap.size wx w') := fun wx hb => by
        have := CA wx p F1 A1 i ((hp1.below HH.out (keepA bs) hb).rep) hgd f2
        rwa [z1] at this
      have C4 : Hid (∀ wx, Below W1.heap.size W1 wx → Calls Tryd.prog 11 #[ptr p, nu i, nun m40] wx fun e w' => ∃ v, e = .returned v ∧ w'.ownsRow wx.heap.size 3 1 v ((allL A2.sl i).take m40).length (((allL A2.sl i).take m40).map nun) ∧ Below wx.heap.size wx w') := fun wx hb => by
        have := all_any HH.out CA wx p F1 A1 i m40 ((hp1.below HH.out (keepA bs) hb).rep) hgd f2 (by omega)
        rwa [z1] at this
      have hfew := allL_len A2.sl i
      obtain ⟨L4, hL4⟩ : ∃ L4, allL A2.sl i = L4 := ⟨_, rfl⟩
      rw [hL4] at C1 C3 C4 hfew
      obtain ⟨n7, hn7⟩ : ∃ n7, L4.length = n7 := ⟨_, rfl⟩
      rw [hn7] at C1 hfew
      have HN7 := Hid.mk' hn7
      clear h4 hL4 hn7 hm40 z1 z2 z3 z4 hgd hl2 hp1 hBA hAA f1 f2 f3 f4
      go_wp2_with fail
      refine C1.out.mono ?_
      rintro e w2 ⟨v7, rfl, ho7, hb2⟩
      obtain ⟨a7, c7, rfl, hc7, hc7', _⟩ := Nm.own_shape ho7
      have HO7 := Hid.mk' ho7
      have HB2 := Hid.mk' hb2
      obtain ⟨x0, x1, x2, x3⟩ := AC.out w2 hb2
      have C3' := Hid.mk' (C3.out w2 hb2)
      clear C1 C3 ho7 hb2 y0 y1 y2 y3
      unfold maxLen at hc7'
      go_wp2_with fail
      refine (cK2.out _).mono ?_
      rintro e w9 ⟨rfl, hw9⟩
      subst w9
      clear cK2
      go_wp2_with fail
      refine C3'.out.mono ?_
      rintro e w3 ⟨fv3, X, rfl, hit, hXn, hb3⟩
      obtain ⟨gf, lb, kk', rfl, hent, hXl, hsq⟩ := hit
      have HSQ := Hid.mk' hsq
      have hb13 : Below W1.heap.size W1 w3 := HB2.out.trans (hb3.mono HB2.out.size)
      have HB13 := Hid.mk' hb13
      have hO73 : w3.ownsRow W1.heap.size 3 1 (.slice a7 n7 c7) n7 (L4.map nun) := (Keep.of_below (F := fun _ => False) hb3).own HO7.out (fun _ _ h => h)
      have HO73 := Hid.mk' hO73
      obtain ⟨mn, hmn⟩ : ∃ mn : Nat, min m40 n7 = mn := ⟨_, rfl⟩
      have hmin : ∀ wx, (Builtin.min_ #[3, 3] 3 #[nun m40, .int .i64 (n7 : Int)]).run Tryd.prog wx = .ok (.int .i64 (mn : Int)) wx := fun wx => by
        rw [min_twoA]
        congr 3
        omega
      have hmn7 : mn ≤ n7 := by omega
      have hsl := slice_toN a7 n7 c7 mn (by omega)
      have HTK : Hid (L4.take mn = L4.take m40) := by
        show _ = _
        rw [← hmn, ← HN7.out]
        rcases Nat.le_total m40 L4.length with h | h
        · rw [Nat.min_eq_left h]
        · rw [Nat.min_eq_right h, List.take_of_length_le h, List.take_of_length_le (Nat.le_refl _)]
      obtain ⟨l6, hl6⟩ : ∃ l6, (L4.take m40).length = l6 := ⟨_, rfl⟩
      have C4' : Hid (∀ wx, Below w3.heap.size w3 wx → Calls Tryd.prog 11 #[ptr p, nu i, nun m40] wx fun e w' => ∃ a6 c6, e = .returned (.slice a6 l6 c6) ∧ w'.cell? ⟨wr.heap.size, 1, none⟩ = some (nu i) ∧ Hid (RdN w' (.slice a6 l6 c6) (L4.take m40) ∧ Below w3.heap.size w3 w')) := fun wx hb => by
        have hb1 : Below W1.heap.size W1 wx := HB13.out.trans (hb.mono HB13.out.size)
        refine (C4.out wx hb1).mono ?_
        rintro e w' ⟨v, rfl, ho, hb'⟩
        have hr := own_rdN ho
        obtain ⟨a6, c6, rfl, _⟩ := id hr
        rw [hl6] at hr ⊢
        exact ⟨a6, c6, rfl, (AC.out w' (hb1.trans (hb'.mono hb1.size))).2.1, hr, hb.trans (hb'.mono hb.size)⟩
      have C5 : Hid (∀ wx a6 c6, Hid (RdN wx (.slice a6 l6 c6) (L4.take m40) ∧ Below w3.heap.size w3 wx) → Calls Tryd.prog 10 #[.slice a6 l6 c6, .slice a7 mn c7] wx fun e w' => e = .returned (.bool true) ∧ w'.cell? ⟨wr.heap.size, 1, none⟩ = some (nu i) ∧ Hid (Below w3.heap.size w3 w')) := fun wx a6 c6 h => by
        have h7 : RdN wx (.slice a7 n7 c7) L4 := (own_rdN HO73.out).below h.out.2
        have h8 : RdN wx (.slice a7 mn c7) (L4.take m40) := by
          rw [← HTK.out]
          rw [← HN7.out] at h7
          exact RdN.take h7 mn (by rw [HN7.out]; exact hmn7)
        refine (sameN _ _ (L4.take m40) wx h.out.1 h8).mono ?_
        rintro e w' ⟨rfl, hb'⟩
        have hb3' : Below w3.heap.size w3 w' := h.out.2.trans (hb'.mono h.out.2.size)
        exact ⟨rfl, (AC.out w' (HB13.out.trans (hb3'.mono HB13.out.size))).2.1, hb3'⟩
      have hS3 := (AC.out w3 hb13).2.1
      clear hO73 C4 hb13 hb3 hsq C3' x0 x1 x2 x3 hmn hl6
      go_wp2_with fail
      refine wp_region_noPanic ?_
      refine wp_region_held_drew (S := fun w' => w'.cell? ⟨wr.heap.size, 1, none⟩ = some (nu i)) (by kernel_rfl) hS3 (fun hHeld => ?_)
      refine wpAnyH_take (i := 0) (v := ?_) rfl (by kernel_rfl) (by kernel_rfl) (by kernel_rfl) (fun _ _ _ h => h) (Or.inl ⟨by rfl, ?_⟩) hHeld ?_
      rotate_left
      · (intro w' hS'; go_simp <;> with_reducible rfl)
      simp only [Act.put, List.getElem_toArray, List.getElem_cons_succ, List.getElem_cons_zero, List.setIfInBounds_toArray, List.set]
      refine wpAnyH_take (i := 1) (v := ?_) rfl (by kernel_rfl) (by kernel_rfl) (by kernel_rfl) (fun _ _ _ h => h) (Or.inl ⟨by rfl, ?_⟩) hHeld ?_
      rotate_left
      · (intro w' hS'; go_simp <;> with_reducible rfl)
      simp only [Act.put, List.getElem_toArray, List.getElem_cons_succ, List.getElem_cons_zero, List.setIfInBounds_toArray, List.set]
      refine wpAnyH_take (i := 2) (v := ?_) rfl (by kernel_rfl) (by kernel_rfl) (by kernel_rfl) (fun _ _ _ h => h) (Or.inl ⟨by rfl, ?_⟩) hHeld ?_
      rotate_left
      · (intro w' hS'; go_simp <;> with_reducible rfl)
      simp only [Act.put, List.getElem_toArray, List.getElem_cons_succ, List.getElem_cons_zero, List.setIfInBounds_toArray, List.set]
      refine wpAnyH_take (i := 3) (v := ?_) rfl (by kernel_rfl) (by kernel_rfl) (by kernel_rfl) (fun _ _ _ h => h) (Or.inl ⟨by rfl, ?_⟩) hHeld ?_
      rotate_left
      · (intro w' hS'; go_simp <;> with_reducible rfl)
      simp only [Act.put, List.getElem_toArray, List.getElem_cons_succ, List.getElem_cons_zero, List.setIfInBounds_toArray, List.set]
      refine wpAnyH_take (i := 5) (v := ?_) rfl (by kernel_rfl) (by kernel_rfl) (by kernel_rfl) (fun _ _ _ h => h) (Or.inl ⟨by rfl, ?_⟩) hHeld ?_
      rotate_left
      · (intro w' hS'; go_simp <;> with_reducible rfl)
      simp only [Act.put, List.getElem_toArray, List.getElem_cons_succ, List.getElem_cons_zero, List.setIfInBounds_toArray, List.set]
      refine wpAnyH_take (i := 6) (v := ?_) rfl (by kernel_rfl) (by kernel_rfl) (by kernel_rfl) (fun _ _ _ h => h) (Or.inl ⟨by rfl, ?_⟩) hHeld ?_
      rotate_left
      · (intro w' hS'; go_simp <;> with_reducible rfl)
      simp only [Act.put, List.getElem_toArray, List.getElem_cons_succ, List.getElem_cons_zero, List.setIfInBounds_toArray, List.set]
      refine wpAnyH_take (i := 7) (v := ?_) rfl (by kernel_rfl) (by kernel_rfl) (by kernel_rfl) (fun _ _ _ h => h) (Or.inl ⟨by rfl, ?_⟩) hHeld ?_
      rotate_left
      · (intro w' hS'; go_simp <;> with_reducible rfl)
      simp only [Act.put, List.getElem_toArray, List.getElem_cons_succ, List.getElem_cons_zero, List.setIfInBounds_toArray, List.set]
      refine wpAnyH_take (i := 8) (v := ?_) rfl (by kernel_rfl) (by kernel_rfl) (by kernel_rfl) (fun _ _ _ h => h) (Or.inl ⟨by rfl, ?_⟩) hHeld ?_
      rotate_left
      · (intro w' hS'; go_simp <;> with_reducible rfl)
      simp only [Act.put, List.getElem_toArray, List.getElem_cons_succ, List.getElem_cons_zero, List.setIfInBounds_toArray, List.set]
      refine wpAnyH_take (i := 9) (v := ?_) rfl (by kernel_rfl) (by kernel_rfl) (by kernel_rfl) (fun _ _ _ h => h) (Or.inl ⟨by rfl, ?_⟩) hHeld ?_
      rotate_left
      · (intro w' hS'; go_simp <;> with_reducible rfl)
      simp only [Act.put, List.getElem_toArray, List.getElem_cons_succ, List.getElem_cons_zero, List.setIfInBounds_toArray, List.set]
      refine wpAnyH_take (i := 10) (v := ?_) rfl (by kernel_rfl) (by kernel_rfl) (by kernel_rfl) (fun _ _ _ h => h) (Or.inl ⟨by rfl, ?_⟩) hHeld ?_
      rotate_left
      · (intro w' hS'; go_simp <;> with_reducible rfl)
      simp only [Act.put, List.getElem_toArray, List.getElem_cons_succ, List.getElem_cons_zero, List.setIfInBounds_toArray, List.set]
      refine wpAnyH_ready (rs := [4]) (by kernel_rfl) (by simp) ?_
      refine AllReadyH.cons rfl (fun K hK => ?_) AllReadyH.nil
      go_simp
      refine (C4'.out _ (Below.refl _ _).drew).mono ?_
      rintro e w4 ⟨a6, c6, rfl, hS4, hQ4⟩
      go_wp2_with fail
      refine hK.out _ _ hS4 (fun hHeld => ?_)
      clear hK K
      refine wpAnyH_ready (rs := [11]) (by kernel_rfl) (by simp) ?_
      refine AllReadyH.cons rfl (fun K hK => ?_) AllReadyH.nil
      go_simp
      refine (C5.out _ _ _ hQ4).mono ?_
      rintro e w5 ⟨rfl, hS5, hQ5⟩
      go_wp2_with fail
      refine hK.out _ _ hS5 (fun hHeld => ?_)
      clear hK K
      refine wpAnyH_take (i := 12) (v := ?_) rfl (by kernel_rfl) (by kernel_rfl) (by kernel_rfl) (fun _ _ _ h => h) (Or.inl ⟨by rfl, ?_⟩) hHeld ?_
      rotate_left
      · (intro w' hS'; go_simp <;> with_reducible rfl)
      simp only [Act.put, List.getElem_toArray, List.getElem_cons_succ, List.getElem_cons_zero, List.setIfInBounds_toArray, List.set]
      refine wpAnyH_done (by kernel_rfl) ?_ _
      refine NoPanic.normal ?_
      clear hHeld
      clear hS3 hS4 hS5 hQ4 C4' C5 hmin hsl
      have HB15 : Hid (Below W1.heap.size W1 w5) := HB13.out.trans (hQ5.out.mono HB13.out.size)
      have HS5 : Hid (St Rep w p bs (q + 1) Ds w5) := (HS1.out.below HH.out HB15.out).more
      have hs35 := hQ5.out.size
      have C6 : Hid (∀ wx a1 c1, Below w5.heap.size w5 wx → RdN wx (.slice a1 n7 c1) L4 → Calls Tryd.prog 10 #[.slice a1 n7 c1, .slice a7 n7 c7] wx fun e w' => e = .returned (.bool true) ∧ Below wx.heap.size wx w') := fun wx a1 c1 hb h1 => sameN _ _ L4 wx h1 (((own_rdN HO73.out).below hQ5.out).below hb)
      clear HS1 HO7 HO73 HTK
      go_wp2_with fail
      refine Lm.wp_loopT (fun v => #[.slice (some ⟨gv, ov, none⟩) N cv, undef, .bool false, ptr p, ptr bs, nun q, .pointer (some ⟨wr.heap.size, 0, none⟩), .slice a7 n7 c7, nun m40, .func (.func gf) #[] lb, v 10, v 11, v 12, undef, undef, ptr p, ptr bs, .slice (some ⟨gv, ov, none⟩) N cv, .int .i64 (N : Int), .bool false, .bool false, ptr p, .bool false, .bool false, undef, undef, nun q, .slice (some ⟨gv, ov, none⟩) N cv, .int .i64 (N : Int), .bool true, u 30, u 31, .slice (some ⟨gv, ov, none⟩) N cv, nun q, .pointer (some ⟨gv, ov + q * 4, none⟩), .agg #[nu k, nu i, nu kk, nu j], .pointer (some ⟨wr.heap.size, 0, none⟩), .int .i64 k, nu m, u 39, u 40, u 41, u 42, u 43, .bool true, .bool true, ptr bs, .pointer (some ⟨wr.heap.size, 1, none⟩), nu i, .slice a7 n7 c7, .pointer (some ⟨wr.heap.size, 2, none⟩), nu kk, nun m40, ptr p, .pointer (some ⟨wr.heap.size, 1, none⟩), nu i, .func (.func gf) #[] lb, ptr p, .pointer (some ⟨wr.heap.size, 1, none⟩), nu i, nun m40, .slice a6 l6 c6, .slice a7 n7 c7, nun m40, .slice a7 n7 c7, .int .i64 (n7 : Int), .int .i64 (mn : Int), .slice a7 mn c7, .bool true, .bool false, v 70, v 71, v 72, v 73, v 74, v 75, v 76, v 77, v 78, v 79, v 80, v 81, v 82, v 83, u 84, u 85, u 86, u 87, u 88, u 89, u 90, u 91, u 92, u 93, u 94, undef, undef, undef, undef, undef, undef, undef, undef, undef, undef, undef, undef, undef]) (fun v ds wr2 => ∃ (t : Nat) (Es : List Nat), t ≤ 2 ∧ v 10 = nun t ∧ ds = Rf.marks Es ∧ Hid (St Rep w p bs (q + 1) Es wr2 ∧ Below w5.heap.size w5 wr2)) (fun v => 2 - (intOf (v 10)).toNat) (by kernel_rfl) ⟨0, Ds, by omega, rfl, rfl, HS5.out, Below.refl _ _⟩ ?_
      clear HS5
      rintro v ds wr2 ⟨t, Es, ht, hv10, rfl, HE⟩
      simp only [hv10]
      clear hv10
      have hs2 := HE.out.2.size
      by_cases ht2 : t < 2
      · have htI : (t : Int) < 2 := by omega
        go_wp2_with fail
        have s6 : (wr2.alloc (.cells #[.slice none 0 0] 30)).heap.size = wr2.heap.size + 1 := by simp
        have b1 : Boxed (wr2.alloc (.cells #[.slice none 0 0] 30)) wr2.heap.size 30 (.slice none 0 0) := Boxed.new wr2 _ _
        have q6 : Below wr2.heap.size wr2 (wr2.alloc (.cells #[.slice none 0 0] 30)) := (Below.refl _ wr2).alloc (Nat.le_refl _) _
        generalize wr2.alloc (.cells #[.slice none 0 0] 30) = W6 at *
        have hX6 : ∀ b, X b → b < wr2.heap.size := fun b hb => by have := hXl b hb; omega
        have HB36 : Hid (Below w3.heap.size w3 W6) := (hQ5.out.trans (HE.out.2.mono hs35)).trans (q6.mono (by omega))
        refine Rf.wp_range (L := L4) (w0 := W6) rfl hent (HSQ.out W6 HB36.out.size (fun b hb => HB36.out.block b (hXl b hb))) (Below.refl _ _) (fun _ => rfl) (fun b hb => by have := hX6 b hb; omega)
          (fun pre W' => ∃ v, Boxed W' wr2.heap.size 30 v ∧ W'.ownsRow (W6.heap.size + 2 + kk') 3 1 v pre.length (pre.map nun) ∧ Rf.But wr2.heap.size W6 W')
          (fun _ _ _ => False) ?rest (fun _ _ _ _ _ hs _ _ => hs)
          ⟨_, b1, World.ownsRow_nil _ _ _ _, Rf.But.refl _ _⟩ ?act ?assign ?body ?done (fun _ _ _ _ h _ => h.elim)
        case assign =>
          intro l' x W2 K hK
          gi_wp2
          exact hK
        case rest =>
          rintro pre A B row ⟨v, h2, h4, h5⟩ hg hr
          exact ⟨v, h2.kept hg (fun e => by have := (hr _ e.symm).1; omega), hr.row h4 (Nat.le_refl _) hg, h5.rest (by omega) hg hr⟩
        case body =>
          rintro l' pre x W2 hpre hsz ⟨v, h2, h4, h5⟩
          have hc2 := h2.cell
          have hl64 : pre.length < 33 := by
            have h1 := hpre.length_le
            have h2 := HN7.out
            simp at h1; omega
          have HSp : Hid ((pre ++ [x]).map nun = pre.map nun ++ [nun x]) := by show _ = _; simp
          have HLn : Hid ((pre ++ [x]).length = pre.length + 1) := by show _ = _; simp
          obtain ⟨mm, hmm⟩ : ∃ mm, pre.length = mm := ⟨_, rfl⟩
          rw [hmm] at h4 hl64 HLn
          clear hmm
          gi_wp2_with (gi_at_builtin; refine wpListIn_append_own _ rfl _ _ 30 rfl (W6.heap.size + 2 + kk') 3 i0 (.int .i64 0) 1 8 Tryd.underlying30 ji hz0 hz1 hz2 rfl (by decide) _ _ _ rfl (h4.alloc _) ⟨W2.heap.size, 0, none⟩ 1 1 [nun x] rfl rfl (cell_one_new _ _ _) (by simp [Value.oneCell']) (by unfold maxLen; omega) (by omega) (by simp; omega) ?_; intro v' w1 hown' hgrow _; obtain ⟨g', cap', rfl⟩ := ownsRow_succ hown'; obtain ⟨hv1, hv2, hr2, hk2, hb2, ho2⟩ := Rf.collected (X := X) (lo := W6.heap.size) (n := wr2.heap.size) h2 (by decide) h4 (by omega) (fun h => by have := hX6 _ h; omega) (fun b hb => by have := hX6 b hb; omega) (by omega) hsz (Nat.le_refl _) hown' hgrow; have hbt := Rf.But.step (v' := .slice (some ⟨g', 0, none⟩) (mm + 1) cap') h5 h4 (by omega) hsz (by omega) hgrow; have hc1 := hv1.cell; have hf1 := hv1.frozen)
          exact ⟨hk2, _, hv2, by rw [HSp.out, HLn.out]; exact hr2, hbt⟩
        case done =>
          rintro W7 ⟨v1, h2, h4, h5⟩ hK7
          have hb7 : Below wr2.heap.size wr2 W7 := q6.trans h5.1
          have hc1 := h2.cell
          have HS7 : Hid (St Rep w p bs (q + 1) ((wr2.heap.size + 1) :: Es) W7) := HE.out.1.marked HH.out hb7 (by omega) (by rw [← s6]; exact hK7)
          have hb57 : Below w5.heap.size w5 W7 := HE.out.2.trans (hb7.mono hs2)
          have HB57 := Hid.mk' hb57
          have r1 : RdN W7 v1 L4 := own_rdN h4
          obtain ⟨a1, c1, hv1, _⟩ := id r1
          rw [HN7.out] at hv1
          subst hv1
          have C7 := Hid.mk' (C6.out W7 a1 c1 hb57 r1)
          clear h2 h4 h5 hK7 hb7 b1 q6 r1 hb57 HB36
          go_wp2_with fail
          refine C7.out.mono ?_
          rintro e w9 ⟨rfl, hb9⟩
          have HS9 : Hid (St Rep w p bs (q + 1) ((wr2.heap.size + 1) :: Es) w9 ∧ Below w5.heap.size w5 w9) := ⟨HS7.out.below HH.out hb9, HB57.out.trans (hb9.mono HB57.out.size)⟩
          clear hb9 C7 HS7 HB57
          go_wp2
          refine ⟨⟨⟨t + 1, (wr2.heap.size + 1) :: Es, by omega, ?num1, rfl, HS9⟩, by kernel_rfl⟩, ?meas1⟩
          case num1 => (show Value.int IntKind.i64 ((t : Int) + 1) = nun (t + 1)); go_num
          case meas1 => (show 2 - (intOf (Value.int IntKind.i64 ((t : Int) + 1))).toNat < 2 - (intOf (nun t)).toNat); simp [intOf]; omega
      · obtain rfl : t = 2 := by omega
        have C8 := Hid.mk' (cS.out wr2 p bs (q + 1) Es HE.out.1)
        clear HE C6 HSQ hXl hXn hQ5
        go_wp2_with fail
        refine C8.out.mono ?_
        rintro e w6 ⟨rfl, hS6⟩
        clear C8
        go_wp2
        refine ⟨⟨⟨q + 1, Es, by omega, ?num2, rfl, hS6⟩, by kernel_rfl⟩, ?meas2⟩
        case num2 => (show Value.int IntKind.i64 ((q : Int) + 1) = nun (q + 1)); go_num
        case meas2 => (show N - (intOf (Value.int IntKind.i64 ((q : Int) + 1))).toNat < N - (intOf (nun q)).toNat); simp [intOf]; omega
    have hm4 : (m == 4) = false := by simpa using h4
    by_cases h5 : m = 5
    · have hm5 : (m == 5) = true := by simpa using h5
      have C1 := Hid.mk' (cU.out W1 p bs q Ds k i kk j HS1.out (by omega) f2)
      clear h4 h5 f1 f2 f3 f4 HS1 hBA hAA
      go_wp2_with fail
      refine C1.out.mono ?_
      rintro e w5 ⟨rfl, hS5⟩
      have C2 := Hid.mk' (cS.out w5 p bs (q + 1) Ds hS5.out)
      clear hS5 C1 y0 y1 y2 y3
      go_wp2_with fail
      refine C2.out.mono ?_
      rintro e w6 ⟨rfl, hS6⟩
      clear C2
      go_wp2
      refine ⟨⟨⟨q + 1, Ds, by omega, ?num3, rfl, hS6⟩, by kernel_rfl⟩, ?meas3⟩
      case num3 => (show Value.int IntKind.i64 ((q : Int) + 1) = nun (q + 1)); go_num
      case meas3 => (show N - (intOf (Value.int IntKind.i64 ((q : Int) + 1))).toNat < N - (intOf (nun q)).toNat); simp [intOf]; omega
    · have hm5 : (m == 5) = false := by simpa using h5
      have C1 := Hid.mk' (cD.out W1 p bs q Ds k i kk j HS1.out (by omega) f1 f2 f3)
      clear h4 h5 f1 f2 f3 f4 HS1 hBA hAA
      go_wp2_with fail
      refine C1.out.mono ?_
      rintro e w5 ⟨rfl, hS5⟩
      have C2 := Hid.mk' (cS.out w5 p bs (q + 1) Ds hS5.out)
      clear hS5 C1 y0 y1 y2 y3
      go_wp2_with fail
      refine C2.out.mono ?_
      rintro e w6 ⟨rfl, hS6⟩
      clear C2
      go_wp2
      refine ⟨⟨⟨q + 1, Ds, by omega, ?num4, rfl, hS6⟩, by kernel_rfl⟩, ?meas4⟩
      case num4 => (show Value.int IntKind.i64 ((q : Int) + 1) = nun (q + 1)); go_num
      case meas4 => (show N - (intOf (Value.int IntKind.i64 ((q : Int) + 1))).toNat < N - (intOf (nun q)).toNat); simp [intOf]; omega
  · have hqI : ¬ (q : Int) < (N : Int) := by omega
    obtain ⟨F1, G1, A1, A2, hp1, z1, z2, z3, z4⟩ := HS.out.pr
    have hBA : Below wr.heap.size wr (wr.alloc (.cells #[.slice none 0 0] 30)) := (Below.refl _ _).alloc (Nat.le_refl _) _
    have b0 : Boxed (wr.alloc (.cells #[.slice none 0 0] 30)) wr.heap.size 30 (.slice none 0 0) := Boxed.new wr _ _
    have s0 : (wr.alloc (.cells #[.slice none 0 0] 30)).heap.size = wr.heap.size + 1 := by simp
    obtain ⟨W0, hW0⟩ : ∃ W0, wr.alloc (.cells #[.slice none 0 0] 30) = W0 := ⟨_, rfl⟩
    rw [hW0] at hBA b0 s0
    have HW0 := Hid.mk' hW0
    have hfew := hp1.good1.few
    have C1 := Hid.mk' (CF W0 p F1 A1 (H.below hp1.rep hBA) hp1.good1)
    obtain ⟨sv2, fv2, hRA, _, _⟩ := hp1.ref
    have HRA := Hid.mk' hRA
    obtain ⟨lf, hlf⟩ : ∃ lf, A1.fr = lf := ⟨_, rfl⟩
    rw [hlf] at C1 hfew
    have hl2 : A2.fr = lf := by rw [← z2, hlf]
    have HL2 := Hid.mk' hl2
    clear hW0 hlf hl2 z1 z2 z3 z4 hRA hp1
    go_wp2_with fail
    rw [HW0.out]
    refine C1.out.mono ?_
    rintro e W6 ⟨fv3, X, rfl, ⟨gf, lb, kk', rfl, hent, hXl, hsq⟩, hXn, hb6⟩
    have HSQ := Hid.mk' (hsq W6 (Nat.le_refl _) (fun _ _ => rfl))
    have s6 := hb6.size
    have b1 : Boxed W6 wr.heap.size 30 (.slice none 0 0) := (hb6.block _ (by omega)).trans b0
    have q6 : Below wr.heap.size wr W6 := hBA.trans (hb6.mono hBA.size)
    have hX6 : ∀ b, X b → wr.heap.size < b ∧ b < W6.heap.size := fun b hb => ⟨by have := hXn b hb; omega, hXl b hb⟩
    clear hsq C1 hb6 hBA
    go_wp2_with fail
    refine Rf.wp_range (L := lf) (w0 := W6) rfl hent HSQ.out (Below.refl _ _) (fun _ => rfl) (fun b hb => (hX6 b hb).2)
      (fun pre W' => ∃ v, Boxed W' wr.heap.size 30 v ∧ W'.ownsRow (W6.heap.size + 2 + kk') 3 1 v pre.length (pre.map nun) ∧ Rf.But wr.heap.size W6 W')
      (fun _ _ _ => False) ?rest9 (fun _ _ _ _ _ hs _ _ => hs)
      ⟨_, b1, World.ownsRow_nil _ _ _ _, Rf.But.refl _ _⟩ ?act9 ?assign9 ?body9 ?done9 (fun _ _ _ _ h _ => h.elim)
    case assign9 =>
      intro l' x W2 K hK
      gi_wp2
      exact hK
    case rest9 =>
      rintro pre A B row ⟨v, h2, h4, h5⟩ hg hr
      exact ⟨v, h2.kept hg (fun e => by have := (hr _ e.symm).1; omega), hr.row h4 (Nat.le_refl _) hg, h5.rest (by omega) hg hr⟩
    case body9 =>
      rintro l' pre x W2 hpre hsz ⟨v, h2, h4, h5⟩
      have hc2 := h2.cell
      have hl64 : pre.length < 33 := by
        have h1 := hpre.length_le
        have h2 := hfew
        simp at h1; omega
      have HSp : Hid ((pre ++ [x]).map nun = pre.map nun ++ [nun x]) := by show _ = _; simp
      have HLn : Hid ((pre ++ [x]).length = pre.length + 1) := by show _ = _; simp
      obtain ⟨mm, hmm⟩ : ∃ mm, pre.length = mm := ⟨_, rfl⟩
      rw [hmm] at h4 hl64 HLn
      clear hmm
      gi_wp2_with (gi_at_builtin; refine wpListIn_append_own _ rfl _ _ 30 rfl (W6.heap.size + 2 + kk') 3 i0 (.int .i64 0) 1 8 Tryd.underlying30 ji hz0 hz1 hz2 rfl (by decide) _ _ _ rfl (h4.alloc _) ⟨W2.heap.size, 0, none⟩ 1 1 [nun x] rfl rfl (cell_one_new _ _ _) (by simp [Value.oneCell']) (by unfold maxLen; omega) (by omega) (by simp; omega) ?_; intro v' w1 hown' hgrow _; obtain ⟨g', cap', rfl⟩ := ownsRow_succ hown'; obtain ⟨hv1, hv2, hr2, hk2, hb2, ho2⟩ := Rf.collected (X := X) (lo := W6.heap.size) (n := wr.heap.size) h2 (by decide) h4 (by omega) (fun h => by have := hX6 _ h; omega) (fun b hb => by have := hX6 b hb; omega) (by omega) hsz (Nat.le_refl _) hown' hgrow; have hbt := Rf.But.step (v' := .slice (some ⟨g', 0, none⟩) (mm + 1) cap') h5 h4 (by omega) hsz (by omega) hgrow; have hc1 := hv1.cell; have hf1 := hv1.frozen)
      exact ⟨hk2, _, hv2, by rw [HSp.out, HLn.out]; exact hr2, hbt⟩
    case done9 =>
      rintro W7 ⟨v1, h2, h4, h5⟩ hK7
      have hb7 : Below wr.heap.size wr W7 := q6.trans h5.1
      have HS7 : Hid (St Rep w p bs q (W6.heap.size :: Ds) W7) := HS.out.marked HH.out hb7 (by omega) hK7
      have hR7 := HRA.out.below hb7
      have r1 : RdN W7 v1 lf := own_rdN h4
      have r2 : RdN W7 fv2 lf := by rw [← HL2.out]; exact own_rdN hR7.fr
      have z1 := hR7.cells.2.1
      have hc1 := h2.cell
      have hl7 := (Array.getElem?_eq_some_iff.1 h2).1
      have hg7 := hR7.glt
      have CS7 : Hid (∀ wx, Below W7.heap.size W7 wx → Calls Tryd.prog 10 #[v1, fv2] wx fun e w' => e = .returned (.bool true) ∧ (w'.cell? ⟨wr.heap.size, 0, none⟩ = some v1 ∧ w'.cell? ⟨bs, 1, none⟩ = some fv2) ∧ Hid (St Rep w p bs q (W6.heap.size :: Ds) w')) := fun wx hx => by
        refine (sameN v1 fv2 lf wx (r1.below hx) (r2.below hx)).mono ?_
        rintro e w' ⟨rfl, hb'⟩
        have hb2 : Below W7.heap.size W7 w' := hx.trans (hb'.mono hx.size)
        exact ⟨rfl, ⟨(hb2.cell (p := ⟨wr.heap.size, 0, none⟩) hl7).trans hc1, (hb2.cell (p := ⟨bs, 1, none⟩) hg7).trans z1⟩, HS7.out.below HH.out hb2⟩
      obtain ⟨a1, c1, hv1, _⟩ := r1
      obtain ⟨a2, c2, hv2, _⟩ := r2
      obtain ⟨nf, hnf⟩ : ∃ nf, lf.length = nf := ⟨_, rfl⟩
      rw [hnf] at hv1 hv2
      subst hv1 hv2
      have hS7 : W7.cell? ⟨wr.heap.size, 0, none⟩ = some (.slice a1 nf c1) ∧ W7.cell? ⟨bs, 1, none⟩ = some (.slice a2 nf c2) := ⟨hc1, z1⟩
      clear h2 h4 h5 hK7 hb7 hR7 hc1 z1 hnf hl7 hg7 b0 b1 q6 hX6 HSQ
      go_wp2_with fail
      go_region_held3 (fun w' => w'.cell? ⟨wr.heap.size, 0, none⟩ = some (.slice a1 nf c1) ∧ w'.cell? ⟨bs, 1, none⟩ = some (.slice a2 nf c2)) (first | assumption | exact hS7 | go_keep) (first | (go_at_call 10; with_reducible refine (CS7.out _ ?hb).mono ?_; (case hb => (first | exact Below.refl _ _ | exact (Below.refl _ _).drew | fail)); rintro e w9 ⟨rfl, hS9, hQ9⟩) | fail)
      clear hS7 hS9 CS7 HS7
      go_wp2
      have hbw := hQ9.out.bel
      exact Rf.leaves_marks (B := w.heap.size) (Ds := W6.heap.size :: Ds) hQ9.out.op hbw.size (fun W' hW' => ⟨_, results_tmp rfl _ _ _, rfl, hbw.trans hW'⟩)
end Rg
end Go.Proofs.YtckgecmcjnhceaaDoor
