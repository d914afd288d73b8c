/- SwpW, SwpN, SwpX, in one text. -/
import Derived.Test.YthabnombfbehkaaDoorSwpO
import Derived.Test.YthabnombfbehkaaDoorArnG
/- The law's works: of two slots, hung below one another, cut and put into the garbage. -/
namespace Go.Proofs.YthabnombfbehkaaDoor
set_option linter.ambiguousOpen false
open Go.RowKit
namespace Sw
open An Rg Ft Lv
set_option linter.unusedSimpArgs false
set_option linter.unusedVariables false

theorem rdU_new (w : World) (l : List Int) (cs : Array Value) (hcs : cs.toList = l.map nu) (n : Nat) (hn : l.length = n) (h32 : n ≤ 1000) : RdU (w.alloc (.cells cs 3)) (.slice (some ⟨w.heap.size, 0, none⟩) n n) l := by
  have hsz : cs.size = n := by rw [← Array.length_toList, hcs, List.length_map, hn]
  exact own_rdU (base := w.heap.size) (n := n) ⟨by simp [hn], .inr ⟨w.heap.size, n, cs, rfl, Nat.le_refl _, heap_alloc_new _ _, Nat.le_refl _, by unfold maxLen; omega, by omega, by rw [hcs, Nat.mul_one, List.take_of_length_le (by simp [hn])]⟩⟩

set_option maxRecDepth 100000 in
theorem funcG_nn (gf : Nat) (lb : Array Value) (w : World) : (binOp .neq 40 (.func (.func gf) #[] lb) .nilFunc).run Tryd.prog w = .ok (.bool true) w := by kernel_rfl

theorem unit_none (S : List Slt) (fr : List Nat) : unitG S fr (-1) = ⟨0, false, S, fr, -1⟩ := if_pos (.inl rfl)

theorem ring_len {S : List Slt} {tl : Int} {up : List Int} {Q : List Nat} (h : Sg S tl up Q) : S.length = 32 := h.hg.len

/-- The two slots. -/
theorem works_plain {S : List Slt} {tl : Int} {m : Nat} (h : Tr.Hg S tl (upP [0, 1] 2).length (Tr.kidsU (upP [0, 1] 2) (-1) (-1)) (fun j => Tr.kidsU (upP [0, 1] 2) j (-1))) (hu : Tr.Ups (upP [0, 1] 2)) :
    ∃ S1 tl1 S2 S3 S4, S1.length = 32 ∧ S2.length = 32 ∧ Tr.cutT S tl 0 = ⟨0, -1, S1, tl1⟩ ∧ addG S1 (-1) 0 = ⟨0, -1, S2, 0⟩ ∧ unitG S2 ((List.range 32).drop 2) 0 = ⟨0, true, S3, 0 :: (List.range 32).drop 2, 1⟩ ∧ unitG S3 (0 :: (List.range 32).drop 2) 1 = ⟨1, true, S4, 1 :: 0 :: (List.range 32).drop 2, -1⟩ := by
  obtain ⟨S1, tl1, S2, e1, e2, e3⟩ := (Sg.start h).cut hu (c := 0) (by decide) (by simp)
  have hlen1 : S1.length = 32 := by
    have := Tr.cutT_len S tl 0
    rw [show Tr.cutT S tl 0 = ⟨0, -1, S1, tl1⟩ from e1] at this
    exact this.trans h.len
  obtain ⟨W, f1, _, _⟩ := e3.order hu
  have k0 : kidsQ (upP [0, 1] 2) (0 : Nat) ([] ++ [0]) = [1] := by decide +kernel
  have k1 : kidsQ (upP [0, 1] 2) (1 : Nat) ([] ++ [0]) = [] := by decide +kernel
  obtain ⟨W1, rfl⟩ : ∃ W1, W = 0 :: W1 := by
    have hb := f1.bf
    cases hb with
    | cons hb => exact ⟨_, rfl⟩
  obtain ⟨S3, u1, f2, _, _⟩ := f1.unit (fr := (List.range 32).drop 2) (by decide)
  try dsimp only at u1 f2
  rw [k0] at u1 f2
  obtain ⟨W2, rfl⟩ : ∃ W2, W1 = 1 :: W2 := by
    have hb := f2.bf
    cases hb with
    | cons hb => exact ⟨_, rfl⟩
  obtain ⟨S4, u2, f3, _, _⟩ := f2.unit (fr := 0 :: (List.range 32).drop 2) (by decide)
  try dsimp only at u2
  rw [k1] at u2
  exact ⟨S1, tl1, S2, S3, S4, hlen1, ring_len e3, e1, e2, u1, u2⟩

set_option maxRecDepth 100000 in
set_option maxHeartbeats 4000000 in
theorem works_any {Rep : World → Nat → (Nat → Prop) → Arn → Prop} {R : RepTy} {T : R3Ty} (CN : NewC Rep) (C : OnceC Rep R T) (w : World) :
    Calls Tryd.prog 5 #[] w fun e w' => e = .returned (.bool true) ∧ Below w.heap.size w w' := by
  have hB0 : Below w.heap.size w (w.alloc (.cells #[nu 0, nu 1] 3)) := (Below.refl _ _).alloc (Nat.le_refl _) _
  have c1 := Hid.mk' (hung_any CN C.toHungC _ [0, 1] (w.alloc (.cells #[nu 0, nu 1] 3)) (rdU_new w [0, 1] _ rfl 2 rfl (by omega)) (by intro x hx; simp at hx; rcases hx with rfl | rfl <;> exact ⟨by decide, by decide⟩))
  obtain ⟨W0, hW0⟩ : ∃ W0, w.alloc (.cells #[nu 0, nu 1] 3) = W0 := ⟨_, rfl⟩
  rw [hW0] at c1 hB0
  have HW0 := Hid.mk' hW0
  have HB0 := Hid.mk' hB0
  have HC := Hid.mk' C
  clear hW0 hB0 CN C
  go_enter Tryd.func5, Tryd.ntmps5
  go_wp2_with fail
  rw [HW0.out]
  refine c1.out.mono ?_
  rintro e w1 ⟨p, q, a, c, n, rfl, hQ1⟩
  obtain ⟨hn, S, m, tl, hh, hm, hg, ho, hu, hul, _⟩ := hQ1.out
  have hn2 : n = 2 := by rw [hn]; rfl
  subst hn2
  obtain ⟨S1, tl1, S2, S3, S4, l1, l2, e1, e2, e3, e4⟩ := works_plain (m := m) hg hu
  have hul2 := upP_len [0, 1] 2
  rw [hul2] at hh hm
  have c2 := Hid.mk' (hh.cut2 HC.out (by show m ≤ 100000; omega) 0 ⟨by decide, by decide⟩ l1 e1)
  have E2 := Hid.mk' e2
  have E3 := Hid.mk' e3
  have E4 := Hid.mk' e4
  have L2 := Hid.mk' l2
  have i0 : Hid (I64 0) := ⟨by decide, by decide⟩
  clear hQ1 hn hh hg ho hu hul e1 e2 e3 e4 l1 l2 c1 hul2
  go_wp2_with fail
  refine c2.out.mono ?_
  rintro e w2 ⟨rfl, hQ2⟩
  obtain ⟨n2, hn2, hh2, _⟩ := hQ2.out
  have c3 := Hid.mk' (hh2.newG HC.out)
  clear hQ2 hh2 c2
  go_wp2_with fail
  refine c3.out.mono ?_
  rintro e w3 ⟨r, rfl, hQ3⟩
  have c4 := Hid.mk' (hQ3.out.1.addG HC.out (by show m + n2 ≤ 100000; omega) (.inl rfl) 0 i0.out L2.out E2.out)
  clear hQ3 c3
  go_wp2_with fail
  refine c4.out.mono ?_
  rintro e w4 ⟨rfl, hQ4⟩
  obtain ⟨n4, hn4, hh4, _⟩ := hQ4.out
  have c5 := Hid.mk' (hh4.unit HC.out (by show m + n2 + n4 ≤ 100000; omega) (.inr ⟨by omega, by omega⟩) E3.out)
  clear hQ4 hh4 c4
  go_wp2_with fail
  refine c5.out.mono ?_
  rintro e w5 ⟨rfl, hQ5⟩
  obtain ⟨n5, hn5, hh5, _⟩ := hQ5.out
  have c6 := Hid.mk' (hh5.unit HC.out (by show m + n2 + n4 + n5 ≤ 100000; omega) (.inr ⟨by show (0:Int) ≤ 1; omega, by show (1:Int) < 32; omega⟩) E4.out)
  clear hQ5 hh5 c5
  go_wp2_with fail
  refine c6.out.mono ?_
  rintro e w6 ⟨rfl, hQ6⟩
  obtain ⟨n6, hn6, hh6, _⟩ := hQ6.out
  have c7 := Hid.mk' (hh6.unit HC.out (by show m + n2 + n4 + n5 + n6 ≤ 100000; omega) (.inl rfl) (unit_none _ _))
  clear hQ6 hh6 c6
  go_wp2_with fail
  refine c7.out.mono ?_
  rintro e w7 ⟨rfl, hQ7⟩
  obtain ⟨n7, hn7, hh7, _⟩ := hQ7.out
  have c8 := Hid.mk' (hh7.frees3 HC.out)
  clear hQ7 hh7 c7
  go_wp2_with fail
  refine c8.out.mono ?_
  rintro e w8 ⟨gf, lb, rfl, hQ8⟩
  have hnf := funcG_nn gf lb
  have c9 : Hid (Calls Tryd.prog 21 #[ptr r] w8 fun e w' => ∃ gf lb, e = .returned (.func (.func gf) #[] lb) ∧ Below W0.heap.size W0 w') := by
    obtain ⟨F, h1, h2, h3, h4, h5⟩ := hQ8.out.1
    refine (HC.out.all q tl1 w8 p r F _ (-1) h1 h2 (.inl rfl)).mono ?_
    rintro e w' ⟨fv, X, rfl, hit, hX, hb⟩
    obtain ⟨gf, lb, k, rfl, rest⟩ := hit
    exact ⟨gf, lb, rfl, h5.trans (hb.mono h5.size)⟩
  clear hQ8 c8
  go_wp2_with fail
  refine c9.out.mono ?_
  rintro e w9 ⟨gf9, lb9, rfl, hb9⟩
  have hnf9 := funcG_nn gf9 lb9
  have HB9 := Hid.mk' hb9
  clear hb9 c9
  go_wp2
  go_ret
  exact ⟨rfl, HB0.out.trans (HB9.out.mono HB0.out.size)⟩
end Sw
end Go.Proofs.YthabnombfbehkaaDoor
/- The chapter's examples in states that are reckoned. -/
namespace Go.Proofs.YthabnombfbehkaaDoor
set_option linter.ambiguousOpen false
open Go.RowKit
namespace Sw
open An Rg Ft Lv
set_option linter.unusedSimpArgs false
set_option linter.unusedVariables false

theorem tans_eq (x : Tr.TAns) (h1 : x.no = 0) (h2 : x.pl = -1) : x = ⟨0, -1, x.sl, x.last⟩ := by
  cases x
  simp_all

/-! ### The states -/

def n0 : List Slt × Int := hAll (upP [0, 1, 1, 2, 0] 5)

def n1 : Tr.TAns := Tr.cutT n0.1 n0.2 0

def n2 : Tr.TAns := Tr.cutT n1.sl n1.last 4

def n3 : GAns := addG n2.sl (-1) 0

def n4 : GAns := addG n3.sl 0 4

def n5 : GAns := addG n4.sl 4 0

def n6 : GAns := addG n5.sl 4 9

def n7 : GAns := addG n6.sl 4 32

def nU : Nat → UAns
  | 0 => ⟨0, false, n7.sl, (List.range 32).drop 5, 4⟩
  | k + 1 => unitG (nU k).sl (nU k).fr (nU k).last

theorem n7_eq : addG n6.sl 4 32 = n7 := by unfold n7; rfl

theorem n_cut : (n1.no = 0 ∧ n1.pl = -1) ∧ (n2.no = 0 ∧ n2.pl = -1) := by decide +kernel

theorem n_add : (n3.no = 0 ∧ n3.pl = -1 ∧ n3.last = 0) ∧ (n4.no = 0 ∧ n4.pl = -1 ∧ n4.last = 4) ∧ (n5.no = 9 ∧ n5.pl = -1 ∧ n5.last = 4) ∧ (n6.no = 10 ∧ n6.pl = -1 ∧ n6.last = 4) ∧ (n7.no = 1 ∧ n7.pl = -1 ∧ n7.last = 4) := by decide +kernel

theorem n_all : allG n7.sl 4 = [0, 4, 1, 2, 3] := by decide +kernel

theorem n_unit : ∀ k, k < 5 → (nU (k + 1)).f = [0, 4, 1, 2, 3].getD k 0 ∧ (nU (k + 1)).ok = true ∧ ((nU k).last = -1 ∨ 0 ≤ (nU k).last ∧ (nU k).last < 32) := by decide +kernel

theorem n_end : (nU 5).last = -1 ∧ (nU 5).fr = [3, 2, 1, 4, 0] ++ (List.range 32).drop 5 := by decide +kernel

section
variable {Rep : World → Nat → (Nat → Prop) → Arn → Prop} {R : RepTy} {T : R3Ty} {w0 w w' : World} {p q r : Nat} {A : Arn} {tl gl : Int} {B : Nat → Prop}

/-- Add, whatever it answers. -/
theorem Hs.addR (C : OnceC Rep R T) (h : Hs (T.rt r gl) w0 w p q A tl B) (hw : A.wr ≤ 100000) (hok : okL gl) (i : Int) (hi : I64 i) {G : GAns} (he : Sw.addG A.sl gl i = G) {no : Nat} (h1 : G.no = no) (h2 : G.pl = -1) {gl' : Int} (h3' : G.last = gl') :
    Calls Tryd.prog 10 #[ptr r, nu i] w fun e w' => e = .returned (errP no (-1)) ∧ Hid (∃ n, n ≤ 3 ∧ Hs (T.rt r gl') w0 w' p q ⟨G.sl, A.fr, A.wr + n⟩ tl B ∧ Same B w w') := by
  obtain ⟨F, g1, g2, g3, g4, g5⟩ := h
  have := C.addG w p q r F A tl gl i g1 g2 hok (by omega) hi
  have hg := fun n => add_good g2 gl i n
  rw [he] at this hg
  rw [h1, h2, h3'] at this
  refine this.mono ?_
  rintro e w' ⟨rfl, n, hn, hl⟩
  exact ⟨rfl, n, hn, left_hs g3 g4 g5 hl (hg _)⟩

/-- An error is told. -/
theorem Hs.told (C : OnceC Rep R T) (hE : Er.Handle w0) (h : Hs (T.rt r gl) w0 w p q A tl B) (no : Nat) (h1 : no ≤ 24) :
    Calls Tryd.prog 11 #[errP no (-1), nun no, nu (-1)] w fun e w' => e = .returned (.bool true) ∧ Hid (Hs (T.rt r gl) w0 w' p q A tl B) := by
  refine (told19 no (-1) h1 (fun h => by omega) w (hE.below h.bel)).mono ?_
  rintro e w' ⟨rfl, hb⟩
  exact ⟨rfl, h.below3 C hb⟩
end
end Sw
end Go.Proofs.YthabnombfbehkaaDoor
/- The chapter's examples: SweepKnown out of what the program's calls must answer. -/
namespace Go.Proofs.YthabnombfbehkaaDoor
set_option linter.ambiguousOpen false
open Go.RowKit
namespace Sw
open An Rg Ft Lv
set_option linter.unusedSimpArgs false
set_option linter.unusedVariables false
attribute [local go_sem] Oper.semAt_some

/-- The states of the examples, as letters. -/
structure Kn (S0 : List Slt) (t0 : Int) (S1 : List Slt) (t1 : Int) (S2 : List Slt) (t2 : Int) (G3 G4 G5 G6 G7 : GAns) (U : Nat → UAns) : Prop where
  h0 : hAll (upP [0, 1, 1, 2, 0] 5) = (S0, t0)
  c1 : Tr.cutT S0 t0 0 = ⟨0, -1, S1, t1⟩
  c2 : Tr.cutT S1 t1 4 = ⟨0, -1, S2, t2⟩
  a3 : addG S2 (-1) 0 = G3
  a4 : addG G3.sl 0 4 = G4
  a5 : addG G4.sl 4 0 = G5
  a6 : addG G5.sl 4 9 = G6
  a7 : addG G6.sl 4 32 = G7
  n3 : G3.no = 0 ∧ G3.pl = -1 ∧ G3.last = 0
  n4 : G4.no = 0 ∧ G4.pl = -1 ∧ G4.last = 4
  n5 : G5.no = 9 ∧ G5.pl = -1 ∧ G5.last = 4
  n6 : G6.no = 10 ∧ G6.pl = -1 ∧ G6.last = 4
  n7 : G7.no = 1 ∧ G7.pl = -1 ∧ G7.last = 4
  all : allG G7.sl 4 = [0, 4, 1, 2, 3]
  u0 : U 0 = ⟨0, false, G7.sl, (List.range 32).drop 5, 4⟩
  us : ∀ k, unitG (U k).sl (U k).fr (U k).last = U (k + 1)
  un : ∀ k, k < 5 → (U (k + 1)).f = [0, 4, 1, 2, 3].getD k 0 ∧ (U (k + 1)).ok = true ∧ okL (U k).last
  ul : (U 5).last = -1
  uf : (U 5).fr = [3, 2, 1, 4, 0] ++ (List.range 32).drop 5

theorem kn_ex : ∃ S0 t0 S1 t1 S2 t2 G3 G4 G5 G6 G7 U, Kn S0 t0 S1 t1 S2 t2 G3 G4 G5 G6 G7 U :=
  ⟨n0.1, n0.2, n1.sl, n1.last, n2.sl, n2.last, n3, n4, n5, n6, n7, nU, {
    h0 := rfl
    c1 := tans_eq n1 n_cut.1.1 n_cut.1.2
    c2 := tans_eq n2 n_cut.2.1 n_cut.2.2
    a3 := by unfold n3; rfl
    a4 := by unfold n4; rfl
    a5 := by unfold n5; rfl
    a6 := by unfold n6; rfl
    a7 := n7_eq
    n3 := n_add.1
    n4 := n_add.2.1
    n5 := n_add.2.2.1
    n6 := n_add.2.2.2.1
    n7 := n_add.2.2.2.2
    all := n_all
    u0 := rfl
    us := fun k => rfl
    un := fun k hk => n_unit k hk
    ul := n_end.1
    uf := n_end.2 }⟩

/-- A row of numbers, made anew. -/
theorem rdN_new (w : World) (l : List Nat) (cs : Array Value) (hcs : cs.toList = l.map nun) (n : Nat) (hn : l.length = n) (h32 : n ≤ 1000) : RdN (w.alloc (.cells cs 3)) (.slice (some ⟨w.heap.size, 0, none⟩) n n) l := by
  have hsz : cs.size = n := by rw [← Array.length_toList, hcs, List.length_map, hn]
  exact own_rdN (base := w.heap.size) (n := n) ⟨by simp [hn], .inr ⟨w.heap.size, n, cs, rfl, Nat.le_refl _, heap_alloc_new _ _, Nat.le_refl _, by unfold maxLen; omega, by omega, by rw [hcs, Nat.mul_one, List.take_of_length_le (by simp [hn])]⟩⟩

/-- What stays where one new box alone is turned. -/
theorem Hs.but {R : RepTy} {w0 w w' : World} {p q : Nat} {A : Arn} {tl : Int} {B : Nat → Prop} {Bl : Nat} (K : ∀ q l, KeepC (R.ar q l)) (h : Hs R w0 w p q A tl B) (hBl : w.heap.size ≤ Bl) {w1 : World} (h1 : Below w.heap.size w w1) (hb : Rf.But Bl w1 w') : Hs R w0 w' p q A tl B := by
  have hk : Keep (fun j => j = Bl) w w' := by
    have hk1 : Keep (fun j => j = Bl) w1 w' := ⟨hb.1.os, hb.1.tape, hb.1.output, hb.1.size, fun k hk hn => hb.2 k hk hn⟩
    exact (Keep.of_below (F := fun j => j = Bl) h1).trans hk1 (fun _ _ e => e)
  obtain ⟨F, g1, g2, g3, g4, g5⟩ := h
  refine ⟨F, (K q tl).keep g1 hk (fun k hf e => by have := (K q tl).lt g1 k hf; omega), g2, g3, fun b hb' => ⟨(g4 b hb').1, Nat.lt_of_lt_of_le (g4 b hb').2 hk.size⟩, g5.trans (hk.below (fun k hk' e => by have := g5.size; omega) g5.size)⟩

/-- Amid the five units. -/
def Fv (R : RepTy) (w0 w : World) (p q V : Nat) (U : UAns) (m : Nat) (tl : Int) : Prop := Hs R w0 w p q ⟨U.sl, U.fr, m⟩ tl (fun b => b = V) ∧ w.heap[V]? = some (.cells #[nu 0, nu 4, nu 1, nu 2, nu 3] 3)

theorem want_at {w : World} {V : Nat} (h : w.heap[V]? = some (.cells #[nu 0, nu 4, nu 1, nu 2, nu 3] 3)) (k : Nat) (hk : k < 5) : w.cell? ⟨V, k, none⟩ = some (nun (([0, 4, 1, 2, 3] : List Nat).getD k 0)) := by
  have : k = 0 ∨ k = 1 ∨ k = 2 ∨ k = 3 ∨ k = 4 := by omega
  rcases this with rfl | rfl | rfl | rfl | rfl <;> simp [World.cell?, h]

set_option maxRecDepth 1000000 in
set_option maxHeartbeats 16000000 in
theorem sweepKnown_yes {Rep : World → Nat → (Nat → Prop) → Arn → Prop} {R : RepTy} {T : R3Ty} (CN : NewC Rep) (C : OnceC Rep R T) (w : World) (hE : Er.Handle w) :
    Calls Tryd.prog 3 #[] w fun e w' => e = .returned (.bool true) ∧ Below w.heap.size w w' := by
  obtain ⟨i0, ji, hz0, hz1, hz2⟩ := info_parts info_int
  have hB0 : Below w.heap.size w (w.alloc (.cells #[nu 0, nu 1, nu 1, nu 2, nu 0] 3)) := (Below.refl _ _).alloc (Nat.le_refl _) _
  have c1 := Hid.mk' (hung_any CN C.toHungC _ [0, 1, 1, 2, 0] (w.alloc (.cells #[nu 0, nu 1, nu 1, nu 2, nu 0] 3)) (rdU_new w [0, 1, 1, 2, 0] _ rfl 5 rfl (by omega)) (by intro x hx; simp at hx; rcases hx with rfl | rfl | rfl | rfl | rfl <;> exact ⟨by decide, by decide⟩))
  obtain ⟨W0, hW0⟩ : ∃ W0, w.alloc (.cells #[nu 0, nu 1, nu 1, nu 2, nu 0] 3) = W0 := ⟨_, rfl⟩
  rw [hW0] at c1 hB0
  have HW0 := Hid.mk' hW0
  have HB0 := Hid.mk' hB0
  have HC := Hid.mk' C
  have HE := Hid.mk' (hE.below hB0)
  have cK : Hid (∀ wx p q A tl, Hs R W0 wx p q A tl (fun _ => False) → Calls Tryd.prog 5 #[] wx fun e w' => e = .returned (.bool true) ∧ Hid (Hs R W0 w' p q A tl (fun _ => False))) := fun wx p q A tl h => by
    refine (works_any CN C wx).mono ?_
    rintro e w' ⟨rfl, hb⟩
    exact ⟨rfl, h.more C.keep hb (fun _ h => h.elim)⟩
  clear hW0 hB0 CN C hE
  refine (callsIn_wide (n := 8)).1 ?_
  refine callsIn_of_wp_marks Tryd.func3 rfl trivial ?_ rfl
  refine wpIn_wide.2 ?_
  simp only [Tryd.ntmps3, List.size_toArray, List.length_cons, List.length_nil, Nat.reduceAdd, Nat.reduceSub, Array.replicate_succ, Array.replicate_zero, List.push_toArray, List.append_toArray, List.nil_append, List.cons_append]
  go_wp2_with fail
  rw [HW0.out]
  refine c1.out.mono ?_
  rintro e w1 ⟨p, q, a, c, n, rfl, hQ1⟩
  obtain ⟨S0, t0, S1, t1, S2, t2, G3, G4, G5, G6, G7, U, hK⟩ := kn_ex
  obtain ⟨hn, S, m, tl, hh, hm, hg, ho, hu, hul, hA⟩ := hQ1.out
  have hn2 : n = 5 := by rw [hn]; rfl
  subst hn2
  have hul2 := upP_len [0, 1, 1, 2, 0] 5
  rw [hul2] at hh hm
  have hAA := hK.h0.symm.trans hA
  obtain ⟨rfl, rfl⟩ : S0 = S ∧ t0 = tl := by simpa using hAA
  have l1 : S1.length = 32 := by
    have := Tr.cutT_len S0 t0 0
    rw [hK.c1] at this
    exact this.trans hg.len
  have l2 : S2.length = 32 := by
    have := Tr.cutT_len S1 t1 4
    rw [hK.c2] at this
    exact this.trans l1
  have hh' : Hs R W0 w1 p q ⟨S0, (List.range 32).drop 5, m⟩ t0 (fun _ => False) := by
    obtain ⟨F, g1, g2, g3, g4, g5⟩ := hh
    exact ⟨F, g1, g2, g3, fun b hb => hb.elim, g5⟩
  have c2 := Hid.mk' (cK.out w1 p q _ t0 hh')
  have L1 := Hid.mk' l1
  have L2 := Hid.mk' l2
  have HI : Hid (I64 0 ∧ I64 4 ∧ I64 9 ∧ I64 32) := ⟨⟨by decide, by decide⟩, ⟨by decide, by decide⟩, ⟨by decide, by decide⟩, ⟨by decide, by decide⟩⟩
  have HAA := Hid.mk' hK
  clear hQ1 hn hh hg ho hu hul c1 hul2 hA hAA l1 l2 cK hh' hK
  go_wp2_with fail
  refine c2.out.mono ?_
  rintro e w2 ⟨rfl, HQ2⟩
  have c3 := Hid.mk' (HQ2.out.cut2 HC.out (by show m ≤ 100000; omega) 0 HI.out.1 L1.out HAA.out.c1)
  clear c2 HQ2
  go_wp2_with fail
  refine c3.out.mono ?_
  rintro e w3 ⟨rfl, hQ3⟩
  obtain ⟨m3, hm3, hh3, _⟩ := hQ3.out
  have c4 := Hid.mk' (hh3.newG HC.out)
  clear hQ3 hh3 c3
  go_wp2_with fail
  refine c4.out.mono ?_
  rintro e w4 ⟨r, rfl, hQ4⟩
  have c5 := Hid.mk' (hQ4.out.1.unit HC.out (by show m + m3 ≤ 100000; omega) (.inl rfl) (unit_none _ _))
  clear hQ4 c4
  go_wp2_with fail
  refine c5.out.mono ?_
  rintro e w5 ⟨rfl, hQ5⟩
  obtain ⟨m5, hm5, hh5, _⟩ := hQ5.out
  have c6 := Hid.mk' (hh5.last3 HC.out)
  clear hQ5 hh5 c5
  go_wp2_with fail
  refine c6.out.mono ?_
  rintro e w6 ⟨rfl, hQ6⟩
  have c7 := Hid.mk' (hQ6.out.1.cut HC.out (by show m + m3 + m5 ≤ 100000; omega) 4 HI.out.2.1 L2.out HAA.out.c2)
  clear hQ6 c6
  go_wp2_with fail
  refine c7.out.mono ?_
  rintro e w7 ⟨rfl, hQ7⟩
  obtain ⟨m7, hm7, hh7, _⟩ := hQ7.out
  have c8 := Hid.mk' (hh7.addR HC.out (by show m + m3 + m5 + m7 ≤ 100000; omega) (.inl rfl) 0 HI.out.1 (G := G3) HAA.out.a3 HAA.out.n3.1 HAA.out.n3.2.1 HAA.out.n3.2.2)
  rw [show errP 0 (-1) = .nilIface from rfl] at c8
  clear hQ7 hh7 c7
  go_wp2_with fail
  refine c8.out.mono ?_
  rintro e w8 ⟨rfl, hQ8⟩
  obtain ⟨m8, hm8, hh8, _⟩ := hQ8.out
  have c9 := Hid.mk' (hh8.addR HC.out (by show m + m3 + m5 + m7 + m8 ≤ 100000; omega) (.inr ⟨by omega, by omega⟩) 4 HI.out.2.1 (G := G4) HAA.out.a4 HAA.out.n4.1 HAA.out.n4.2.1 HAA.out.n4.2.2)
  rw [show errP 0 (-1) = .nilIface from rfl] at c9
  clear hQ8 hh8 c8
  go_wp2_with fail
  refine c9.out.mono ?_
  rintro e w9 ⟨rfl, hQ9⟩
  obtain ⟨m9, hm9, hh9, _⟩ := hQ9.out
  have hk4 : okL 4 := .inr ⟨by omega, by omega⟩
  have c10 := Hid.mk' (hh9.addR HC.out (by show m + m3 + m5 + m7 + m8 + m9 ≤ 100000; omega) hk4 0 HI.out.1 (G := G5) HAA.out.a5 HAA.out.n5.1 HAA.out.n5.2.1 HAA.out.n5.2.2)
  clear hQ9 hh9 c9
  rw [show errP 9 (-1) = .iface 60 (.int .i64 9) from rfl] at c10
  go_wp2_with fail
  refine c10.out.mono ?_
  rintro e w10 ⟨rfl, hQ10⟩
  obtain ⟨m10, hm10, hh10, _⟩ := hQ10.out
  have d10 := Hid.mk' (hh10.told HC.out HE.out 9 (by omega))
  rw [show errP 9 (-1) = .iface 60 (.int .i64 9) from rfl] at d10
  clear hQ10 hh10 c10
  go_wp2_with fail
  refine d10.out.mono ?_
  rintro e w10t ⟨rfl, hT10⟩
  have c11 := Hid.mk' (hT10.out.addR HC.out (by show m + m3 + m5 + m7 + m8 + m9 + m10 ≤ 100000; omega) hk4 9 HI.out.2.2.1 (G := G6) HAA.out.a6 HAA.out.n6.1 HAA.out.n6.2.1 HAA.out.n6.2.2)
  clear d10 hT10
  rw [show errP 10 (-1) = .iface 60 (.int .i64 10) from rfl] at c11
  go_wp2_with fail
  refine c11.out.mono ?_
  rintro e w11 ⟨rfl, hQ11⟩
  obtain ⟨m11, hm11, hh11, _⟩ := hQ11.out
  have d11 := Hid.mk' (hh11.told HC.out HE.out 10 (by omega))
  rw [show errP 10 (-1) = .iface 60 (.int .i64 10) from rfl] at d11
  clear hQ11 hh11 c11
  go_wp2_with fail
  refine d11.out.mono ?_
  rintro e w11t ⟨rfl, hT11⟩
  have c12 := Hid.mk' (hT11.out.addR HC.out (by show m + m3 + m5 + m7 + m8 + m9 + m10 + m11 ≤ 100000; omega) hk4 32 HI.out.2.2.2 (G := G7) HAA.out.a7 HAA.out.n7.1 HAA.out.n7.2.1 HAA.out.n7.2.2)
  clear d11 hT11
  rw [show errP 1 (-1) = .iface 60 (.int .i64 1) from rfl] at c12
  go_wp2_with fail
  refine c12.out.mono ?_
  rintro e w12 ⟨rfl, hQ12⟩
  obtain ⟨m12, hm12, hh12, _⟩ := hQ12.out
  have d12 := Hid.mk' (hh12.told HC.out HE.out 1 (by omega))
  rw [show errP 1 (-1) = .iface 60 (.int .i64 1) from rfl] at d12
  clear hQ12 hh12 c12
  go_wp2_with fail
  refine d12.out.mono ?_
  rintro e w12t ⟨rfl, hT12⟩
  clear d12
  have hsv : w.heap.size ≤ w12t.heap.size := Nat.le_trans HB0.out.size hT12.out.bel.size
  obtain ⟨V, hV⟩ : ∃ V, w12t.heap.size = V := ⟨_, rfl⟩
  have hbV : Below w12t.heap.size w12t (w12t.alloc (.cells #[nu 0, nu 4, nu 1, nu 2, nu 3] 3)) := (Below.refl _ _).alloc (Nat.le_refl _) _
  have hw13 := heap_alloc_new w12t (.cells #[nu 0, nu 4, nu 1, nu 2, nu 3] 3)
  have hrd := rdN_new w12t [0, 4, 1, 2, 3] #[nu 0, nu 4, nu 1, nu 2, nu 3] rfl 5 rfl (by omega)
  have hh13 : Hs (T.rt r 4) W0 (w12t.alloc (.cells #[nu 0, nu 4, nu 1, nu 2, nu 3] 3)) p q ⟨G7.sl, (List.range 32).drop 5, m + m3 + m5 + m7 + m8 + m9 + m10 + m11 + m12⟩ t2 (fun b => b = V) := hT12.out.more (fun q l => HC.out.keep3 q r l 4) hbV (fun b e => .inr ⟨by omega, by simp; omega⟩)
  rw [hV] at hw13 hrd
  clear hT12 hbV
  obtain ⟨W13, hW13⟩ : ∃ W13, w12t.alloc (.cells #[nu 0, nu 4, nu 1, nu 2, nu 3] 3) = W13 := ⟨_, rfl⟩
  rw [hW13] at hw13 hrd hh13
  have HV := Hid.mk' hV
  have HW13 := Hid.mk' hW13
  obtain ⟨mm, hmm⟩ : ∃ mm, m + m3 + m5 + m7 + m8 + m9 + m10 + m11 + m12 = mm := ⟨_, rfl⟩
  have hmm2 : mm ≤ 1000 := by omega
  rw [hmm] at hh13
  have c13 := Hid.mk' (hh13.all3 HC.out hk4 HAA.out.all)
  have HRD := Hid.mk' hrd
  have HVC := Hid.mk' hw13
  have HH13 := Hid.mk' hh13
  have hVs := Hid.mk' (Array.getElem?_eq_some_iff.1 hw13).1
  clear hV hW13 hmm hw13 hrd hh13 hm hm3 hm5 hm7 hm8 hm9 hm10 hm11 hm12
  go_upto_region 11 with fail
  rw [HV.out, HW13.out]
  go_wp2_with fail
  refine c13.out.mono ?_
  rintro e w14 ⟨a14, c14, rfl, hQ14⟩
  obtain ⟨hh14, ho14, hb14⟩ := hQ14.out
  have c15 := Hid.mk' (sameN _ _ [0, 4, 1, 2, 3] w14 (own_rdN ho14) (HRD.out.below hb14))
  have HVC14 : Hid (w14.heap[V]? = some (.cells #[nu 0, nu 4, nu 1, nu 2, nu 3] 3)) := (hb14.block V hVs.out).trans HVC.out
  have HH14 := Hid.mk' hh14
  clear hQ14 hh14 ho14 hb14 c13
  go_wp2_with fail
  refine c15.out.mono ?_
  rintro e w15 ⟨rfl, hb15⟩
  have HF0 : Hid (Fv (T.rt r (U 0).last) W0 w15 p q V (U 0) mm t2) := by
    rw [HAA.out.u0]
    exact ⟨HH14.out.below3 HC.out hb15, (hb15.block V (Array.getElem?_eq_some_iff.1 HVC14.out).1).trans HVC14.out⟩
  clear hb15 c15 HVC14 HH14 HVC HRD hVs HH13
  go_wp2
  go_loopw [6, 7, 9] (fun iv bv kv wr => ∃ (k : Nat) (i : Int) (b : Bool), k ≤ 5 ∧ iv = nu i ∧ bv = .bool b ∧ kv = nun k ∧ Hid (∃ m', m' ≤ 1000 + 8 * k ∧ Fv (T.rt r (U k).last) W0 wr p q V (U k) m' t2)) (fun _ _ kv _ => 5 - (intOf kv).toNat)
  case atStart => exact ⟨0, 0, false, by omega, rfl, rfl, rfl, mm, by omega, HF0.out⟩
  case round =>
    clear HF0
    obtain ⟨k, i, b, hk, rfl, rfl, rfl, HR⟩ := hrel
    obtain ⟨m', hm', hF⟩ := HR.out
    clear HR
    by_cases hlt : k < 5
    · have hkI : (k : Int) < 5 := by omega
      have hk0 : (0 : Int) ≤ (k : Int) := by omega
      obtain ⟨x, hx⟩ : ∃ x, ([0, 4, 1, 2, 3] : List Nat).getD k 0 = x := ⟨_, rfl⟩
      have hun := HAA.out.un k hlt
      rw [hx] at hun
      have hus := HAA.out.us k
      obtain ⟨u1, hu1⟩ : ∃ u1, U (k + 1) = u1 := ⟨_, rfl⟩
      rw [hu1] at hun hus
      have c16 : Hid (Calls Tryd.prog 8 #[ptr r] wr fun e w' => e = .returned (.tuple #[nun x, .bool true]) ∧ Hid (w'.cell? ⟨V, k, none⟩ = some (nun x) ∧ ∃ m', m' ≤ 1000 + 8 * (k + 1) ∧ Fv (T.rt r u1.last) W0 w' p q V u1 m' t2)) := by
        have := hF.1.unit HC.out (by show m' ≤ 100000; omega) hun.2.2 hus
        rw [hun.1, hun.2.1] at this
        refine this.mono ?_
        rintro e w' ⟨rfl, hQ⟩
        obtain ⟨n', hn', h1, h2⟩ := hQ.out
        have h3 := (h2 V rfl).trans hF.2
        refine ⟨rfl, ?_, m' + n', by omega, h1, h3⟩
        rw [want_at h3 k hlt, hx]
      have HU1 := Hid.mk' hu1
      have hxx : ((x : Int) == (x : Int)) = true := by simp
      clear hF hun hus hu1 hx hm' hlt
      go_wp2_with fail
      refine c16.out.mono ?_
      rintro e w16 ⟨rfl, hQ16⟩
      have hc16 := hQ16.out.1
      have HR16 : Hid (∃ m', m' ≤ 1000 + 8 * (k + 1) ∧ Fv (T.rt r (U (k + 1)).last) W0 w16 p q V (U (k + 1)) m' t2) := by
        rw [HU1.out]
        exact hQ16.out.2
      clear hQ16 c16
      go_wp2
      go_roundw
      case rel => exact ⟨k + 1, _, _, by omega, rfl, rfl, by go_num, HR16.out⟩
      case measure => simp [intOf]; omega
    · have hk5 : k = 5 := by omega
      subst hk5
      have hkI : ¬ ((5 : Nat) : Int) < 5 := by omega
      obtain ⟨S5, hS5⟩ : ∃ S5, (U 5).sl = S5 := ⟨_, rfl⟩
      obtain ⟨L, hL⟩ : ∃ L, (U 5).fr = L := ⟨_, rfl⟩
      have hLL : L.length = 32 ∧ L.take 6 = [3, 2, 1, 4, 0, 5] := by
        rw [← hL, HAA.out.uf]
        decide +kernel
      have hF5 : Hs (T.rt r (-1)) W0 wr p q ⟨S5, L, m'⟩ t2 (fun b => b = V) := by
        have := hF.1
        rwa [HAA.out.ul, hS5, hL] at this
      have c17 := Hid.mk' (hF5.unit HC.out (by show m' ≤ 100000; omega) (.inl rfl) (unit_none S5 L))
      clear hF hF5 hS5 hL HAA hk
      go_wp2_with fail
      refine c17.out.mono ?_
      rintro e w17 ⟨rfl, hQ17⟩
      obtain ⟨m17, hm17, hh17, _⟩ := hQ17.out
      have HH17 := Hid.mk' hh17
      obtain ⟨Bl, hBl⟩ : ∃ Bl, w17.heap.size = Bl := ⟨_, rfl⟩
      have hB1 : Below w17.heap.size w17 (w17.alloc (.cells #[.slice none 0 0] 24)) := (Below.refl _ _).alloc (Nat.le_refl _) _
      have x1 : Boxed (w17.alloc (.cells #[.slice none 0 0] 24)) w17.heap.size 24 (.slice none 0 0) := Boxed.new w17 _ _
      have hs1 : (w17.alloc (.cells #[.slice none 0 0] 24)).heap.size = w17.heap.size + 1 := by simp
      obtain ⟨W1, hW1⟩ : ∃ W1, w17.alloc (.cells #[.slice none 0 0] 24) = W1 := ⟨_, rfl⟩
      rw [hW1] at hB1 x1 hs1
      rw [hBl] at x1 hs1
      have HW1 := Hid.mk' hW1
      have HBl := Hid.mk' hBl
      have c18 := Hid.mk' ((hh17.below3 HC.out hB1).frees3 HC.out)
      have HB1 := Hid.mk' hB1
      have HX1 := Hid.mk' x1
      have hw17 : w.heap.size ≤ w17.heap.size := Nat.le_trans HB0.out.size hh17.bel.size
      clear hQ17 hh17 c17 hBl hW1 x1 hB1
      go_upto_region 21 with fail
      rw [HW1.out, HBl.out]
      go_wp2_with fail
      refine c18.out.mono ?_
      rintro e w5 ⟨gf, lb, rfl, hQ5⟩
      obtain ⟨hh5, hb5, X, hit, hXn⟩ := hQ5.out
      obtain ⟨gf', lb', kk, e9, hent, hXl, hsq⟩ := hit
      simp only [Value.func.injEq, Fn.func.injEq, true_and] at e9
      obtain ⟨rfl, rfl⟩ := e9
      have HSQ := Hid.mk' (hsq w5 (Nat.le_refl _) (fun _ _ => rfl))
      have hs5 := hb5.size
      have hXn1 : ∀ b, X b → Bl + 1 ≤ b := fun b hb => by have := hXn b hb; omega
      have y1 : Boxed w5 Bl 24 (.slice none 0 0) := (hb5.block _ (by omega)).trans HX1.out
      have HB5 : Hid (Below w17.heap.size w17 w5) := HB1.out.trans (hb5.mono HB1.out.size)
      have hwB : w.heap.size ≤ Bl := by rw [← HBl.out]; exact hw17
      have hfew : L.length ≤ 32 := Nat.le_of_eq hLL.1
      have HLL := Hid.mk' hLL
      clear hsq hb5 hQ5 c18 hh5 hLL hw17
      go_wp2_with fail
      refine Rf.wp_range (L := L) (w0 := w5) rfl hent HSQ.out (Below.refl _ _) (fun _ => rfl) hXl
        (fun pre W' => ∃ v, Boxed W' Bl 24 v ∧ W'.ownsRow (w5.heap.size + 2 + kk) 3 1 v pre.length (pre.map nun) ∧ Rf.But Bl w5 W')
        (fun _ _ _ => False) ?rest (fun _ _ _ _ _ hs _ _ => hs)
        ⟨_, y1, World.ownsRow_nil _ _ _ _, Rf.But.refl _ _⟩ ?act ?assign ?body ?done (fun _ _ _ _ h _ => h.elim)
      case assign =>
        intro l' x W2 K hK
        gi_wp2
        exact hK
      case rest =>
        rintro pre A B row ⟨v, h2, h4, h5⟩ hg hr
        exact ⟨v, h2.kept hg (fun e => by have := (hr _ e.symm).1; omega), hr.row h4 (Nat.le_refl _) hg, h5.rest (by omega) hg hr⟩
      case body =>
        rintro l' pre x W2 hpre hsz ⟨v, h2, h4, h5⟩
        have hc2 := h2.cell
        have hl64 : pre.length + 1 ≤ 32 := by
          have h1 := hpre.length_le
          simp at h1; omega
        have HSp : Hid ((pre ++ [x]).map nun = pre.map nun ++ [nun x]) := by show _ = _; simp
        have HLn : Hid ((pre ++ [x]).length = pre.length + 1) := by show _ = _; simp
        obtain ⟨mm', hmm'⟩ : ∃ mm', pre.length = mm' := ⟨_, rfl⟩
        rw [hmm'] at h4 hl64 HLn
        clear hmm'
        gi_wp2_with (gi_at_builtin; refine wpListIn_append_own _ rfl _ _ 24 rfl (w5.heap.size + 2 + kk) 3 i0 (.int .i64 0) 1 8 Tryd.underlying24 ji hz0 hz1 hz2 rfl (by decide) _ _ _ rfl (h4.alloc _) ⟨W2.heap.size, 0, none⟩ 1 1 [nun x] rfl rfl (cell_one_new _ _ _) (by simp [Value.oneCell']) (by unfold maxLen; omega) (by omega) (by simp; omega) ?_; intro v' w1' hown' hgrow _; obtain ⟨g', cap', rfl⟩ := ownsRow_succ hown'; obtain ⟨hv1, hv2, hr2, hk2, hb2, ho2⟩ := Rf.collected (X := X) (lo := w5.heap.size) (n := Bl) h2 (by decide) h4 (by omega) (fun h => by have := hXn1 _ h; omega) (fun b hb => hXl b hb) (by omega) hsz (Nat.le_refl _) hown' hgrow; have hbt := Rf.But.step (v' := .slice (some ⟨g', 0, none⟩) (mm' + 1) cap') h5 h4 (by omega) hsz (by omega) hgrow; have hc1 := hv1.cell; have hf1 := hv1.frozen)
        exact ⟨hk2, _, hv2, by rw [HSp.out, HLn.out]; exact hr2, hbt⟩
      case done =>
        rintro W7 ⟨v1, h2, h4, h5⟩ hK7
        rw [HLL.out.1] at h4
        have hh7 := HH17.out.but (fun q l => HC.out.keep3 q r l (-1)) (by rw [HBl.out]; exact Nat.le_refl _) HB5.out h5
        have c20 := Hid.mk' (hh7.last3 HC.out)
        obtain ⟨a1, c1, rfl, hc32, hcm, ha1⟩ := Nm.own_shape h4
        obtain ⟨g1, rfl⟩ := ha1 (by omega)
        have hsl : ∀ wx, (Instr.slice 24 (.slice (some ⟨g1, 0, none⟩) 32 c1) none (some (.int .i64 6)) none).run Tryd.prog wx = .ok (.slice (some ⟨g1, 0, none⟩) 6 c1) wx := fun wx => slice_toI (some ⟨g1, 0, none⟩) 32 c1 6 (by omega) wx
        have ho6 := own_less (m := 6) h4 (by omega) (by simp)
        rw [HLL.out.2] at ho6
        have HO6 := Hid.mk' ho6
        have HX2 := Hid.mk' h2
        have HK7 := Hid.mk' hK7
        have HB7 : Hid (Below w.heap.size w W7) := HB0.out.trans (hh7.bel.mono HB0.out.size)
        clear hh7 h2 h4 h5 hK7 y1 ho6 hcm
        go_wp2_with fail
        refine c20.out.mono ?_
        rintro e w8 ⟨rfl, hQ8⟩
        have hb8 := hQ8.out.2
        have hc8 : w8.cell? ⟨Bl, 0, none⟩ = some (.slice (some ⟨g1, 0, none⟩) 32 c1) := (Boxed.cell (show Boxed w8 Bl 24 _ from (hb8.block Bl HX2.out.lt).trans HX2.out))
        have hb9 : Below w8.heap.size w8 (w8.alloc (.cells #[nu 3, nu 2, nu 1, nu 4, nu 0, nu 5] 3)) := (Below.refl _ _).alloc (Nat.le_refl _) _
        have c21 := Hid.mk' (sameN (.slice (some ⟨g1, 0, none⟩) 6 c1) (.slice (some ⟨w8.heap.size, 0, none⟩) 6 6) [3, 2, 1, 4, 0, 5] (w8.alloc (.cells #[nu 3, nu 2, nu 1, nu 4, nu 0, nu 5] 3)) (((own_rdN HO6.out).below hb8).below hb9) (rdN_new w8 [3, 2, 1, 4, 0, 5] #[nu 3, nu 2, nu 1, nu 4, nu 0, nu 5] rfl 6 rfl (by omega)))
        have HB8 := Hid.mk' (hb8.trans (hb9.mono hb8.size))
        clear hQ8 hb8 hb9 c20
        go_wp2_with fail
        refine c21.out.mono ?_
        rintro e w9 ⟨rfl, hb10⟩
        have HB10 := Hid.mk' (HB8.out.trans (hb10.mono HB8.out.size))
        clear hb10 c21 hc8
        go_wp2
        have hK9 : w9.heap[w5.heap.size]? = some (.deferred (some [])) := (HB10.out.block _ (Array.getElem?_eq_some_iff.1 HK7.out).1).trans HK7.out
        refine ⟨by simp, .inl ⟨_, _, rfl, run_takeDeferred hK9, ?_⟩⟩
        refine ⟨_, results_tmp rfl _ _ _, rfl, ?_⟩
        have hB9 : Below w.heap.size w w9 := HB7.out.trans (HB10.out.mono HB7.out.size)
        exact hB9.grown (grownBy_putObj' _ _ _) hB9.size (fun r e => by cases e; omega)
end Sw
end Go.Proofs.YthabnombfbehkaaDoor
