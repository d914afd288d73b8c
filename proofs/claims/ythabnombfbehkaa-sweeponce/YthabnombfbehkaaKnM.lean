/- SwpW, SwpN, SwpX, SwpY, in one text. -/
import Derived.Test.YthabnombfbehkaaSwpO
import Derived.Test.YthabnombfbehkaaArnG
/- The law's works: of two slots, hung below one another, cut and put into the garbage. -/
namespace Go.Proofs.Ythabnombfbehkaa
set_option linter.ambiguousOpen false
open Go.RowKit
namespace Sw
open An Rg Ft Lv
set_option linter.unusedSimpArgs false
set_option linter.unusedVariables false

theorem rdU_new (w : World) (l : List Int) (cs : Array Value) (hcs : cs.toList = l.map nu) (n : Nat) (hn : l.length = n) (h32 : n ≤ 1000) : RdU (w.alloc (.cells cs 3)) (.slice (some ⟨w.heap.size, 0, none⟩) n n) l := by
  have hsz : cs.size = n := by rw [← Array.length_toList, hcs, List.length_map, hn]
  exact own_rdU (base := w.heap.size) (n := n) ⟨by simp [hn], .inr ⟨w.heap.size, n, cs, rfl, Nat.le_refl _, heap_alloc_new _ _, Nat.le_refl _, by unfold maxLen; omega, by omega, by rw [hcs, Nat.mul_one, List.take_of_length_le (by simp [hn])]⟩⟩

set_option maxRecDepth 100000 in
theorem funcG_nn (gf : Nat) (lb : Array Value) (w : World) : (binOp .neq 40 (.func (.func gf) #[] lb) .nilFunc).run Try.prog w = .ok (.bool true) w := by kernel_rfl

theorem unit_none (S : List Slt) (fr : List Nat) : unitG S fr (-1) = ⟨0, false, S, fr, -1⟩ := if_pos (.inl rfl)

theorem ring_len {S : List Slt} {tl : Int} {up : List Int} {Q : List Nat} (h : Sg S tl up Q) : S.length = 32 := h.hg.len

/-- The two slots. -/
theorem works_plain {S : List Slt} {tl : Int} {m : Nat} (h : Tr.Hg S tl (upP [0, 1] 2).length (Tr.kidsU (upP [0, 1] 2) (-1) (-1)) (fun j => Tr.kidsU (upP [0, 1] 2) j (-1))) (hu : Tr.Ups (upP [0, 1] 2)) :
    ∃ S1 tl1 S2 S3 S4, S1.length = 32 ∧ S2.length = 32 ∧ Tr.cutT S tl 0 = ⟨0, -1, S1, tl1⟩ ∧ addG S1 (-1) 0 = ⟨0, -1, S2, 0⟩ ∧ unitG S2 ((List.range 32).drop 2) 0 = ⟨0, true, S3, 0 :: (List.range 32).drop 2, 1⟩ ∧ unitG S3 (0 :: (List.range 32).drop 2) 1 = ⟨1, true, S4, 1 :: 0 :: (List.range 32).drop 2, -1⟩ := by
  obtain ⟨S1, tl1, S2, e1, e2, e3⟩ := (Sg.start h).cut hu (c := 0) (by decide) (by simp)
  have hlen1 : S1.length = 32 := by
    have := Tr.cutT_len S tl 0
    rw [show Tr.cutT S tl 0 = ⟨0, -1, S1, tl1⟩ from e1] at this
    exact this.trans h.len
  obtain ⟨W, f1, _, _⟩ := e3.order hu
  have k0 : kidsQ (upP [0, 1] 2) (0 : Nat) ([] ++ [0]) = [1] := by decide +kernel
  have k1 : kidsQ (upP [0, 1] 2) (1 : Nat) ([] ++ [0]) = [] := by decide +kernel
  obtain ⟨W1, rfl⟩ : ∃ W1, W = 0 :: W1 := by
    have hb := f1.bf
    cases hb with
    | cons hb => exact ⟨_, rfl⟩
  obtain ⟨S3, u1, f2, _, _⟩ := f1.unit (fr := (List.range 32).drop 2) (by decide)
  try dsimp only at u1 f2
  rw [k0] at u1 f2
  obtain ⟨W2, rfl⟩ : ∃ W2, W1 = 1 :: W2 := by
    have hb := f2.bf
    cases hb with
    | cons hb => exact ⟨_, rfl⟩
  obtain ⟨S4, u2, f3, _, _⟩ := f2.unit (fr := 0 :: (List.range 32).drop 2) (by decide)
  try dsimp only at u2
  rw [k1] at u2
  exact ⟨S1, tl1, S2, S3, S4, hlen1, ring_len e3, e1, e2, u1, u2⟩

set_option maxRecDepth 100000 in
set_option maxHeartbeats 4000000 in
theorem works_any {Rep : World → Nat → (Nat → Prop) → Arn → Prop} {R : RepTy} {T : R3Ty} (CN : NewC Rep) (C : OnceC Rep R T) (w : World) :
    Calls Try.prog 4 #[] w fun e w' => e = .returned (.bool true) ∧ Below w.heap.size w w' := by
  have hB0 : Below w.heap.size w (w.alloc (.cells #[nu 0, nu 1] 3)) := (Below.refl _ _).alloc (Nat.le_refl _) _
  have c1 := Hid.mk' (hung_any CN C.toHungC _ [0, 1] (w.alloc (.cells #[nu 0, nu 1] 3)) (rdU_new w [0, 1] _ rfl 2 rfl (by omega)) (by intro x hx; simp at hx; rcases hx with rfl | rfl <;> exact ⟨by decide, by decide⟩))
  obtain ⟨W0, hW0⟩ : ∃ W0, w.alloc (.cells #[nu 0, nu 1] 3) = W0 := ⟨_, rfl⟩
  rw [hW0] at c1 hB0
  have HW0 := Hid.mk' hW0
  have HB0 := Hid.mk' hB0
  have HC := Hid.mk' C
  clear hW0 hB0 CN C
  go_enter Try.func4, Try.ntmps4
  go_wp2_with fail
  rw [HW0.out]
  refine c1.out.mono ?_
  rintro e w1 ⟨p, q, a, c, n, rfl, hQ1⟩
  obtain ⟨hn, S, m, tl, hh, hm, hg, ho, hu, hul, _⟩ := hQ1.out
  have hn2 : n = 2 := by rw [hn]; rfl
  subst hn2
  obtain ⟨S1, tl1, S2, S3, S4, l1, l2, e1, e2, e3, e4⟩ := works_plain (m := m) hg hu
  have hul2 := upP_len [0, 1] 2
  rw [hul2] at hh hm
  have c2 := Hid.mk' (hh.cut2 HC.out (by show m ≤ 100000; omega) 0 ⟨by decide, by decide⟩ l1 e1)
  have E2 := Hid.mk' e2
  have E3 := Hid.mk' e3
  have E4 := Hid.mk' e4
  have L2 := Hid.mk' l2
  have i0 : Hid (I64 0) := ⟨by decide, by decide⟩
  clear hQ1 hn hh hg ho hu hul e1 e2 e3 e4 l1 l2 c1 hul2
  go_wp2_with fail
  refine c2.out.mono ?_
  rintro e w2 ⟨rfl, hQ2⟩
  obtain ⟨n2, hn2, hh2, _⟩ := hQ2.out
  have c3 := Hid.mk' (hh2.newG HC.out)
  clear hQ2 hh2 c2
  go_wp2_with fail
  refine c3.out.mono ?_
  rintro e w3 ⟨r, rfl, hQ3⟩
  have c4 := Hid.mk' (hQ3.out.1.addG HC.out (by show m + n2 ≤ 100000; omega) (.inl rfl) 0 i0.out L2.out E2.out)
  clear hQ3 c3
  go_wp2_with fail
  refine c4.out.mono ?_
  rintro e w4 ⟨rfl, hQ4⟩
  obtain ⟨n4, hn4, hh4, _⟩ := hQ4.out
  have c5 := Hid.mk' (hh4.unit HC.out (by show m + n2 + n4 ≤ 100000; omega) (.inr ⟨by omega, by omega⟩) E3.out)
  clear hQ4 hh4 c4
  go_wp2_with fail
  refine c5.out.mono ?_
  rintro e w5 ⟨rfl, hQ5⟩
  obtain ⟨n5, hn5, hh5, _⟩ := hQ5.out
  have c6 := Hid.mk' (hh5.unit HC.out (by show m + n2 + n4 + n5 ≤ 100000; omega) (.inr ⟨by show (0:Int) ≤ 1; omega, by show (1:Int) < 32; omega⟩) E4.out)
  clear hQ5 hh5 c5
  go_wp2_with fail
  refine c6.out.mono ?_
  rintro e w6 ⟨rfl, hQ6⟩
  obtain ⟨n6, hn6, hh6, _⟩ := hQ6.out
  have c7 := Hid.mk' (hh6.unit HC.out (by show m + n2 + n4 + n5 + n6 ≤ 100000; omega) (.inl rfl) (unit_none _ _))
  clear hQ6 hh6 c6
  go_wp2_with fail
  refine c7.out.mono ?_
  rintro e w7 ⟨rfl, hQ7⟩
  obtain ⟨n7, hn7, hh7, _⟩ := hQ7.out
  have c8 := Hid.mk' (hh7.frees3 HC.out)
  clear hQ7 hh7 c7
  go_wp2_with fail
  refine c8.out.mono ?_
  rintro e w8 ⟨gf, lb, rfl, hQ8⟩
  have hnf := funcG_nn gf lb
  have c9 : Hid (Calls Try.prog 16 #[ptr r] w8 fun e w' => ∃ gf lb, e = .returned (.func (.func gf) #[] lb) ∧ Below W0.heap.size W0 w') := by
    obtain ⟨F, h1, h2, h3, h4, h5⟩ := hQ8.out.1
    refine (HC.out.all q tl1 w8 p r F _ (-1) h1 h2 (.inl rfl)).mono ?_
    rintro e w' ⟨fv, X, rfl, hit, hX, hb⟩
    obtain ⟨gf, lb, k, rfl, rest⟩ := hit
    exact ⟨gf, lb, rfl, h5.trans (hb.mono h5.size)⟩
  clear hQ8 c8
  go_wp2_with fail
  refine c9.out.mono ?_
  rintro e w9 ⟨gf9, lb9, rfl, hb9⟩
  have hnf9 := funcG_nn gf9 lb9
  have HB9 := Hid.mk' hb9
  clear hb9 c9
  go_wp2
  go_ret
  exact ⟨rfl, HB0.out.trans (HB9.out.mono HB0.out.size)⟩
end Sw
end Go.Proofs.Ythabnombfbehkaa
/- The chapter's examples in states that are reckoned. -/
namespace Go.Proofs.Ythabnombfbehkaa
set_option linter.ambiguousOpen false
open Go.RowKit
namespace Sw
open An Rg Ft Lv
set_option linter.unusedSimpArgs false
set_option linter.unusedVariables false

theorem tans_eq (x : Tr.TAns) (h1 : x.no = 0) (h2 : x.pl = -1) : x = ⟨0, -1, x.sl, x.last⟩ := by
  cases x
  simp_all

/-! ### The states -/

def n0 : List Slt × Int := hAll (upP [0, 1, 1, 2, 0] 5)

def n1 : Tr.TAns := Tr.cutT n0.1 n0.2 0

def n2 : Tr.TAns := Tr.cutT n1.sl n1.last 4

def n3 : GAns := addG n2.sl (-1) 0

def n4 : GAns := addG n3.sl 0 4

def n5 : GAns := addG n4.sl 4 0

def n6 : GAns := addG n5.sl 4 9

def n7 : GAns := addG n6.sl 4 32

def nU : Nat → UAns
  | 0 => ⟨0, false, n7.sl, (List.range 32).drop 5, 4⟩
  | k + 1 => unitG (nU k).sl (nU k).fr (nU k).last

theorem n7_eq : addG n6.sl 4 32 = n7 := by unfold n7; rfl

theorem n_cut : (n1.no = 0 ∧ n1.pl = -1) ∧ (n2.no = 0 ∧ n2.pl = -1) := by decide +kernel

theorem n_add : (n3.no = 0 ∧ n3.pl = -1 ∧ n3.last = 0) ∧ (n4.no = 0 ∧ n4.pl = -1 ∧ n4.last = 4) ∧ (n5.no = 9 ∧ n5.pl = -1 ∧ n5.last = 4) ∧ (n6.no = 10 ∧ n6.pl = -1 ∧ n6.last = 4) ∧ (n7.no = 1 ∧ n7.pl = -1 ∧ n7.last = 4) := by decide +kernel

theorem n_all : allG n7.sl 4 = [0, 4, 1, 2, 3] := by decide +kernel

theorem n_unit : ∀ k, k < 5 → (nU (k + 1)).f = [0, 4, 1, 2, 3].getD k 0 ∧ (nU (k + 1)).ok = true ∧ ((nU k).last = -1 ∨ 0 ≤ (nU k).last ∧ (nU k).last < 32) := by decide +kernel

theorem n_end : (nU 5).last = -1 ∧ (nU 5).fr = [3, 2, 1, 4, 0] ++ (List.range 32).drop 5 := by decide +kernel

section
variable {Rep : World → Nat → (Nat → Prop) → Arn → Prop} {R : RepTy} {T : R3Ty} {w0 w w' : World} {p q r : Nat} {A : Arn} {tl gl : Int} {B : Nat → Prop}

/-- Add, whatever it answers. -/
theorem Hs.addR (C : OnceC Rep R T) (h : Hs (T.rt r gl) w0 w p q A tl B) (hw : A.wr ≤ 100000) (hok : okL gl) (i : Int) (hi : I64 i) {G : GAns} (he : Sw.addG A.sl gl i = G) {no : Nat} (h1 : G.no = no) (h2 : G.pl = -1) {gl' : Int} (h3' : G.last = gl') :
    Calls Try.prog 9 #[ptr r, nu i] w fun e w' => e = .returned (errP no (-1)) ∧ Hid (∃ n, n ≤ 3 ∧ Hs (T.rt r gl') w0 w' p q ⟨G.sl, A.fr, A.wr + n⟩ tl B ∧ Same B w w') := by
  obtain ⟨F, g1, g2, g3, g4, g5⟩ := h
  have := C.addG w p q r F A tl gl i g1 g2 hok (by omega) hi
  have hg := fun n => add_good g2 gl i n
  rw [he] at this hg
  rw [h1, h2, h3'] at this
  refine this.mono ?_
  rintro e w' ⟨rfl, n, hn, hl⟩
  exact ⟨rfl, n, hn, left_hs g3 g4 g5 hl (hg _)⟩

end
end Sw
end Go.Proofs.Ythabnombfbehkaa
/- The chapter's examples: SweepKnown out of what the program's calls must answer. -/
namespace Go.Proofs.Ythabnombfbehkaa
set_option linter.ambiguousOpen false
open Go.RowKit
namespace Sw
open An Rg Ft Lv
set_option linter.unusedSimpArgs false
set_option linter.unusedVariables false
attribute [local go_sem] Oper.semAt_some

/-- The states of the examples, as letters. -/
structure Kn (S0 : List Slt) (t0 : Int) (S1 : List Slt) (t1 : Int) (S2 : List Slt) (t2 : Int) (G3 G4 G5 G6 G7 : GAns) (U : Nat → UAns) : Prop where
  h0 : hAll (upP [0, 1, 1, 2, 0] 5) = (S0, t0)
  c1 : Tr.cutT S0 t0 0 = ⟨0, -1, S1, t1⟩
  c2 : Tr.cutT S1 t1 4 = ⟨0, -1, S2, t2⟩
  a3 : addG S2 (-1) 0 = G3
  a4 : addG G3.sl 0 4 = G4
  a5 : addG G4.sl 4 0 = G5
  a6 : addG G5.sl 4 9 = G6
  a7 : addG G6.sl 4 32 = G7
  n3 : G3.no = 0 ∧ G3.pl = -1 ∧ G3.last = 0
  n4 : G4.no = 0 ∧ G4.pl = -1 ∧ G4.last = 4
  n5 : G5.no = 9 ∧ G5.pl = -1 ∧ G5.last = 4
  n6 : G6.no = 10 ∧ G6.pl = -1 ∧ G6.last = 4
  n7 : G7.no = 1 ∧ G7.pl = -1 ∧ G7.last = 4
  all : allG G7.sl 4 = [0, 4, 1, 2, 3]
  u0 : U 0 = ⟨0, false, G7.sl, (List.range 32).drop 5, 4⟩
  us : ∀ k, unitG (U k).sl (U k).fr (U k).last = U (k + 1)
  un : ∀ k, k < 5 → (U (k + 1)).f = [0, 4, 1, 2, 3].getD k 0 ∧ (U (k + 1)).ok = true ∧ okL (U k).last
  ul : (U 5).last = -1
  uf : (U 5).fr = [3, 2, 1, 4, 0] ++ (List.range 32).drop 5

theorem kn_ex : ∃ S0 t0 S1 t1 S2 t2 G3 G4 G5 G6 G7 U, Kn S0 t0 S1 t1 S2 t2 G3 G4 G5 G6 G7 U :=
  ⟨n0.1, n0.2, n1.sl, n1.last, n2.sl, n2.last, n3, n4, n5, n6, n7, nU, {
    h0 := rfl
    c1 := tans_eq n1 n_cut.1.1 n_cut.1.2
    c2 := tans_eq n2 n_cut.2.1 n_cut.2.2
    a3 := by unfold n3; rfl
    a4 := by unfold n4; rfl
    a5 := by unfold n5; rfl
    a6 := by unfold n6; rfl
    a7 := n7_eq
    n3 := n_add.1
    n4 := n_add.2.1
    n5 := n_add.2.2.1
    n6 := n_add.2.2.2.1
    n7 := n_add.2.2.2.2
    all := n_all
    u0 := rfl
    us := fun k => rfl
    un := fun k hk => n_unit k hk
    ul := n_end.1
    uf := n_end.2 }⟩

/-- A row of numbers, made anew. -/
theorem rdN_new (w : World) (l : List Nat) (cs : Array Value) (hcs : cs.toList = l.map nun) (n : Nat) (hn : l.length = n) (h32 : n ≤ 1000) : RdN (w.alloc (.cells cs 3)) (.slice (some ⟨w.heap.size, 0, none⟩) n n) l := by
  have hsz : cs.size = n := by rw [← Array.length_toList, hcs, List.length_map, hn]
  exact own_rdN (base := w.heap.size) (n := n) ⟨by simp [hn], .inr ⟨w.heap.size, n, cs, rfl, Nat.le_refl _, heap_alloc_new _ _, Nat.le_refl _, by unfold maxLen; omega, by omega, by rw [hcs, Nat.mul_one, List.take_of_length_le (by simp [hn])]⟩⟩

/-- What stays where one new box alone is turned. -/
theorem Hs.but {R : RepTy} {w0 w w' : World} {p q : Nat} {A : Arn} {tl : Int} {B : Nat → Prop} {Bl : Nat} (K : ∀ q l, KeepC (R.ar q l)) (h : Hs R w0 w p q A tl B) (hBl : w.heap.size ≤ Bl) {w1 : World} (h1 : Below w.heap.size w w1) (hb : Rf.But Bl w1 w') : Hs R w0 w' p q A tl B := by
  have hk : Keep (fun j => j = Bl) w w' := by
    have hk1 : Keep (fun j => j = Bl) w1 w' := ⟨hb.1.os, hb.1.tape, hb.1.output, hb.1.size, fun k hk hn => hb.2 k hk hn⟩
    exact (Keep.of_below (F := fun j => j = Bl) h1).trans hk1 (fun _ _ e => e)
  obtain ⟨F, g1, g2, g3, g4, g5⟩ := h
  refine ⟨F, (K q tl).keep g1 hk (fun k hf e => by have := (K q tl).lt g1 k hf; omega), g2, g3, fun b hb' => ⟨(g4 b hb').1, Nat.lt_of_lt_of_le (g4 b hb').2 hk.size⟩, g5.trans (hk.below (fun k hk' e => by have := g5.size; omega) g5.size)⟩

/-- Amid the five units. -/
def Fv (R : RepTy) (w0 w : World) (p q V : Nat) (U : UAns) (m : Nat) (tl : Int) : Prop := Hs R w0 w p q ⟨U.sl, U.fr, m⟩ tl (fun b => b = V) ∧ w.heap[V]? = some (.cells #[nu 0, nu 4, nu 1, nu 2, nu 3] 3)

theorem want_at {w : World} {V : Nat} (h : w.heap[V]? = some (.cells #[nu 0, nu 4, nu 1, nu 2, nu 3] 3)) (k : Nat) (hk : k < 5) : w.cell? ⟨V, k, none⟩ = some (nun (([0, 4, 1, 2, 3] : List Nat).getD k 0)) := by
  have : k = 0 ∨ k = 1 ∨ k = 2 ∨ k = 3 ∨ k = 4 := by omega
  rcases this with rfl | rfl | rfl | rfl | rfl <;> simp [World.cell?, h]

end Sw
end Go.Proofs.Ythabnombfbehkaa
/- SweepOnce: what is counted, the row of the dead, what is freed; plain facts, and how it lies. -/
namespace Go.Proofs.Ythabnombfbehkaa
set_option linter.ambiguousOpen false
open Go.RowKit
namespace Sw
open An Rg Ft Lv
set_option linter.unusedSimpArgs false
set_option linter.unusedVariables false

/-! ### How many -/

def cnt (n : Nat) (f : Nat → Bool) : Nat := ((List.range n).filter f).length

theorem cnt_succ (n : Nat) (f : Nat → Bool) : cnt (n + 1) f = cnt n f + (if f n = true then 1 else 0) := by
  unfold cnt
  rw [List.range_succ, List.filter_append, List.length_append]
  congr 1
  by_cases h : f n = true
  · simp [h]
  · simp [h]

theorem cnt_congr {n : Nat} {f g : Nat → Bool} (h : ∀ t, t < n → f t = g t) : cnt n f = cnt n g := by
  unfold cnt
  rw [List.filter_congr (fun t ht => h t (List.mem_range.1 ht))]

theorem cnt_le (n : Nat) (f : Nat → Bool) : cnt n f ≤ n := by
  unfold cnt
  exact Nat.le_trans (List.length_filter_le _ _) (by simp)

theorem cnt_set (f : Nat → Bool) {j : Nat} (hj : f j = false) : ∀ n, j < n → cnt n (fun t => if t = j then true else f t) = cnt n f + 1
  | 0, h => by omega
  | n + 1, h => by
    rw [cnt_succ, cnt_succ]
    by_cases e : n = j
    · subst e
      have : cnt n (fun t => if t = n then true else f t) = cnt n f := cnt_congr (fun t ht => by rw [if_neg (by omega)])
      rw [this]
      simp [hj]
    · have ih := cnt_set f hj n (by omega)
      rw [ih]
      simp only [if_neg e]
      omega

theorem cnt_not (f : Nat → Bool) : ∀ n, cnt n (fun t => !f t) + cnt n f = n
  | 0 => rfl
  | n + 1 => by
    have := cnt_not f n
    rw [cnt_succ, cnt_succ]
    cases f n <;> simp <;> omega

/-! ### The row of the dead -/

def Dz (w : World) (Db : Nat) (f : Nat → Bool) : Prop := w.heap[Db]? = some (.cells ((List.range 32).map (fun j => Value.bool (f j))).toArray 30)

theorem Dz.lt {w : World} {Db : Nat} {f : Nat → Bool} (h : Dz w Db f) : Db < w.heap.size := (Array.getElem?_eq_some_iff.1 h).1

theorem Dz.cell {w : World} {Db : Nat} {f : Nat → Bool} (h : Dz w Db f) {j : Nat} (hj : j < 32) : w.cell? ⟨Db, j, none⟩ = some (.bool (f j)) := by
  rw [cell_of_row w Db j _ _ _ h]
  simp [hj]

theorem Dz.frozen {w : World} {Db : Nat} {f : Nat → Bool} (h : Dz w Db f) (j : Nat) : w.frozen? ⟨Db, j, none⟩ = false := by
  unfold Dz at h
  simp [World.frozen?, h]

theorem dz_new (w : World) : Dz (w.alloc (.cells ((List.range 32).map (fun _ => Value.bool false)).toArray 30)) w.heap.size (fun _ => false) := heap_alloc_new _ _

theorem Dz.set {w : World} {Db : Nat} {f : Nat → Bool} (h : Dz w Db f) (j : Nat) (b : Bool) : Dz (w.setCell ⟨Db, j, none⟩ (.bool b)) Db (fun t => if t = j then b else f t) := by
  unfold Dz at h ⊢
  rw [heap_setCell_same _ Db j _ _ _ h]
  refine congrArg (fun c => some (Obj.cells c 30 (0, 0))) (Array.toList_inj.1 ?_)
  rw [Array.toList_setIfInBounds]
  apply List.ext_getElem?
  intro t
  rw [List.getElem?_set]
  simp only [List.length_map, List.length_range, List.getElem?_map]
  by_cases e : j = t
  · subst e
    by_cases hj : j < 32
    · simp [hj]
    · simp [hj]
  · rw [if_neg e]
    by_cases ht : t < 32
    · simp [ht, Ne.symm e]
    · simp [ht]

theorem set_keep (w : World) (b j : Nat) (v : Value) : Keep (fun k => k = b) w (w.setCell ⟨b, j, none⟩ v) := (Keep.refl (fun k => k = b) w).setCell (p := ⟨b, j, none⟩) (.inl rfl) _

theorem keep_grown {w w' : World} {b : Nat} (h : Keep (fun k => k = b) w w') : w.grownBy w' (some b) := ⟨h.os, h.tape, h.output, h.size, fun k hk hn => h.block k hk (fun e => hn (by rw [e]))⟩

theorem own_block {w w' : World} {base n : Nat} {v : Value} {xs : List Value} (h : w.ownsRow base 3 1 v n xs) (hb : ∀ k, v.ownBlock = some k → w'.heap[k]? = w.heap[k]?) : w'.ownsRow base 3 1 v n xs := by
  refine ⟨h.1, ?_⟩
  rcases h.2 with h0 | ⟨g, cap, cur, rfl, hbg, hg, rest⟩
  · exact .inl h0
  · exact .inr ⟨g, cap, cur, rfl, hbg, (hb g rfl).trans hg, rest⟩

/-! ### Amid the cuts -/

structure Ou (T : R3Ty) (w wr : World) (p q r : Nat) (up : List Int) (uv : Value) (Db : Nat) (Q : List Nat) (m : Nat) (f : Nat → Bool) (S : List Slt) (tl : Int) : Prop where
  hs : Hs (T.rt r (lastI Q)) w wr p q ⟨S, (List.range 32).drop up.length, m⟩ tl (fun b => uv.ownBlock = some b ∨ b = Db)
  sg : Sg S tl up Q
  dz : Dz wr Db f
  uo : wr.ownsRow w.heap.size 3 1 uv up.length (up.map nu)
  ne : uv.ownBlock ≠ some Db
  lo : w.heap.size ≤ Db

section
variable {Rep : World → Nat → (Nat → Prop) → Arn → Prop} {R : RepTy} {T : R3Ty} {w wr w' : World} {p q r Db m : Nat} {up : List Int} {uv : Value} {Q : List Nat} {f : Nat → Bool} {S : List Slt} {tl : Int}

theorem Ou.below (C : OnceC Rep R T) (h : Ou T w wr p q r up uv Db Q m f S tl) (hb : Below wr.heap.size wr w') : Ou T w w' p q r up uv Db Q m f S tl :=
  ⟨h.hs.below3 C hb, h.sg, (hb.block Db h.dz.lt).trans h.dz, (Keep.of_below (F := fun _ => False) hb).own h.uo (fun _ _ h => h), h.ne, h.lo⟩

/-- One is dead. -/
theorem Ou.set (C : OnceC Rep R T) (h : Ou T w wr p q r up uv Db Q m f S tl) (j : Nat) (b : Bool) : Ou T w (wr.setCell ⟨Db, j, none⟩ (.bool b)) p q r up uv Db Q m (fun t => if t = j then b else f t) S tl :=
  ⟨h.hs.turn (fun q l => C.keep3 q r l (lastI Q)) (.inr rfl) (keep_grown (set_keep wr Db j _)) (fun c hc => .inl hc) (set_keep wr Db j (.bool b)).size h.lo, h.sg, h.dz.set j b, (set_keep wr Db j _).own h.uo (fun k hk e => h.ne (e ▸ hk)), h.ne, h.lo⟩

/-- One more is cut and put into the garbage. -/
theorem Ou.cut (C : OnceC Rep R T) (h : Ou T w wr p q r up uv Db Q m f S tl) (hu : Tr.Ups up) (hw : m ≤ 90000) {c : Nat} (hc : c < up.length) (hcQ : c ∉ Q) (h32 : up.length ≤ 32) :
    Calls Try.prog 8 #[ptr q, nun c] wr fun e w' => e = .returned .nilIface ∧ Hid (Calls Try.prog 9 #[ptr r, nun c] w' fun e w'' => e = .returned .nilIface ∧ Hid (∃ m' S' tl', m' ≤ m + 11 ∧ Ou T w w'' p q r up uv Db (Q ++ [c]) m' f S' tl')) := by
  obtain ⟨S', tl', S'', e1, e2, e3⟩ := h.sg.cut hu hc hcQ
  have l1 : S'.length = 32 := by
    have := Tr.cutT_len S tl c
    rw [e1] at this
    exact this.trans h.sg.hg.len
  have hok : okL (lastI Q) := by
    by_cases hQ : Q = []
    · subst hQ
      exact .inl rfl
    · exact .inr (lastI_there h.sg.rq hQ)
  have hi : I64 (c : Int) := ⟨by omega, by omega⟩
  refine (h.hs.cut C (by show m ≤ 100000; omega) c hi l1 e1).mono ?_
  rintro e w1 ⟨rfl, hQ1⟩
  obtain ⟨n1, hn1, g1, s1⟩ := hQ1.out
  refine ⟨rfl, (g1.addG C (by show m + n1 ≤ 100000; omega) hok c hi e3.hg.len e2).mono ?_⟩
  rintro e w2 ⟨rfl, hQ2⟩
  obtain ⟨n2, hn2, g2, s2⟩ := hQ2.out
  have hb : ∀ b, (uv.ownBlock = some b ∨ b = Db) → w2.heap[b]? = wr.heap[b]? := fun b hb => (s2 b hb).trans (s1 b hb)
  exact ⟨rfl, m + n1 + n2, S'', tl', by omega, g2, e3, (hb Db (.inr rfl)).trans h.dz, own_block h.uo (fun k hk => hb k (.inl hk)), h.ne, h.lo⟩
end

/-! ### What is freed -/

/-- What lies in memory. -/
structure Fm (w wr : World) (Db : Nat) (up : List Int) (uv : Value) (W : List Nat) (ov : Value) (f : Nat → Bool) : Prop where
  dz : Dz wr Db f
  uo : wr.ownsRow w.heap.size 3 1 uv up.length (up.map nu)
  oo : wr.ownsRow w.heap.size 3 1 ov W.length (W.map nun)
  nu : uv.ownBlock ≠ some Db
  no : ov.ownBlock ≠ some Db
  lo : w.heap.size ≤ Db

/-- The blocks of it. -/
@[reducible] def Fb (uv ov : Value) (Db : Nat) : Nat → Prop := fun b => (uv.ownBlock = some b ∨ b = Db) ∨ ov.ownBlock = some b

theorem Fm.same {w wr w' : World} {Db : Nat} {up : List Int} {uv : Value} {W : List Nat} {ov : Value} {f : Nat → Bool} (h : Fm w wr Db up uv W ov f) (hb : ∀ b, Fb uv ov Db b → w'.heap[b]? = wr.heap[b]?) : Fm w w' Db up uv W ov f :=
  ⟨(hb Db (.inl (.inr rfl))).trans h.dz, own_block h.uo (fun k hk => hb k (.inl (.inl hk))), own_block h.oo (fun k hk => hb k (.inr hk)), h.nu, h.no, h.lo⟩

theorem Fm.lt {w wr : World} {Db : Nat} {up : List Int} {uv : Value} {W : List Nat} {ov : Value} {f : Nat → Bool} (h : Fm w wr Db up uv W ov f) (b : Nat) (hb : Fb uv ov Db b) : w.heap.size ≤ b ∧ b < wr.heap.size := by
  rcases hb with (hb | rfl) | hb
  · exact h.uo.lt b hb
  · exact ⟨h.lo, h.dz.lt⟩
  · exact h.oo.lt b hb

theorem Fm.below {w wr w' : World} {Db : Nat} {up : List Int} {uv : Value} {W : List Nat} {ov : Value} {f : Nat → Bool} (h : Fm w wr Db up uv W ov f) (hb : Below wr.heap.size wr w') : Fm w w' Db up uv W ov f := h.same (fun b hbb => hb.block b (h.lt b hbb).2)

theorem Fm.set {w wr : World} {Db : Nat} {up : List Int} {uv : Value} {W : List Nat} {ov : Value} {f : Nat → Bool} (h : Fm w wr Db up uv W ov f) (j : Nat) (b : Bool) : Fm w (wr.setCell ⟨Db, j, none⟩ (.bool b)) Db up uv W ov (fun t => if t = j then b else f t) :=
  ⟨h.dz.set j b, (set_keep wr Db j _).own h.uo (fun k hk e => h.nu (e ▸ hk)), (set_keep wr Db j _).own h.oo (fun k hk e => h.no (e ▸ hk)), h.nu, h.no, h.lo⟩

/-- The order of what is freed, k of them behind. -/
structure Fp (up : List Int) (ch : Nat → List Nat) (W : List Nat) (k : Nat) (S : List Slt) (Q : List Nat) : Prop where
  fq : Fq S Q ch (W.drop k)
  wl : ∀ j ∈ W, j < up.length
  nd : W.Nodup
  us : ∀ t, t < up.length → (t ∈ W.take k → (Tr.at' S t).used = false) ∧ (t ∉ W.take k → (Tr.at' S t).used = true ∧ (Tr.at' S t).s.birth = (t : Int) + 1)

theorem core_used {x y : Slt} (h : Tr.core x = Tr.core y) : x.used = y.used := congrArg Prod.fst h

theorem core_birth {x y : Slt} (h : Tr.core x = Tr.core y) : x.s.birth = y.s.birth := congrArg (fun c => c.2.2.birth) h

theorem Fp.unit {up : List Int} {ch : Nat → List Nat} {W : List Nat} {k : Nat} {S : List Slt} {Q : List Nat} (h : Fp up ch W k S Q) (hk : k < W.length) (h32 : up.length ≤ 32) :
    ∃ x S' Q', W[k]? = some x ∧ x < up.length ∧ x ∉ W.drop (k + 1) ∧ W.drop k = x :: W.drop (k + 1) ∧ there (lastI Q) ∧ unitG S ((W.take k).reverse ++ (List.range 32).drop up.length) (lastI Q) = ⟨x, true, S', (W.take (k + 1)).reverse ++ (List.range 32).drop up.length, lastI Q'⟩ ∧ Fp up ch W (k + 1) S' Q' ∧ (Tr.at' S' x).used = false := by
  obtain ⟨x, hx⟩ : ∃ x, W[k]? = some x := ⟨_, List.getElem?_eq_getElem hk⟩
  obtain ⟨hkl, hxe⟩ := List.getElem?_eq_some_iff.1 hx
  have hd : W.drop k = x :: W.drop (k + 1) := by rw [List.drop_eq_getElem_cons hkl, hxe]
  have ht : W.take (k + 1) = W.take k ++ [x] := by rw [← hxe]; exact List.take_succ_eq_append_getElem hkl
  have hxW : x ∈ W := List.mem_of_getElem? hx
  have hnd : (W.take k ++ (x :: W.drop (k + 1))).Nodup := by rw [← hd, List.take_append_drop]; exact h.nd
  have hx1 : x ∉ W.take k := fun e => (List.nodup_append.1 hnd).2.2 x e x (by simp) rfl
  have hx2 : x ∉ W.drop (k + 1) := (List.nodup_cons.1 (List.nodup_append.1 hnd).2.1).1
  have hq := h.fq
  rw [hd] at hq
  obtain ⟨Q0, rfl⟩ : ∃ Q0, Q = x :: Q0 := by
    have hb := hq.bf
    cases hb with
    | cons hb => exact ⟨_, rfl⟩
  have hf : x ∉ (W.take k).reverse ++ (List.range 32).drop up.length := fun e => by
    rcases List.mem_append.1 e with e | e
    · exact hx1 (List.mem_reverse.1 e)
    · have := h.wl x hxW
      rw [List.mem_drop_iff_getElem] at e
      obtain ⟨i, hi, e⟩ := e
      simp at e
      omega
  obtain ⟨S', e1, e2, e3, e4⟩ := hq.unit hf
  have hxu : (Tr.at' S' x).used = false := congrArg Slt.used e3
  refine ⟨x, S', Q0 ++ ch x, hx, h.wl x hxW, hx2, hd, lastI_there hq.rq (by simp), ?_, ⟨e2, h.wl, h.nd, fun t ht' => ?_⟩, hxu⟩
  · rw [e1, ht, List.reverse_append]
    rfl
  · rw [ht]
    by_cases e : t = x
    · subst e
      exact ⟨fun _ => hxu, fun hn => absurd (by simp) hn⟩
    · have hc := e4 t e
      have := h.us t ht'
      refine ⟨fun hm => ?_, fun hn => ?_⟩
      · rw [core_used hc]
        refine this.1 ?_
        rcases List.mem_append.1 hm with hm | hm
        · exact hm
        · simp at hm
          exact absurd hm e
      · rw [core_used hc, core_birth hc]
        exact this.2 (fun hm => hn (by simp [hm]))

theorem Fp.last {up : List Int} {ch : Nat → List Nat} {W : List Nat} {S : List Slt} {Q : List Nat} (h : Fp up ch W W.length S Q) : Q = [] := by
  have hq := h.fq.bf
  rw [List.drop_length] at hq
  rcases List.eq_nil_or_concat Q with e | ⟨a, b, e⟩
  · exact e
  · have := hq.mem b (by rw [e]; simp)
    simp at this

theorem Fp.start {up : List Int} {S : List Slt} {tl : Int} {Q : List Nat} (h : Sg S tl up Q) (hu : Tr.Ups up) : ∃ W, Fp up (fun j => kidsQ up j Q) W 0 S Q ∧ allG S (lastI Q) = W ∧ ∀ j, j < up.length → (j ∈ W ↔ deadB up Q j = true) := by
  obtain ⟨W, w1, w2, w3⟩ := h.order hu
  refine ⟨W, ⟨by simpa using w1, w2, w1.nd, fun t ht => ⟨fun hm => by simp at hm, fun _ => ?_⟩⟩, w1.all, w3⟩
  exact ⟨h.hg.used t ht, h.hg.birth t ht⟩

/-! ### Amid the units -/

structure S3 (T : R3Ty) (w wr : World) (p q r : Nat) (up : List Int) (uv : Value) (Db : Nat) (W : List Nat) (ov : Value) (ch : Nat → List Nat) (Ds : List Nat) (k m : Nat) (S : List Slt) (Q : List Nat) (f : Nat → Bool) (tl : Int) : Prop where
  hs : Hs (T.rt r (lastI Q)) w wr p q ⟨S, (W.take k).reverse ++ (List.range 32).drop up.length, m⟩ tl (fun b => Fb uv ov Db b ∨ b ∈ Ds)
  fm : Fm w wr Db up uv W ov f
  fp : Fp up ch W k S Q
  ft : ∀ t, t < up.length → (f t = true ↔ t ∈ W.drop k)
  op : Rf.Open w.heap.size Ds wr

section
variable {Rep : World → Nat → (Nat → Prop) → Arn → Prop} {R : RepTy} {T : R3Ty} {w wr w' : World} {p q r Db m k : Nat} {up : List Int} {uv ov : Value} {W Q Ds : List Nat} {f : Nat → Bool} {S : List Slt} {tl : Int} {ch : Nat → List Nat}

theorem S3.below (C : OnceC Rep R T) (h : S3 T w wr p q r up uv Db W ov ch Ds k m S Q f tl) (hb : Below wr.heap.size wr w') : S3 T w w' p q r up uv Db W ov ch Ds k m S Q f tl :=
  ⟨h.hs.below3 C hb, h.fm.below hb, h.fp, h.ft, h.op.below hb (Nat.le_refl _)⟩

/-- Where a new box alone is turned. -/
theorem S3.but (C : OnceC Rep R T) (h : S3 T w wr p q r up uv Db W ov ch Ds k m S Q f tl) {Bl : Nat} (hBl : wr.heap.size ≤ Bl) {w1 : World} (h1 : Below wr.heap.size wr w1) (hb : Rf.But Bl w1 w') : S3 T w w' p q r up uv Db W ov ch Ds k m S Q f tl := by
  have hbl : ∀ b, b < wr.heap.size → w'.heap[b]? = wr.heap[b]? := fun b hlt => (hb.2 b (Nat.lt_of_lt_of_le hlt h1.size) (by omega)).trans (h1.block b hlt)
  exact ⟨h.hs.but (fun q l => C.keep3 q r l (lastI Q)) hBl h1 hb, h.fm.same (fun b hbb => hbl b (h.fm.lt b hbb).2), h.fp, h.ft, h.op.kept (fun D hD => hbl D (h.op.lt D hD))⟩

/-- And one more mark. -/
theorem S3.mark (C : OnceC Rep R T) (h : S3 T w wr p q r up uv Db W ov ch Ds k m S Q f tl) {Bl : Nat} (hBl : wr.heap.size ≤ Bl) {w1 : World} (h1 : Below wr.heap.size wr w1) (hb : Rf.But Bl w1 w') {D : Nat} (hD : wr.heap.size ≤ D) (hK : w'.heap[D]? = some (.deferred (some []))) : S3 T w w' p q r up uv Db W ov ch (D :: Ds) k m S Q f tl := by
  have h2 := h.but C hBl h1 hb
  have hk : Keep (fun j => j = Bl) wr w' := (Keep.of_below (F := fun j => j = Bl) h1).trans ⟨hb.1.os, hb.1.tape, hb.1.output, hb.1.size, fun k hk hn => hb.2 k hk hn⟩ (fun _ _ e => e)
  have hw := h.hs.bel.size
  refine ⟨?_, h2.fm, h2.fp, h2.ft, h2.op.cons (by omega) hK (fun e => by have := h.op.lt D e; omega)⟩
  obtain ⟨F, g1, g2, g3, g4, g5⟩ := h.hs
  refine ⟨F, (C.keep3 q r tl (lastI Q)).keep g1 hk (fun k hf e => by have := (C.keep3 q r tl (lastI Q)).lt g1 k hf; omega), g2, g3, fun b hb' => ?_, h2.hs.bel⟩
  rcases hb' with hb' | hb'
  · exact ⟨(g4 b (.inl hb')).1, Nat.lt_of_lt_of_le (g4 b (.inl hb')).2 hk.size⟩
  · rcases List.mem_cons.1 hb' with rfl | hb'
    · exact ⟨fun hf => by have := (C.keep3 q r tl (lastI Q)).lt g1 b hf; omega, (Array.getElem?_eq_some_iff.1 hK).1⟩
    · exact ⟨(g4 b (.inr hb')).1, Nat.lt_of_lt_of_le (g4 b (.inr hb')).2 hk.size⟩

/-- One unit, and what was dead is so no more. -/
theorem S3.unit (C : OnceC Rep R T) (h : S3 T w wr p q r up uv Db W ov ch Ds k m S Q f tl) (hk : k < W.length) (h32 : up.length ≤ 32) (hm : m ≤ 90000) :
    ∃ x, x < up.length ∧ W[k]? = some x ∧ Calls Try.prog 12 #[ptr r] wr fun e w' => e = .returned (.tuple #[nun x, .bool true]) ∧ Hid (w'.cell? ⟨Db, x, none⟩ = some (.bool true) ∧ w'.frozen? ⟨Db, x, none⟩ = false ∧ w'.ownsRow w.heap.size 3 1 ov W.length (W.map nun) ∧ ∃ m' S' Q', m' ≤ m + 8 ∧ S3 T w (w'.setCell ⟨Db, x, none⟩ (.bool false)) p q r up uv Db W ov ch Ds (k + 1) m' S' Q' (fun t => if t = x then false else f t) tl ∧ (Tr.at' S' x).used = false) := by
  obtain ⟨x, S', Q', hx, hxu, hx2, hd, hth, e1, hfp, hxx⟩ := h.fp.unit hk h32
  refine ⟨x, hxu, hx, ?_⟩
  refine (h.hs.unit C (by show m ≤ 100000; omega) (.inr hth) e1).mono ?_
  rintro e w' ⟨rfl, hQ⟩
  obtain ⟨n, hn, g1, g2⟩ := hQ.out
  have hfm := h.fm.same (fun b hb => g2 b (.inl hb))
  have hfx : f x = true := (h.ft x hxu).2 (by rw [hd]; simp)
  refine ⟨rfl, by rw [← hfx]; exact hfm.dz.cell (by omega), hfm.dz.frozen x, hfm.oo, m + n, S', Q', by omega, ⟨g1.turn (fun q l => C.keep3 q r l (lastI Q')) (.inl (.inl (.inr rfl))) (keep_grown (set_keep w' Db x _)) (fun c hc => .inl hc) (set_keep w' Db x (.bool false)).size h.fm.lo, hfm.set x false, hfp, fun t ht => ?_, ?_⟩, hxx⟩
  · by_cases e : t = x
    · subst e
      rw [if_pos rfl]
      exact ⟨fun h => (by cases h), fun h => absurd h hx2⟩
    · rw [if_neg e, h.ft t ht, hd]
      simp [e]
  · refine (h.op.kept (fun D hD => g2 D (.inr hD))).kept (fun D hD => (set_keep w' Db x (.bool false)).block D ?_ ?_)
    · exact (Array.getElem?_eq_some_iff.1 ((g2 D (.inr hD)).trans (h.op.2 D hD).2)).1
    · intro e
      have h7 := (h.op.2 D hD).2
      have h8 := h.fm.dz
      unfold Dz at h8
      rw [← e, h7] at h8
      cases h8
end
end Sw
end Go.Proofs.Ythabnombfbehkaa
