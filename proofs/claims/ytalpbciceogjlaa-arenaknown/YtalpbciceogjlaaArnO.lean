/- The chapter's examples: out of what the program's calls must answer. -/
import Derived.Test.YtalpbciceogjlaaArnN
namespace Go.Proofs.Ytalpbciceogjlaa
set_option linter.ambiguousOpen false
open Go.RowKit
namespace An
open Ft Lv
set_option linter.unusedSimpArgs false
set_option linter.unusedVariables false
attribute [local go_sem] Oper.semAt_some

section
variable {Rep : World → Nat → (Nat → Prop) → Arn → Prop} {w0 w w' : World} {p : Nat} {F : Nat → Prop} {A A' : Arn} {K : List (Nat × Obj)}

/-- A slot in a block of its own. -/
def lob (x : Slt) : Obj := .cells x.cells.toArray 34

/-- The arena, and blocks of the law's own, which lie apart. -/
structure Sk (Rep : World → Nat → (Nat → Prop) → Arn → Prop) (w0 w : World) (p : Nat) (F : Nat → Prop) (A : Arn) (K : List (Nat × Obj)) : Prop where
  rep : Rep w p F A
  good : Good A
  fl : ∀ k, F k → w0.heap.size ≤ k
  bel : Below w0.heap.size w0 w
  kept : ∀ b x, (b, x) ∈ K → w.heap[b]? = some x ∧ ¬ F b

theorem Sk.turn (h : Sk Rep w0 w p F A K) (hl : Left Rep w w' p F A') (hg : Good A') : ∃ F', Sk Rep w0 w' p F' A' K := by
  obtain ⟨F', h1, h2, h3⟩ := hl
  refine ⟨F', h1, hg, fun k hk => (h3 k hk).elim (h.fl k) (fun e => Nat.le_trans h.bel.size e), h.bel.trans (h2.below (fun k hk hc => by have := h.fl k hc; omega) h.bel.size), fun b x hb => ?_⟩
  obtain ⟨k1, k2⟩ := h.kept b x hb
  have lb := (Array.getElem?_eq_some_iff.1 k1).1
  refine ⟨(h2.block b lb k2).trans k1, fun e => ?_⟩
  rcases h3 b e with h4 | h4
  · exact k2 h4
  · omega

theorem Sk.below (H : KeepC Rep) (h : Sk Rep w0 w p F A K) (hb : Below w.heap.size w w') : Sk Rep w0 w' p F A K :=
  ⟨H.below h.rep hb, h.good, h.fl, h.bel.trans (hb.mono h.bel.size), fun b x hx => ⟨(hb.block b (Array.getElem?_eq_some_iff.1 (h.kept b x hx).1).1).trans (h.kept b x hx).1, (h.kept b x hx).2⟩⟩

theorem Sk.add (H : KeepC Rep) (h : Sk Rep w0 w p F A K) (hb : Below w.heap.size w w') {b : Nat} {x : Obj} (hl : w'.heap[b]? = some x) (hx : w.heap.size ≤ b) : Sk Rep w0 w' p F A ((b, x) :: K) := by
  have h' := h.below H hb
  refine ⟨h'.rep, h'.good, h'.fl, h'.bel, fun b' x' hm => ?_⟩
  rcases List.mem_cons.1 hm with e | e
  · obtain ⟨rfl, rfl⟩ := Prod.mk.inj e
    exact ⟨hl, fun e => by have := H.lt h.rep _ e; omega⟩
  · exact h'.kept b' x' e
end

def kw : List Nat := 1 :: ([2, 3, 4] ++ (List.range 32).drop 6)
def ks : Slt := ⟨true, false, 3, 0, 0, ses0, by decide⟩
def k1 : Arn := ⟨List.replicate 32 bare, (List.range 32).drop 1, 0⟩
def k2 : Arn := ⟨List.replicate 32 bare, (List.range 32).drop 2, 0⟩
def k3 : Arn := ⟨List.replicate 32 bare, [2, 3, 4] ++ (List.range 32).drop 6, 0⟩
def k4 : Arn := ⟨List.replicate 32 bare, kw, 1⟩
def k5 : Arn := ⟨ks :: List.replicate 31 bare, kw, 2⟩
def k6 : Arn := ⟨List.replicate 32 bare, 0 :: kw, 3⟩

theorem ek1 : arn0.take = (0, 0, k1) := by kernel_rfl
theorem ek2 : k1.take = (0, 1, k2) := by kernel_rfl
theorem ek3 : k2.place 5 = (0, k3) := by kernel_rfl
theorem ek4 : k3.place 0 = (10, k3) := by kernel_rfl
theorem ek5 : k3.place 32 = (1, k3) := by kernel_rfl
theorem ek6 : k3.free 1 = (0, k4) := by kernel_rfl
theorem ek7 : k4.free 1 = (9, k4) := by kernel_rfl
theorem ek8 : k4.free 7 = (9, k4) := by kernel_rfl
theorem ek9 : k4.free (-1) = (1, k4) := by kernel_rfl
theorem ek11 : k4.put 0 ks = (0, k5) := by kernel_rfl
theorem ek12 : k5.at 0 = ks := by kernel_rfl
theorem ek13 : k5.free 0 = (0, k6) := by kernel_rfl
theorem ek14 : k6.at 0 = bare := by kernel_rfl
theorem ek15 : k6.put 32 ks = (1, k6) := by kernel_rfl
theorem ek16 : k6.at (-1) = slt0 := by kernel_rfl
theorem ek17 : k6.at 32 = slt0 := by kernel_rfl

theorem eq_bare (w : World) : (binOp .eql 34 (.agg bare.cells.toArray) (.agg bareA)).run Try.prog w = .ok (.bool true) w := eql_self bare w

set_option maxRecDepth 1000000 in
set_option maxHeartbeats 8000000 in
theorem arenaKnown_yes {Rep : World → Nat → (Nat → Prop) → Arn → Prop} (H : KeepC Rep) (CN : NewC Rep) (CG : GetC Rep) (CP : PutC Rep) (CT : TakeC Rep) (CL : PlaceC Rep) (CX : FreeC Rep) (CF : FreesC Rep) (CW : WritesC Rep) (w : World) :
    Calls Try.prog 5 #[] w fun e w' => e = .returned (.bool true) ∧ Below w.heap.size w w' := by
  obtain ⟨i0, ji, hz0, hz1, hz2⟩ := info_parts info_int
  have c0 : Hid (∀ wx, _) := fun wx => works_any CN CT CX CF wx
  have c1 := Hid.mk' (CN w)
  have HH := Hid.mk' H
  have tk : Hid (∀ wx p A K, Hid (∃ F, Sk Rep w wx p F A K) → Calls Try.prog 10 #[ptr p] wx fun e w' => e = .returned (.tuple #[nun A.take.2.1, errE A.take.1]) ∧ Hid (∃ F, Sk Rep w w' p F A.take.2.2 K)) := fun wx p A K hq => by
    obtain ⟨F, h⟩ := hq.out
    refine (CT wx p F A h.rep h.good).mono ?_
    rintro e w' ⟨rfl, hl⟩
    exact ⟨rfl, h.turn hl h.good.take⟩
  have pl : Hid (∀ wx p A K i, Hid (∃ F, Sk Rep w wx p F A K) → (-9223372036854775808 ≤ i ∧ i ≤ 9223372036854775807) → Calls Try.prog 11 #[ptr p, nu i] wx fun e w' => e = .returned (errE (A.place i).1) ∧ Hid (∃ F, Sk Rep w w' p F (A.place i).2 K)) := fun wx p A K i hq hi => by
    obtain ⟨F, h⟩ := hq.out
    refine (CL wx p F A i h.rep h.good hi).mono ?_
    rintro e w' ⟨rfl, hl⟩
    exact ⟨rfl, h.turn hl (h.good.place i)⟩
  have fr : Hid (∀ wx p A K i, Hid (∃ F, Sk Rep w wx p F A K) → A.wr ≤ 10 → (-9223372036854775808 ≤ i ∧ i ≤ 9223372036854775807) → Calls Try.prog 12 #[ptr p, nu i] wx fun e w' => e = .returned (errE (A.free i).1) ∧ Hid (∃ F, Sk Rep w w' p F (A.free i).2 K)) := fun wx p A K i hq hw hi => by
    obtain ⟨F, h⟩ := hq.out
    refine (CX wx p F A i h.rep h.good (by omega) hi).mono ?_
    rintro e w' ⟨rfl, hl⟩
    exact ⟨rfl, h.turn hl (h.good.free i)⟩
  have pu : Hid (∀ wx p A K i s, Hid (∃ F, Sk Rep w wx p F A K) → A.wr ≤ 10 → (-9223372036854775808 ≤ i ∧ i ≤ 9223372036854775807) → Calls Try.prog 9 #[ptr p, nu i, Slt.v s] wx fun e w' => e = .returned (errE (A.put i s).1) ∧ Hid (∃ F, Sk Rep w w' p F (A.put i s).2 K)) := fun wx p A K i s hq hw hi => by
    obtain ⟨F, h⟩ := hq.out
    refine (CP wx p F A i s h.rep h.good (by omega) hi).mono ?_
    rintro e w' ⟨rfl, hl⟩
    exact ⟨rfl, h.turn hl (h.good.put i s)⟩
  have ge : Hid (∀ wx p A K i, Hid (∃ F, Sk Rep w wx p F A K) → (-9223372036854775808 ≤ i ∧ i ≤ 9223372036854775807) → Calls Try.prog 14 #[ptr p, nu i] wx fun e w' => e = .returned (.tuple #[(A.at i).v, errE (Arn.atE i)]) ∧ Hid (∃ F, Sk Rep w w' p F A K)) := fun wx p A K i hq hi => by
    obtain ⟨F, h⟩ := hq.out
    refine (CG wx p F A i h.rep h.good hi).mono ?_
    rintro e w' ⟨rfl, hb⟩
    exact ⟨rfl, F, h.below H hb⟩
  have wt : Hid (∀ wx p A K, Hid (∃ F, Sk Rep w wx p F A K) → A.wr ≤ 10 → Calls Try.prog 16 #[ptr p] wx fun e w' => e = .returned (nun A.wr) ∧ Hid (∃ F, Sk Rep w w' p F A K)) := fun wx p A K hq hw => by
    obtain ⟨F, h⟩ := hq.out
    refine (CW wx p F A h.rep (by omega)).mono ?_
    rintro e w' ⟨rfl, hb⟩
    exact ⟨rfl, F, h.below H hb⟩
  have nm : Hid (∀ wx p A K (n : Nat), Hid (∃ F, Sk Rep w wx p F A K) → 1 ≤ n → n ≤ 24 → Calls Try.prog 15 #[noE n] wx fun e w' => e = .returned (nu n) ∧ Hid (∃ F, Sk Rep w w' p F A K)) := fun wx p A K n hq h1 h2 => by
    obtain ⟨F, h⟩ := hq.out
    refine (Er.num_no n h1 h2 wx).mono ?_
    rintro e w' ⟨rfl, hb⟩
    exact ⟨rfl, F, h.below H hb⟩
  have fs : Hid (∀ wx p A K, Hid (∃ F, Sk Rep w wx p F A K) → Calls Try.prog 13 #[ptr p] wx fun e w' => ∃ fv X, e = .returned fv ∧ IterA w' fv X A.fr ∧ (∀ b, X b → wx.heap.size ≤ b) ∧ Below wx.heap.size wx w') := fun wx p A K hq => by
    obtain ⟨F, h⟩ := hq.out
    exact CF wx p F A h.rep h.good
  have hz : ∀ n : Nat, errE (n + 1) = noE ((n + 1 : Nat) : Int) := fun n => rfl
  clear H CN CG CP CT CL CX CF CW
  refine (callsIn_wide (n := 8)).1 ?_
  refine callsIn_of_wp_marks Try.func5 rfl trivial ?_ rfl
  refine wpIn_wide.2 ?_
  simp only [Try.ntmps5, List.size_toArray, List.length_cons, List.length_nil, Nat.reduceAdd, Nat.reduceSub, Array.replicate_succ, Array.replicate_zero, List.push_toArray, List.append_toArray, List.nil_append, List.cons_append]
  clear hz
  go_wp2_with fail
  refine c1.out.mono ?_
  rintro e w1 ⟨p, F, rfl, hr, hf, hb⟩
  have S1 : Hid (∃ F, Sk Rep w w1 p F arn0 []) := ⟨F, hr, good0, hf, hb, fun b x h => by simp at h⟩
  clear hr hf hb c1
  go_wp2_with fail
  refine (c0.out _).mono ?_
  rintro e w2 ⟨rfl, hb⟩
  have S2 : Hid (∃ F, Sk Rep w w2 p F arn0 []) := by
    obtain ⟨F, h⟩ := S1.out
    exact ⟨F, h.below HH.out hb⟩
  clear hb c0 S1
  have C : Hid (Calls Try.prog 10 #[ptr p] w2 fun e w' => e = .returned (.tuple #[nun 0, .nilIface]) ∧ Hid (∃ F, Sk Rep w w' p F k1 [])) := by
    have := tk.out w2 p arn0 [] S2
    rw [ek1] at this
    exact this
  go_wp2_with fail
  refine C.out.mono ?_
  rintro e w3 ⟨rfl, S3⟩
  clear C S2
  have C : Hid (Calls Try.prog 10 #[ptr p] w3 fun e w' => e = .returned (.tuple #[nun 1, .nilIface]) ∧ Hid (∃ F, Sk Rep w w' p F k2 [])) := by
    have := tk.out w3 p k1 [] S3
    rw [ek2] at this
    exact this
  go_wp2_with fail
  refine C.out.mono ?_
  rintro e w4 ⟨rfl, S4⟩
  clear C S3
  have C : Hid (Calls Try.prog 11 #[ptr p, nu 5] w4 fun e w' => e = .returned (.nilIface) ∧ Hid (∃ F, Sk Rep w w' p F k3 [])) := by
    have := pl.out w4 p k2 [] 5 S4 (by decide)
    rw [ek3] at this
    exact this
  go_wp2_with fail
  refine C.out.mono ?_
  rintro e w5 ⟨rfl, S5⟩
  clear C S4
  have C : Hid (Calls Try.prog 11 #[ptr p, nu 0] w5 fun e w' => e = .returned (noE 10) ∧ Hid (∃ F, Sk Rep w w' p F k3 [])) := by
    have := pl.out w5 p k3 [] 0 S5 (by decide)
    rw [ek4] at this
    exact this
  go_wp2_with fail
  refine C.out.mono ?_
  rintro e w6 ⟨rfl, S6⟩
  clear C S5
  have C : Hid (Calls Try.prog 15 #[noE 10] w6 fun e w' => e = .returned (nu 10) ∧ Hid (∃ F, Sk Rep w w' p F k3 [])) := by
    have := nm.out w6 p k3 [] 10 S6 (by decide) (by decide)
    skip
    exact this
  go_wp2_with fail
  refine C.out.mono ?_
  rintro e w7 ⟨rfl, S7⟩
  clear C S6
  have C : Hid (Calls Try.prog 11 #[ptr p, nu 32] w7 fun e w' => e = .returned (noE 1) ∧ Hid (∃ F, Sk Rep w w' p F k3 [])) := by
    have := pl.out w7 p k3 [] 32 S7 (by decide)
    rw [ek5] at this
    exact this
  go_wp2_with fail
  refine C.out.mono ?_
  rintro e w8 ⟨rfl, S8⟩
  clear C S7
  have C : Hid (Calls Try.prog 15 #[noE 1] w8 fun e w' => e = .returned (nu 1) ∧ Hid (∃ F, Sk Rep w w' p F k3 [])) := by
    have := nm.out w8 p k3 [] 1 S8 (by decide) (by decide)
    skip
    exact this
  go_wp2_with fail
  refine C.out.mono ?_
  rintro e w9 ⟨rfl, S9⟩
  clear C S8
  have C : Hid (Calls Try.prog 12 #[ptr p, nu 1] w9 fun e w' => e = .returned (.nilIface) ∧ Hid (∃ F, Sk Rep w w' p F k4 [])) := by
    have := fr.out w9 p k3 [] 1 S9 (by decide) (by decide)
    rw [ek6] at this
    exact this
  go_wp2_with fail
  refine C.out.mono ?_
  rintro e w10 ⟨rfl, S10⟩
  clear C S9
  have C : Hid (Calls Try.prog 12 #[ptr p, nu 1] w10 fun e w' => e = .returned (noE 9) ∧ Hid (∃ F, Sk Rep w w' p F k4 [])) := by
    have := fr.out w10 p k4 [] 1 S10 (by decide) (by decide)
    rw [ek7] at this
    exact this
  go_wp2_with fail
  refine C.out.mono ?_
  rintro e w11 ⟨rfl, S11⟩
  clear C S10
  have C : Hid (Calls Try.prog 15 #[noE 9] w11 fun e w' => e = .returned (nu 9) ∧ Hid (∃ F, Sk Rep w w' p F k4 [])) := by
    have := nm.out w11 p k4 [] 9 S11 (by decide) (by decide)
    skip
    exact this
  go_wp2_with fail
  refine C.out.mono ?_
  rintro e w12 ⟨rfl, S12⟩
  clear C S11
  have C : Hid (Calls Try.prog 12 #[ptr p, nu 7] w12 fun e w' => e = .returned (noE 9) ∧ Hid (∃ F, Sk Rep w w' p F k4 [])) := by
    have := fr.out w12 p k4 [] 7 S12 (by decide) (by decide)
    rw [ek8] at this
    exact this
  go_wp2_with fail
  refine C.out.mono ?_
  rintro e w13 ⟨rfl, S13⟩
  clear C S12
  have C : Hid (Calls Try.prog 15 #[noE 9] w13 fun e w' => e = .returned (nu 9) ∧ Hid (∃ F, Sk Rep w w' p F k4 [])) := by
    have := nm.out w13 p k4 [] 9 S13 (by decide) (by decide)
    skip
    exact this
  go_wp2_with fail
  refine C.out.mono ?_
  rintro e w14 ⟨rfl, S14⟩
  clear C S13
  have C : Hid (Calls Try.prog 12 #[ptr p, nu (-1)] w14 fun e w' => e = .returned (noE 1) ∧ Hid (∃ F, Sk Rep w w' p F k4 [])) := by
    have := fr.out w14 p k4 [] (-1) S14 (by decide) (by decide)
    rw [ek9] at this
    exact this
  go_wp2_with fail
  refine C.out.mono ?_
  rintro e w15 ⟨rfl, S15⟩
  clear C S14
  have C : Hid (Calls Try.prog 15 #[noE 1] w15 fun e w' => e = .returned (nu 1) ∧ Hid (∃ F, Sk Rep w w' p F k4 [])) := by
    have := nm.out w15 p k4 [] 1 S15 (by decide) (by decide)
    skip
    exact this
  go_wp2_with fail
  refine C.out.mono ?_
  rintro e w16 ⟨rfl, S16⟩
  clear C S15
  have HW0 : Hid ((w16.alloc (.cells #[nu 1, nu 2, nu 3, nu 4] 3)).ownsRow w16.heap.size 3 1 (.slice (some ⟨w16.heap.size, 0, none⟩) 4 4) 4 ((1 :: ([2, 3, 4] ++ (List.range 6).drop 6)).map nun)) := World.ownsRow_lit (size := 1) w16 #[nu 1, nu 2, nu 3, nu 4] 4 (Nat.le_refl _) (by decide) rfl
  have HB0 : Hid (Below w16.heap.size w16 (w16.alloc (.cells #[nu 1, nu 2, nu 3, nu 4] 3))) := (Below.refl _ _).alloc (Nat.le_refl _) _
  go_wp2_with fail
  go_loopw [6, 7] (fun lv iv wr => ∃ (i m : Nat), i = m + 2 ∧ 4 ≤ m ∧ m ≤ 30 ∧ iv = nun i ∧ Hid (wr.ownsRow w16.heap.size 3 1 lv m ((1 :: ([2, 3, 4] ++ (List.range i).drop 6)).map nun)) ∧ Hid (Below w16.heap.size w16 wr)) (fun _ iv _ => 32 - (intOf iv).toNat)
  case atStart => exact ⟨6, 4, rfl, by omega, by omega, rfl, HW0, HB0⟩
  case round =>
    clear HW0 HB0
    obtain ⟨i, m, him, hm4, hm30, rfl, hO, hB⟩ := hrel
    obtain ⟨al, cl, hlv, hcl1, hcl2⟩ := Nm.own_shape hO.out
    subst hlv
    by_cases hlt : i < 32
    · have hiI : (i : Int) < 32 := by omega
      have HYM : Hid ((1 :: ([2, 3, 4] ++ (List.range (i + 1)).drop 6)).map nun = (1 :: ([2, 3, 4] ++ (List.range i).drop 6)).map nun ++ [nun i]) := by
        show _ = _
        rw [List.range_succ, List.drop_append_of_le_length (by simp; omega)]
        simp
      have hone : Hid (∀ u ∈ [nun i], u.oneCell' = true) := by
        intro u hu
        simp at hu
        subst hu
        rfl
      have hmx : Hid (m + 1 ≤ maxLen) := by show _ ≤ _; unfold maxLen; omega
      have hby : Hid ((m + 1) * 8 ≤ 140737488355328) := by show _ ≤ _; omega
      have hbs : Hid (w16.heap.size ≤ wr.heap.size) := hB.out.size
      have HIM := Hid.mk' him
      clear him
      go_wp2_with (at_builtin; refine wpList_append_own _ rfl _ _ 48 rfl w16.heap.size 3 i0 (.int .i64 0) 1 8 Try.underlying48 ji hz0 hz1 hz2 rfl (by decide) _ _ _ rfl (hO.out.alloc _) ⟨wr.heap.size, 0, none⟩ 1 1 [nun i] rfl rfl (World.news_of_block (heap_alloc_new _ _)) hone.out hmx.out hby.out (by have := hbs.out; simp; omega) ?_; intro v' w4' hown4 hgrow _; rw [← HYM.out] at hown4; have HO4 := Hid.mk' hown4; have HB4 : Hid (Below w16.heap.size w16 w4') := Below.grown (hB.out.alloc hbs.out _) hgrow (by have := hbs.out; simp; omega) (fun j hj => (hO.out.lt j hj).1); clear hown4 hgrow)
      go_roundw
      case rel => exact ⟨i + 1, m + 1, by have := HIM.out; omega, by omega, by have := HIM.out; omega, by go_num, HO4, HB4⟩
      case measure => simp [intOf]; omega
    · obtain rfl : m = 30 := by omega
      obtain rfl : i = 32 := by omega
      have S7 : Hid (∃ F, Sk Rep w wr p F k4 []) := by
        obtain ⟨F, h⟩ := S16.out
        exact ⟨F, h.below HH.out hB.out⟩
      have HWT : Hid (wr.ownsRow w16.heap.size 3 1 (.slice al 30 cl) 30 (kw.map nun)) := hO.out
      clear hO hB S16 him
      have s6' : (wr.alloc (.cells #[.slice none 0 0] 48)).heap.size = wr.heap.size + 1 := by simp
      have b0 : Boxed (wr.alloc (.cells #[.slice none 0 0] 48)) wr.heap.size 48 (.slice none 0 0) := Boxed.new wr _ _
      have q0 : Below wr.heap.size wr (wr.alloc (.cells #[.slice none 0 0] 48)) := (Below.refl _ wr).alloc (Nat.le_refl _) _
      have CFR := Hid.mk' (fs.out (wr.alloc (.cells #[.slice none 0 0] 48)) p k4 [] (by obtain ⟨F, h⟩ := S7.out; exact ⟨F, h.below HH.out q0⟩))
      obtain ⟨W5, hW5⟩ : ∃ W5, wr.alloc (.cells #[.slice none 0 0] 48) = W5 := ⟨_, rfl⟩
      rw [hW5] at s6' b0 q0 CFR
      have HW5 := Hid.mk' hW5
      clear hW5
      go_wp2_with fail
      rw [HW5.out]
      refine CFR.out.mono ?_
      rintro e W6 ⟨fv, X, rfl, ⟨gf, lb, kk, rfl, hent, hXl, hsq⟩, hXn, hb6⟩
      have b1 : Boxed W6 wr.heap.size 48 (.slice none 0 0) := (hb6.block _ b0.lt).trans b0
      have q6 : Below wr.heap.size wr W6 := q0.trans (hb6.mono q0.size)
      have s6 := hb6.size
      have HSQ := Hid.mk' (hsq W6 (Nat.le_refl _) (fun _ _ => rfl))
      clear CFR hsq hb6 b0 q0 HW5
      go_wp2_with fail
      refine Rf.wp_range (L := kw) (w0 := W6) rfl hent HSQ.out (Below.refl _ _) (fun _ => rfl) hXl
        (fun pre W' => ∃ v, Boxed W' wr.heap.size 48 v ∧ W'.ownsRow (W6.heap.size + 2 + kk) 3 1 v pre.length (pre.map nun) ∧ Rf.But wr.heap.size W6 W')
        (fun _ _ _ => False) ?rest (fun _ _ _ _ _ hs _ _ => hs)
        ⟨_, b1, World.ownsRow_nil _ _ _ _, Rf.But.refl _ _⟩ ?act ?assign ?body ?done (fun _ _ _ _ h _ => h.elim)
      case assign =>
        intro l' x W2 K hK
        gi_wp2
        exact hK
      case rest =>
        rintro pre A B row ⟨v, h2, h4, h5⟩ hg hr
        exact ⟨v, h2.kept hg (fun e => by have := (hr _ e.symm).1; omega), hr.row h4 (Nat.le_refl _) hg, h5.rest (by omega) hg hr⟩
      case body =>
        rintro l' pre x W2 hpre hsz ⟨v, h2, h4, h5⟩
        have hc2 := h2.cell
        have hl64 : pre.length < 33 := by
          have := hpre.length_le
          rw [show kw.length = 30 from rfl] at this
          simp at this; omega
        have HS : Hid ((pre ++ [x]).map nun = pre.map nun ++ [nun x]) := by show _ = _; simp
        have HLn : Hid ((pre ++ [x]).length = pre.length + 1) := by show _ = _; simp
        obtain ⟨m, hm⟩ : ∃ m, pre.length = m := ⟨_, rfl⟩
        rw [hm] at h4 hl64 HLn
        gi_wp2_with (gi_at_builtin; refine wpListIn_append_own _ rfl _ _ 48 rfl (W6.heap.size + 2 + kk) 3 i0 (.int .i64 0) 1 8 Try.underlying48 ji hz0 hz1 hz2 rfl (by decide) _ _ _ rfl (h4.alloc _) ⟨W2.heap.size, 0, none⟩ 1 1 [nun x] rfl rfl (cell_one_new _ _ _) (by simp [Value.oneCell']) (by unfold maxLen; omega) (by omega) (by simp; omega) ?_; intro v' w1' hown' hgrow _; obtain ⟨g', cap', rfl⟩ := ownsRow_succ hown'; obtain ⟨hv1, hv2, hr2, hk2, hb2, ho2⟩ := Rf.collected (X := X) (lo := W6.heap.size) (n := wr.heap.size) h2 (by decide) h4 (by omega) (fun h => by have := hXn _ h; omega) (fun b hb => hXl b hb) (by omega) hsz (Nat.le_refl _) hown' hgrow; have hbt := Rf.But.step (v' := .slice (some ⟨g', 0, none⟩) (m + 1) cap') h5 h4 (by omega) hsz (by omega) hgrow; have hc1 := hv1.cell; have hf1 := hv1.frozen)
        exact ⟨hk2, _, hv2, by rw [HS.out, HLn.out]; exact hr2, hbt⟩
      case done =>
        rintro W8 ⟨v1, h2, h4, h5⟩ hK8
        obtain ⟨D, hD⟩ : ∃ D, W6.heap.size = D := ⟨_, rfl⟩
        rw [hD] at hK8
        have S8 : Hid (∃ F, Sk Rep w W8 p F k4 [(D, .deferred (some []))]) := by
          obtain ⟨F, h⟩ := S7.out
          have hb8 : Below wr.heap.size wr W8 := (q6.trans (h5.1))
          have h' := h.below HH.out hb8
          refine ⟨F, h'.rep, h'.good, h'.fl, h'.bel, fun b x hm => ?_⟩
          obtain ⟨rfl, rfl⟩ : b = D ∧ x = .deferred (some []) := by simpa using hm
          exact ⟨hK8, fun e => by have := HH.out.lt h.rep _ e; omega⟩
        have hcb := h2.cell
        have hlb := (Array.getElem?_eq_some_iff.1 h2).1
        have r1 : RdN W8 v1 kw := own_rdN h4
        have r2 : RdN W8 (.slice al 30 cl) kw := by
          have hw8 : Below wr.heap.size wr W8 := q6.trans h5.1
          exact (own_rdN HWT.out).below hw8
        have HCS : Hid (∀ wx, Below W8.heap.size W8 wx → wx.cell? ⟨wr.heap.size, 0, none⟩ = some v1 ∧ Calls Try.prog 17 #[v1, .slice al 30 cl] wx fun e w' => e = .returned (.bool true) ∧ Below wx.heap.size wx w') := fun wx hb => ⟨(hb.cell (p := ⟨wr.heap.size, 0, none⟩) hlb).trans hcb, sameN v1 _ kw wx (r1.below hb) (r2.below hb)⟩
        obtain ⟨a1, c1, hv1, _⟩ := r1
        rw [show kw.length = 30 from rfl] at hv1
        subst hv1
        have hDs : w.heap.size ≤ D := by
          obtain ⟨F, h⟩ := S7.out
          have := h.bel.size
          omega
        clear h2 h4 h5 hK8 b1 q6 S7 HWT r2 hcb hlb HSQ
        have HD := Hid.mk' hD
        clear hD
        have HZ8 := Hid.mk' (lone_zero W8)
        go_wp2_with (first | (refine wpList_store_lone rfl _ _ rfl W8.heap.size rfl ks rfl slt0 HZ8.out ?_; intro w20 hl hg hs; have hb20 : Below W8.heap.size W8 w20 := (((Below.refl _ _).alloc (Nat.le_refl _) _).grown hg (by simp) (fun r e => by cases e; exact Nat.le_refl _)); have S20 : Hid (∃ F, Sk Rep w w20 p F k4 ((W8.heap.size, lob ks) :: [(D, .deferred (some []))])) := (by obtain ⟨F, h⟩ := S8.out; exact ⟨F, h.add HH.out hb20 hl (Nat.le_refl _)⟩); have hcb20 := (HCS.out w20 hb20).1; have HC20 := Hid.mk' (HCS.out w20 hb20).2; clear hl hg hs hb20) | fail)
        clear S8 HZ8 HCS
        refine HC20.out.mono ?_
        rintro e w21 ⟨rfl, hb⟩
        have S21 : Hid (∃ F, Sk Rep w w21 p F k4 ((W8.heap.size, lob ks) :: [(D, .deferred (some []))])) := by
          obtain ⟨F, h⟩ := S20.out
          exact ⟨F, h.below HH.out hb⟩
        have HL21 : Hid (Lone w21 W8.heap.size ks) := by
          obtain ⟨F, h⟩ := S21.out
          exact (h.kept _ (lob ks) (by simp)).1
        clear hb HC20 S20 hcb20
        have C : Hid (Calls Try.prog 9 #[ptr p, nu 0, ks.v] w21 fun e w' => e = .returned (.nilIface) ∧ Hid (∃ F, Sk Rep w w' p F k5 ((W8.heap.size, lob ks) :: [(D, .deferred (some []))]))) := by
          have := pu.out w21 p k4 ((W8.heap.size, lob ks) :: [(D, .deferred (some []))]) 0 ks S21 (by decide) (by decide)
          rw [ek11] at this
          exact this
        go_wp2_with (first | (refine wpList_load_when (by rfl) _ rfl W8.heap.size rfl ks HL21.out ?_) | fail)
        refine C.out.mono ?_
        rintro e w22 ⟨rfl, S22⟩
        clear C S21
        clear HL21
        have C : Hid (Calls Try.prog 14 #[ptr p, nu 0] w22 fun e w' => e = .returned (.tuple #[ks.v, .nilIface]) ∧ Hid (∃ F, Sk Rep w w' p F k5 ((W8.heap.size, lob ks) :: [(D, .deferred (some []))]))) := by
          have := ge.out w22 p k5 ((W8.heap.size, lob ks) :: [(D, .deferred (some []))]) 0 S22 (by decide)
          rw [ek12] at this
          exact this
        go_wp2_with fail
        refine C.out.mono ?_
        rintro e w23 ⟨rfl, S23⟩
        clear C S22
        have HZ23 := Hid.mk' (lone_zero w23)
        go_wp2_with (first | (refine wpList_store_lone rfl _ _ rfl w23.heap.size rfl ks rfl slt0 HZ23.out ?_; intro w24 hl hg hs; have hb24 : Below w23.heap.size w23 w24 := (((Below.refl _ _).alloc (Nat.le_refl _) _).grown hg (by simp) (fun r e => by cases e; exact Nat.le_refl _)); have S24 : Hid (∃ F, Sk Rep w w24 p F k5 ((w23.heap.size, lob ks) :: ((W8.heap.size, lob ks) :: [(D, .deferred (some []))]))) := (by obtain ⟨F, h⟩ := S23.out; exact ⟨F, h.add HH.out hb24 hl (Nat.le_refl _)⟩); clear hl hg hs hb24) | fail)
        clear S23 HZ23
        have C : Hid (Calls Try.prog 12 #[ptr p, nu 0] w24 fun e w' => e = .returned (.nilIface) ∧ Hid (∃ F, Sk Rep w w' p F k6 ((w23.heap.size, lob ks) :: ((W8.heap.size, lob ks) :: [(D, .deferred (some []))])))) := by
          have := fr.out w24 p k5 ((w23.heap.size, lob ks) :: ((W8.heap.size, lob ks) :: [(D, .deferred (some []))])) 0 S24 (by decide) (by decide)
          rw [ek13] at this
          exact this
        refine C.out.mono ?_
        rintro e w25 ⟨rfl, S25⟩
        clear C S24
        have C : Hid (Calls Try.prog 14 #[ptr p, nu 0] w25 fun e w' => e = .returned (.tuple #[bare.v, .nilIface]) ∧ Hid (∃ F, Sk Rep w w' p F k6 ((w23.heap.size, lob ks) :: ((W8.heap.size, lob ks) :: [(D, .deferred (some []))])))) := by
          have := ge.out w25 p k6 ((w23.heap.size, lob ks) :: ((W8.heap.size, lob ks) :: [(D, .deferred (some []))])) 0 S25 (by decide)
          rw [ek14] at this
          exact this
        go_wp2_with fail
        refine C.out.mono ?_
        rintro e w26 ⟨rfl, S26⟩
        clear C S25
        have HZ26 := Hid.mk' (lone_zero w26)
        go_wp2_with (first | (refine wpList_store_lone rfl _ _ rfl w26.heap.size rfl bare rfl slt0 HZ26.out ?_; intro w27 hl hg hs; have hb27 : Below w26.heap.size w26 w27 := (((Below.refl _ _).alloc (Nat.le_refl _) _).grown hg (by simp) (fun r e => by cases e; exact Nat.le_refl _)); have S27 : Hid (∃ F, Sk Rep w w27 p F k6 ((w26.heap.size, lob bare) :: ((w23.heap.size, lob ks) :: ((W8.heap.size, lob ks) :: [(D, .deferred (some []))])))) := (by obtain ⟨F, h⟩ := S26.out; exact ⟨F, h.add HH.out hb27 hl (Nat.le_refl _)⟩); clear hl hg hs hb27) | fail)
        clear S26 HZ26
        have C : Hid (Calls Try.prog 14 #[ptr p, nu (-1)] w27 fun e w' => e = .returned (.tuple #[slt0.v, noE 1]) ∧ Hid (∃ F, Sk Rep w w' p F k6 ((w26.heap.size, lob bare) :: ((w23.heap.size, lob ks) :: ((W8.heap.size, lob ks) :: [(D, .deferred (some []))]))))) := by
          have := ge.out w27 p k6 ((w26.heap.size, lob bare) :: ((w23.heap.size, lob ks) :: ((W8.heap.size, lob ks) :: [(D, .deferred (some []))]))) (-1) S27 (by decide)
          rw [ek16] at this
          exact this
        refine C.out.mono ?_
        rintro e w28 ⟨rfl, S28⟩
        clear C S27
        have HZ28 := Hid.mk' (lone_zero w28)
        go_wp2_with (first | (refine wpList_store_lone rfl _ _ rfl w28.heap.size rfl slt0 rfl slt0 HZ28.out ?_; intro w29 hl hg hs; have hb29 : Below w28.heap.size w28 w29 := (((Below.refl _ _).alloc (Nat.le_refl _) _).grown hg (by simp) (fun r e => by cases e; exact Nat.le_refl _)); have S29 : Hid (∃ F, Sk Rep w w29 p F k6 ((w28.heap.size, lob slt0) :: ((w26.heap.size, lob bare) :: ((w23.heap.size, lob ks) :: ((W8.heap.size, lob ks) :: [(D, .deferred (some []))]))))) := (by obtain ⟨F, h⟩ := S28.out; exact ⟨F, h.add HH.out hb29 hl (Nat.le_refl _)⟩); clear hl hg hs hb29) | fail)
        clear S28 HZ28
        have C : Hid (Calls Try.prog 14 #[ptr p, nu 32] w29 fun e w' => e = .returned (.tuple #[slt0.v, noE 1]) ∧ Hid (∃ F, Sk Rep w w' p F k6 ((w28.heap.size, lob slt0) :: ((w26.heap.size, lob bare) :: ((w23.heap.size, lob ks) :: ((W8.heap.size, lob ks) :: [(D, .deferred (some []))])))))) := by
          have := ge.out w29 p k6 ((w28.heap.size, lob slt0) :: ((w26.heap.size, lob bare) :: ((w23.heap.size, lob ks) :: ((W8.heap.size, lob ks) :: [(D, .deferred (some []))])))) 32 S29 (by decide)
          rw [ek17] at this
          exact this
        refine C.out.mono ?_
        rintro e w30 ⟨rfl, S30⟩
        clear C S29
        have HZ30 := Hid.mk' (lone_zero w30)
        have hee := eql_self ks
        have heb := eq_bare
        go_wp2_with (first | (refine wpList_store_lone rfl _ _ rfl w30.heap.size rfl slt0 rfl slt0 HZ30.out ?_; intro w31 hl hg hs; have hb31 : Below w30.heap.size w30 w31 := (((Below.refl _ _).alloc (Nat.le_refl _) _).grown hg (by simp) (fun r e => by cases e; exact Nat.le_refl _)); have S31 : Hid (∃ F, Sk Rep w w31 p F k6 ((w30.heap.size, lob slt0) :: ((w28.heap.size, lob slt0) :: ((w26.heap.size, lob bare) :: ((w23.heap.size, lob ks) :: ((W8.heap.size, lob ks) :: [(D, .deferred (some []))])))))) := (by obtain ⟨F, h⟩ := S30.out; exact ⟨F, h.add HH.out hb31 hl (Nat.le_refl _)⟩); have HL11 : Hid (Lone w31 w23.heap.size ks) := (by obtain ⟨F, h⟩ := S31.out; exact (h.kept _ (lob ks) (by simp)).1); have HL10 : Hid (Lone w31 W8.heap.size ks) := (by obtain ⟨F, h⟩ := S31.out; exact (h.kept _ (lob ks) (by simp)).1); have HL13 : Hid (Lone w31 w26.heap.size bare) := (by obtain ⟨F, h⟩ := S31.out; exact (h.kept _ (lob bare) (by simp)).1); clear hl hg hs hb31) | (refine wpList_load_when (by rfl) _ rfl w23.heap.size rfl ks HL11.out ?_) | (refine wpList_load_when (by rfl) _ rfl W8.heap.size rfl ks HL10.out ?_) | (refine wpList_load_when (by rfl) _ rfl w26.heap.size rfl bare HL13.out ?_) | fail)
        clear HL11 HL10 HL13 S30 HZ30
        have C : Hid (Calls Try.prog 16 #[ptr p] w31 fun e w' => e = .returned (nu 3) ∧ Hid (∃ F, Sk Rep w w' p F k6 ((w30.heap.size, lob slt0) :: ((w28.heap.size, lob slt0) :: ((w26.heap.size, lob bare) :: ((w23.heap.size, lob ks) :: ((W8.heap.size, lob ks) :: [(D, .deferred (some []))]))))))) := by
          have := wt.out w31 p k6 ((w30.heap.size, lob slt0) :: ((w28.heap.size, lob slt0) :: ((w26.heap.size, lob bare) :: ((w23.heap.size, lob ks) :: ((W8.heap.size, lob ks) :: [(D, .deferred (some []))]))))) S31 (by decide)
          skip
          exact this
        refine C.out.mono ?_
        rintro e w32 ⟨rfl, S32⟩
        clear C S31
        have C : Hid (Calls Try.prog 15 #[noE 1] w32 fun e w' => e = .returned (nu 1) ∧ Hid (∃ F, Sk Rep w w' p F k6 ((w30.heap.size, lob slt0) :: ((w28.heap.size, lob slt0) :: ((w26.heap.size, lob bare) :: ((w23.heap.size, lob ks) :: ((W8.heap.size, lob ks) :: [(D, .deferred (some []))]))))))) := by
          have := nm.out w32 p k6 ((w30.heap.size, lob slt0) :: ((w28.heap.size, lob slt0) :: ((w26.heap.size, lob bare) :: ((w23.heap.size, lob ks) :: ((W8.heap.size, lob ks) :: [(D, .deferred (some []))]))))) 1 S32 (by decide) (by decide)
          skip
          exact this
        go_wp2_with fail
        refine C.out.mono ?_
        rintro e w33 ⟨rfl, S33⟩
        clear C S32
        have C : Hid (Calls Try.prog 15 #[noE 1] w33 fun e w' => e = .returned (nu 1) ∧ Hid (∃ F, Sk Rep w w' p F k6 ((w30.heap.size, lob slt0) :: ((w28.heap.size, lob slt0) :: ((w26.heap.size, lob bare) :: ((w23.heap.size, lob ks) :: ((W8.heap.size, lob ks) :: [(D, .deferred (some []))]))))))) := by
          have := nm.out w33 p k6 ((w30.heap.size, lob slt0) :: ((w28.heap.size, lob slt0) :: ((w26.heap.size, lob bare) :: ((w23.heap.size, lob ks) :: ((W8.heap.size, lob ks) :: [(D, .deferred (some []))]))))) 1 S33 (by decide) (by decide)
          skip
          exact this
        go_wp2_with fail
        refine C.out.mono ?_
        rintro e w34 ⟨rfl, S34⟩
        clear C S33
        have HL34 : Hid (Lone w34 W8.heap.size ks) := by
          obtain ⟨F, h⟩ := S34.out
          exact (h.kept _ (lob ks) (by simp)).1
        have C : Hid (Calls Try.prog 9 #[ptr p, nu 32, ks.v] w34 fun e w' => e = .returned (noE 1) ∧ Hid (∃ F, Sk Rep w w' p F k6 ((w30.heap.size, lob slt0) :: ((w28.heap.size, lob slt0) :: ((w26.heap.size, lob bare) :: ((w23.heap.size, lob ks) :: ((W8.heap.size, lob ks) :: [(D, .deferred (some []))]))))))) := by
          have := pu.out w34 p k6 ((w30.heap.size, lob slt0) :: ((w28.heap.size, lob slt0) :: ((w26.heap.size, lob bare) :: ((w23.heap.size, lob ks) :: ((W8.heap.size, lob ks) :: [(D, .deferred (some []))]))))) 32 ks S34 (by decide) (by decide)
          rw [ek15] at this
          exact this
        go_wp2_with (first | (refine wpList_load_when (by rfl) _ rfl W8.heap.size rfl ks HL34.out ?_) | fail)
        refine C.out.mono ?_
        rintro e w35 ⟨rfl, S35⟩
        clear C S34
        have C : Hid (Calls Try.prog 15 #[noE 1] w35 fun e w' => e = .returned (nu 1) ∧ Hid (∃ F, Sk Rep w w' p F k6 ((w30.heap.size, lob slt0) :: ((w28.heap.size, lob slt0) :: ((w26.heap.size, lob bare) :: ((w23.heap.size, lob ks) :: ((W8.heap.size, lob ks) :: [(D, .deferred (some []))]))))))) := by
          have := nm.out w35 p k6 ((w30.heap.size, lob slt0) :: ((w28.heap.size, lob slt0) :: ((w26.heap.size, lob bare) :: ((w23.heap.size, lob ks) :: ((W8.heap.size, lob ks) :: [(D, .deferred (some []))]))))) 1 S35 (by decide) (by decide)
          skip
          exact this
        go_wp2_with fail
        refine C.out.mono ?_
        rintro e w36 ⟨rfl, S36⟩
        clear C S35
        have HFN : Hid (Rf.Open w.heap.size [D] w36 ∧ Below w.heap.size w w36) := by
          obtain ⟨F, h⟩ := S36.out
          refine ⟨⟨by simp, fun E hE => ?_⟩, h.bel⟩
          obtain rfl : E = D := by simpa using hE
          exact ⟨hDs, (h.kept _ _ (by simp)).1⟩
        clear S36
        rw [← HD.out] at HFN
        go_wp2
        exact Rf.leaves_marks (B := w.heap.size) (Ds := [W6.heap.size]) HFN.out.1 HFN.out.2.size (fun W' hW' => ⟨_, results_tmp rfl _ _ _, rfl, HFN.out.2.trans hW'⟩)
end An
end Go.Proofs.Ytalpbciceogjlaa
