/- BitsAll answers true: a set's numbers and rows are handed out, rising, gone over twice, left early. -/
import Derived.Test.YtffaogkinhkgdaaDoorBack
import Derived.Test.YtffaogkinhkgdaaDoorPick
namespace Go.Proofs.YtffaogkinhkgdaaDoor
open Go.RowKit
namespace Bt
set_option linter.unusedSimpArgs false
set_option linter.unusedVariables false
attribute [local go_sem] Oper.semAt_some

/-- The numbers as the program holds them. -/
def cst (l : List Nat) : List Int := cast l
theorem cst_snoc (l : List Nat) (x : Nat) : cst (l ++ [x]) = cst l ++ [(x : Int)] := by simp [cst, cast]
theorem cst_len (l : List Nat) : (cst l).length = l.length := by simp [cst, cast]
theorem flat_snoc (l : List (Nat × Nat)) (a b : Nat) : flat (l ++ [(a, b)]) = flat l ++ [(a : Int), (b : Int)] := by rw [flat_append]; rfl
theorem cell_two_new (W : World) (a b : Value) (t : TypeId) : ∀ (j : Nat) (u : Value), ([a, b] : List Value)[j]? = some u → (W.alloc (.cells #[a, b] t)).cell? (Addr.add ⟨W.heap.size, 0, none⟩ j) = some u := fun j u h => by
  match j, h with
  | 0, h => simp at h; subst h; simp [Addr.add]
  | 1, h => simp at h; subst h; simp [Addr.add]
theorem slice_to (a : Option Addr) (len cap k : Nat) (h : k ≤ cap) (w : World) : (Instr.slice 24 (.slice a len cap) none (some (.int .i64 (k : Int))) none).run Tryd.prog w = .ok (.slice a k cap) w := by
  have h1 : (0 : Int) ≤ (k : Int) ∧ (k : Int) ≤ (cap : Int) := by omega
  have hu := Tryd.underlying24
  have hz := Tryd.sizeOf3
  cases a with
  | none =>
    simp [Instr.slice, Instr.sliceBounds, Instr.sliceBound, asIntOf, run_underlying hu, hz]
    intro hh; omega
  | some ad =>
    simp [Instr.slice, Instr.sliceBounds, Instr.sliceBound, asIntOf, run_underlying hu, hz, Addr.add]
    intro hh; omega
theorem min_two (a b : Nat) (w : World) : (Builtin.min_ #[3, 3] 3 #[.int .i64 (a : Int), .int .i64 (b : Int)]).run Tryd.prog w = .ok (.int .i64 ((min a b : Nat) : Int)) w := by
  rw [run_min_int2]
  have e : (if (b : Int) < (a : Int) then (b : Int) else (a : Int)) = ((min a b : Nat) : Int) := by split <;> omega
  rw [e]
theorem flat_take : ∀ (l : List (Nat × Nat)) (n : Nat), flat (l.take n) = (flat l).take (2 * n)
  | [], n => by simp [flat]
  | r :: l, 0 => by simp [flat]
  | r :: l, n + 1 => by
    rw [show 2 * (n + 1) = (2 * n + 1) + 1 by omega]
    simp [flat, flat_take l n]
theorem RdI.take {w : World} {a : Option Addr} {xs : List Int} {cap : Nat} (h : RdI w (.slice a xs.length cap) xs) (m : Nat) (hm : m ≤ xs.length) : RdI w (.slice a m cap) (xs.take m) := by
  obtain ⟨a', cap', e, h1, h2, h3⟩ := h
  cases e
  have hl : (xs.take m).length = m := by rw [List.length_take]; omega
  refine ⟨a, cap, by rw [hl], by omega, h2, fun h0 => ?_⟩
  rw [hl] at h0
  obtain ⟨g, o, e1, e2, e3⟩ := h3 (by omega)
  exact ⟨g, o, e1, e2, fun j hj => by
    rw [hl] at hj
    rw [e3 j (by omega), List.getElem_take]⟩
theorem take_min {α : Type} (l : List α) (n : Nat) : l.take n = l.take (min n l.length) := by
  rcases Nat.le_total n l.length with h | h
  · rw [Nat.min_eq_left h]
  · rw [Nat.min_eq_right h, List.take_of_length_le h, List.take_length]
theorem rows_len (s n : Nat) : (rowsTo s n).length ≤ n := by
  induction n with
  | zero => simp [rowsTo]
  | succ n ih => rw [rowsTo]; split <;> simp <;> omega

set_option maxRecDepth 1000000 in
set_option maxHeartbeats 8000000 in
theorem bitsAll_walk (s : Nat) (most : Int) (w : World) (hs : s < 18446744073709551616) (hmost : -9223372036854775808 ≤ most ∧ most ≤ 9223372036854775807) (hT : Tab w) (h1 : 0 < w.heap.size) :
    Calls Tryd.prog 3 #[st s, nu most] w fun e w' => e = .returned (.bool true) ∧ Below w.heap.size w w' := by
  obtain ⟨i0, hi, hz0, hz1, hz2⟩ := info_parts Tryd.info3
  refine (callsIn_wide (n := 8)).1 ?_
  refine callsIn_of_wp_marks Tryd.func3 rfl trivial ?_ rfl
  refine wpIn_wide.2 ?_
  simp only [Tryd.ntmps3, List.size_toArray, List.length_cons, List.length_nil, Nat.reduceAdd, Nat.reduceSub, Array.replicate_succ, Array.replicate_zero, List.push_toArray, List.append_toArray, List.nil_append, List.cons_append]
  have n1 := eq_all_nil
  have n2 := eq_runs_nil
  go_wp2_with fail
  refine (rall_any s w hs).mono ?_
  rintro e w1 ⟨vw, rfl, hw1, q1⟩
  obtain ⟨n, hn⟩ : ∃ n : Nat, most % 66 = n := ⟨(most % 66).toNat, by omega⟩
  have hn66 : n < 66 := by omega
  have cp := pick_any most 66 w1 (by omega) (by omega) hmost
  have cp' : Calls Tryd.prog 6 #[nu most, nu 66] w1 fun e w' => e = .returned (nu n) ∧ w' = w1 := by
    have := cp
    rw [show most % ((66 : Nat) : Int) = (n : Int) from hn] at this
    exact this
  clear cp hn
  obtain ⟨wa, wcap, rfl, hwcap, hwmax, _⟩ := ownI_slice hw1
  go_wp2_with fail
  refine cp'.mono ?_
  rintro e w2 ⟨rfl, rfl⟩
  go_wp2_with fail
  refine (allMake_any s _).mono ?_
  rintro e w3 ⟨rfl, rfl⟩
  go_wp2_with fail
  refine (runsMake_any s _).mono ?_
  rintro e w3 ⟨rfl, rfl⟩
  go_wp2_with fail
  have hs5 : (((w2.alloc (.cells #[.int .i64 n] 3)).alloc (.cells #[st s] 23)).alloc (.cells #[st s] 23)).heap.size = w2.heap.size + 3 := by simp
  have bn : Boxed (((w2.alloc (.cells #[.int .i64 n] 3)).alloc (.cells #[st s] 23)).alloc (.cells #[st s] 23)) w2.heap.size 3 (nu n) := ((Boxed.new w2 _ _).alloc _).alloc _
  have ba : Boxed (((w2.alloc (.cells #[.int .i64 n] 3)).alloc (.cells #[st s] 23)).alloc (.cells #[st s] 23)) (w2.heap.size + 1) 23 (st s) := by
    have := (Boxed.new (w2.alloc (.cells #[.int .i64 n] 3)) 23 (st s)).alloc (.cells #[st s] 23)
    simpa using this
  have br : Boxed (((w2.alloc (.cells #[.int .i64 n] 3)).alloc (.cells #[st s] 23)).alloc (.cells #[st s] 23)) (w2.heap.size + 1 + 1) 23 (st s) := by
    have := Boxed.new ((w2.alloc (.cells #[.int .i64 n] 3)).alloc (.cells #[st s] 23)) 23 (st s)
    simpa using this
  have q5 : Below w2.heap.size w2 (((w2.alloc (.cells #[.int .i64 n] 3)).alloc (.cells #[st s] 23)).alloc (.cells #[st s] 23)) := (((Below.refl _ w2).alloc (Nat.le_refl _) _).alloc (by simp) _).alloc (by simp; omega) _
  generalize (((w2.alloc (.cells #[.int .i64 n] 3)).alloc (.cells #[st s] 23)).alloc (.cells #[st s] 23)) = W5 at *
  have s2 := q1.size
  have T5 : Tab W5 := (hT.below q1 h1).below q5 (by omega)
  have hw5 : OwnI W5 w.heap.size (.slice wa (numsTo s 64).length wcap) (numsTo s 64) := ownI_below hw1 q5
  have QW : Below w.heap.size w W5 := q1.trans (q5.mono s2)
  clear q1 q5 hw1 cp' hwmax hwcap
  refine wp_loop (fun a wr => ∃ (k : Nat) (Ds : List Nat) (u9 u10 u11 u12 u13 u14 u33 u34 u35 u36 u37 u38 u39 u40 u41 u42 u43 u44 u45 u46 u47 u48 u49 u50 u51 u52 u53 u54 u55 u56 u57 u58 u59 u60 u61 : Value), k ≤ 2 ∧ u9 = nu k ∧ Rf.Open W5.heap.size Ds wr ∧ Below W5.heap.size W5 wr ∧ a = { tmps := #[st s, nu most, undef, undef, .bool false, .slice wa (numsTo s 64).length wcap, .pointer (some ⟨w2.heap.size, 0, none⟩), .func (.func 15) #[] #[.pointer (some ⟨w2.heap.size + 1, 0, none⟩)], .func (.func 17) #[] #[.pointer (some ⟨w2.heap.size + 1 + 1, 0, none⟩)], u9, u10, u11, u12, u13, u14, undef, undef, undef, undef, st s, .slice wa (numsTo s 64).length wcap, nu most, nu n, st s, .func (.func 15) #[] #[.pointer (some ⟨w2.heap.size + 1, 0, none⟩)], st s, .func (.func 17) #[] #[.pointer (some ⟨w2.heap.size + 1 + 1, 0, none⟩)], .func (.func 15) #[] #[.pointer (some ⟨w2.heap.size + 1, 0, none⟩)], .bool false, .bool false, .func (.func 17) #[] #[.pointer (some ⟨w2.heap.size + 1 + 1, 0, none⟩)], .bool false, .bool false, u33, u34, u35, u36, u37, u38, u39, u40, u41, u42, u43, u44, u45, u46, u47, u48, u49, u50, u51, u52, u53, u54, u55, u56, u57, u58, u59, u60, u61, undef, undef, undef, undef, undef, undef, undef, undef, undef, undef, undef, undef, undef, undef, undef, undef, undef, undef, undef, undef, undef, undef, undef, undef, undef, undef, undef, undef, undef, undef, undef, undef, undef, undef, undef, undef], defers := Rf.marks Ds })
    (fun a _ => 2 - (intOf (a.tmps.getD 9 undef)).toNat) ⟨0, [], _, _, _, _, _, _, _, _, _, _, _, _, _, _, _, _, _, _, _, _, _, _, _, _, _, _, _, _, _, _, _, _, _, _, _, by omega, rfl, ⟨List.nodup_nil, fun D hD => by simp at hD⟩, Below.refl _ _, rfl⟩ ?_
  rintro a wr ⟨k, Ds, u9, u10, u11, u12, u13, u14, u33, u34, u35, u36, u37, u38, u39, u40, u41, u42, u43, u44, u45, u46, u47, u48, u49, u50, u51, u52, u53, u54, u55, u56, u57, u58, u59, u60, u61, hk, rfl, hOp, hB, rfl⟩
  have sr := hB.size
  by_cases hp : k < 2
  · have hkd : decide ((k : Int) < 2) = true := by simp; omega
    go_wp2_with fail
    clear hkd
    have s6 : ((wr.alloc (.cells #[.slice none 0 0] 24)).alloc (.cells #[.slice none 0 0] 24)).heap.size = wr.heap.size + 2 := by simp
    have b1 : Boxed ((wr.alloc (.cells #[.slice none 0 0] 24)).alloc (.cells #[.slice none 0 0] 24)) wr.heap.size 24 (.slice none 0 0) := (Boxed.new wr _ _).alloc _
    have b2 : Boxed ((wr.alloc (.cells #[.slice none 0 0] 24)).alloc (.cells #[.slice none 0 0] 24)) (wr.heap.size + 1) 24 (.slice none 0 0) := by
      have := Boxed.new (wr.alloc (.cells #[.slice none 0 0] 24)) 24 (.slice none 0 0)
      simpa using this
    have q6 : Below wr.heap.size wr ((wr.alloc (.cells #[.slice none 0 0] 24)).alloc (.cells #[.slice none 0 0] 24)) := ((Below.refl _ wr).alloc (Nat.le_refl _) _).alloc (by simp) _
    generalize ((wr.alloc (.cells #[.slice none 0 0] 24)).alloc (.cells #[.slice none 0 0] 24)) = W6 at *
    have q56 : Below W5.heap.size W5 W6 := hB.trans (q6.mono sr)
    refine Rf.wp_range (L := numsL s 64) (w0 := W5) rfl (enters_of Tryd.func15 (by kernel_rfl) rfl)
      (all_seq s (w2.heap.size + 1) W5 hs ba.cell ba.lt T5 (by omega)) q56 (fun _ => rfl) (fun b hb => by subst hb; omega)
      (fun pre W' => ∃ v, Boxed W' wr.heap.size 24 v ∧ OwnI W' (W6.heap.size + 2 + 0) v (cst pre) ∧ Rf.But wr.heap.size W6 W')
      (fun _ _ _ => False) ?rest (fun _ _ _ _ _ hs _ _ => hs)
      ⟨_, b1, World.ownsRow_nil _ _ _ _, Rf.But.refl _ _⟩ ?act ?assign ?body ?done (fun _ _ _ _ h _ => h.elim)
    case assign =>
      intro l' x W2 K hK
      gi_wp2
      exact hK
    case rest =>
      rintro pre A B row ⟨v, h2, h4, h5⟩ hg hr
      exact ⟨v, h2.kept hg (fun e => by have := (hr _ e.symm).1; omega), hr.row h4 (Nat.le_refl _) hg, h5.rest (by omega) hg hr⟩
    case body =>
      rintro l' pre x W2 hpre hsz ⟨v, h2, h4, h5⟩
      have hc2 := h2.cell
      have hl64 : (cst pre).length < 64 := by
        have := hpre.length_le
        have h64 := ones_le s
        rw [numsL_len] at this
        rw [cst_len]
        simp at this; omega
      have HS : Hid (cst (pre ++ [x]) = cst pre ++ [(x : Int)]) := cst_snoc pre x
      generalize cst pre = ys at *
      gi_wp2_with (gi_at_builtin; refine wpListIn_append_own _ rfl _ _ 24 rfl (W6.heap.size + 2 + 0) 3 i0 (.int .i64 0) 1 8 Tryd.underlying24 hi hz0 hz1 hz2 rfl (by decide) _ _ _ rfl (h4.alloc _) ⟨W2.heap.size, 0, none⟩ 1 1 [nu x] rfl rfl (cell_one_new _ _ _) (by simp [Value.oneCell']) (by unfold maxLen; omega) (by omega) (by simp; omega) ?_; intro v' w1 hown' hgrow _; obtain ⟨g', cap', rfl⟩ := ownsRow_succ hown'; obtain ⟨hv1, hv2, hr2, hk2, hb2, ho2⟩ := Rf.collected (X := fun b => b = 0) (lo := W6.heap.size) (n := wr.heap.size) h2 (by decide) h4 (by omega) (by omega) (fun b hb => by omega) (by omega) hsz (Nat.le_refl _) hown' hgrow; have hbt := Rf.But.step (v' := .slice (some ⟨g', 0, none⟩) (ys.length + 1) cap') h5 h4 (by omega) hsz (by omega) hgrow; have hc1 := hv1.cell; have hf1 := hv1.frozen)
      exact ⟨hk2, _, hv2, by rw [HS.out]; unfold OwnI; rw [List.length_append]; simpa using hr2, hbt⟩
    case done =>
      rintro W7 ⟨v1, h2, h4, h5⟩ hK7
      have hc1 := h2.cell
      have b7 := h5.boxed b2 (by omega)
      have lt7 := (Array.getElem?_eq_some_iff.1 hK7).1
      have hO7 : Rf.Open W5.heap.size (W6.heap.size :: Ds) W7 := (h5.open (hOp.below q6 (Nat.le_refl _)) (fun h => by have := hOp.lt _ h; omega)).cons (by omega) hK7 (fun h => by have := hOp.lt _ h; omega)
      have q57 : Below W5.heap.size W5 W7 := q56.trans (h5.1.mono sr)
      have hlt : ∀ D ∈ Ds, D < wr.heap.size := hOp.lt
      have e1 : cst (numsL s 64) = numsTo s 64 := rfl
      rw [e1] at h4
      clear hOp hK7 b1 b2 h5 q56
      go_wp2_with fail
      refine Rf.wp_range (L := rowsTo s 64) (w0 := W5) rfl (enters_of Tryd.func17 (by kernel_rfl) rfl)
        (runs_seq s (w2.heap.size + 1 + 1) W5 hs br T5 (by omega)) q57 (fun _ => rfl) (fun b hb => by omega)
        (fun pre W' => ∃ v, Boxed W' (wr.heap.size + 1) 24 v ∧ OwnI W' (W7.heap.size + 2 + 5) v (flat pre) ∧ Rf.But (wr.heap.size + 1) W7 W')
        (fun _ _ _ => False) ?rest2 (fun _ _ _ _ _ hs _ _ => hs)
        ⟨_, b7, World.ownsRow_nil _ _ _ _, Rf.But.refl _ _⟩ ?act2 ?assign2 ?body2 ?done2 (fun _ _ _ _ h _ => h.elim)
      case assign2 =>
        intro l' x W2 K hK
        gi_wp2
        exact hK
      case rest2 =>
        rintro pre A B row ⟨v, h2, h4, h5⟩ hg hr
        exact ⟨v, h2.kept hg (fun e => by have := (hr _ e.symm).1; omega), hr.row h4 (Nat.le_refl _) hg, h5.rest (by omega) hg hr⟩
      case body2 =>
        clear h2 h4 hc1
        rintro l' pre ⟨xa, xb⟩ W2 hpre hsz ⟨v, h2, h4, h5⟩
        have hc2 := h2.cell
        have hl64 : (flat pre).length ≤ 128 := by
          have := hpre.length_le
          have h64 := rows_len s 64
          rw [flat_len]
          simp at this; omega
        have HS : Hid (flat (pre ++ [(xa, xb)]) = flat pre ++ [(xa : Int), (xb : Int)]) := flat_snoc pre xa xb
        generalize flat pre = ys at *
        gi_wp2_with (gi_at_builtin; refine wpListIn_append_own _ rfl _ _ 24 rfl (W7.heap.size + 2 + 5) 3 i0 (.int .i64 0) 1 8 Tryd.underlying24 hi hz0 hz1 hz2 rfl (by decide) _ _ _ rfl (h4.alloc _) ⟨W2.heap.size, 0, none⟩ 2 2 [nu xa, nu xb] rfl rfl (cell_two_new _ _ _ _) (by simp [Value.oneCell']) (by unfold maxLen; omega) (by omega) (by simp; omega) ?_; intro v' w1 hown' hgrow _; obtain ⟨g', cap', rfl⟩ := ownsRow_succ hown'; obtain ⟨hv1, hv2, hr2, hk2, hb2, ho2⟩ := Rf.collected (X := fun b => b = 0 ∨ b = w2.heap.size + 1 + 1) (lo := W7.heap.size) (n := (wr.heap.size + 1)) h2 (by decide) h4 (by omega) (by omega) (fun b hb => by omega) (by omega) hsz (Nat.le_refl _) hown' hgrow; have hbt := Rf.But.step (v' := .slice (some ⟨g', 0, none⟩) (ys.length + 2) cap') h5 h4 (by omega) hsz (by omega) hgrow; have hc1 := hv1.cell; have hf1 := hv1.frozen)
        exact ⟨hk2, _, hv2, by rw [HS.out]; unfold OwnI; rw [List.length_append]; simpa using hr2, hbt⟩
      case done2 =>
        rintro W8 ⟨v2, h82, h84, h85⟩ hK8
        have b81 : Boxed W8 wr.heap.size 24 v1 := h85.boxed h2 (by omega)
        have lt8 := (Array.getElem?_eq_some_iff.1 hK8).1
        have hO8 : Rf.Open W5.heap.size (W7.heap.size :: W6.heap.size :: Ds) W8 := (h85.open hO7 (fun h => (List.mem_cons.1 h).elim (fun e => by omega) (fun e => by have := hlt _ e; omega))).cons (by omega) hK8 (fun h => by have := hO7.lt _ h; omega)
        have q58 : Below W5.heap.size W5 W8 := q57.trans (h85.1.mono (by omega))
        have r1 : RdI W8 v1 (numsTo s 64) := rdI_own (h85.own h4 (by omega))
        have r0 : RdI W8 (.slice wa (numsTo s 64).length wcap) (numsTo s 64) := (rdI_own hw5).below q58
        rw [← rows_all s hs] at h84
        have r2 : RdI W8 v2 (edgesTo s 65) := rdI_own h84
        have hc81 := b81.cell
        have hc82 := h82.cell
        have hX : Below W8.heap.size W8 W8.drew := (Below.refl _ W8).drew
        have CS1 : Hid (Calls Tryd.prog 9 #[v1, .slice wa (numsTo s 64).length wcap] W8.drew fun e w' => e = .returned (.bool true) ∧ (w'.cell? ⟨wr.heap.size, 0, none⟩ = some v1 ∧ w'.cell? ⟨wr.heap.size + 1, 0, none⟩ = some v2 ∧ Below W8.heap.size W8 w')) := by
          have c := same_any _ _ _ _ W8.drew (r1.below hX) (r0.below hX)
          rw [decide_eq_true rfl] at c
          refine c.mono ?_
          rintro e w' ⟨rfl, m, rfl⟩
          exact ⟨rfl, hc81, hc82, ⟨hX.os, hX.tape, hX.output, hX.size, hX.block⟩⟩
        have CR : Hid (∀ w9, (w9.cell? ⟨wr.heap.size, 0, none⟩ = some v1 ∧ w9.cell? ⟨wr.heap.size + 1, 0, none⟩ = some v2 ∧ Below W8.heap.size W8 w9) → Calls Tryd.prog 10 #[st s] w9 fun e w' => ∃ vr, e = .returned vr ∧ (w'.cell? ⟨wr.heap.size, 0, none⟩ = some v1 ∧ w'.cell? ⟨wr.heap.size + 1, 0, none⟩ = some v2 ∧ Below W8.heap.size W8 w') ∧ RdI w' vr (edgesTo s 65)) := fun w9 h9 => by
          have hz := h9.2.2.size
          refine (rruns_any s w9 hs).mono ?_
          rintro e w' ⟨vr, rfl, hr, hq⟩
          exact ⟨vr, rfl, ⟨(hq.cell (p := ⟨wr.heap.size, 0, none⟩) (by show wr.heap.size < _; omega)).trans h9.1, (hq.cell (p := ⟨wr.heap.size + 1, 0, none⟩) (by show wr.heap.size + 1 < _; omega)).trans h9.2.1, h9.2.2.trans (hq.mono hz)⟩, rdI_own hr⟩
        have CS2 : Hid (∀ w9 vr, (w9.cell? ⟨wr.heap.size, 0, none⟩ = some v1 ∧ w9.cell? ⟨wr.heap.size + 1, 0, none⟩ = some v2 ∧ Below W8.heap.size W8 w9) → RdI w9 vr (edgesTo s 65) → Calls Tryd.prog 9 #[v2, vr] w9 fun e w' => e = .returned (.bool true) ∧ (w'.cell? ⟨wr.heap.size, 0, none⟩ = some v1 ∧ w'.cell? ⟨wr.heap.size + 1, 0, none⟩ = some v2 ∧ Below W8.heap.size W8 w')) := fun w9 vr h9 hr => by
          have c := same_any _ _ _ _ w9 (r2.below h9.2.2) hr
          rw [decide_eq_true rfl] at c
          refine c.mono ?_
          rintro e w' ⟨rfl, m, rfl⟩
          exact ⟨rfl, h9.1, h9.2.1, ⟨h9.2.2.os, h9.2.2.tape, h9.2.2.output, h9.2.2.size, h9.2.2.block⟩⟩
        obtain ⟨a1, c1, hv1⟩ : ∃ a c, v1 = .slice a (numsTo s 64).length c := by obtain ⟨a, c, e, _⟩ := r1; exact ⟨a, c, e⟩
        obtain ⟨a2, c2, hv2⟩ : ∃ a c, v2 = .slice a (edgesTo s 65).length c := by obtain ⟨a, c, e, _⟩ := r2; exact ⟨a, c, e⟩
        subst hv1 hv2
        clear r0 r1 r2 h84 h4 h2 hc1 h82 b81 h85 hX
        go_wp2_with fail
        go_region_held3 (fun w' => w'.cell? ⟨wr.heap.size, 0, none⟩ = some (.slice a1 (numsTo s 64).length c1) ∧ w'.cell? ⟨wr.heap.size + 1, 0, none⟩ = some (.slice a2 (edgesTo s 65).length c2) ∧ Below W8.heap.size W8 w') (first | assumption | (refine ⟨?_, ?_, ?_⟩ <;> first | assumption | exact (Below.refl _ _).drew)) (first | (go_at_call 9; refine CS1.out.mono ?_; clear CS1; rintro e w9 ⟨rfl, hS9⟩) | (go_at_call 10; refine (CR.out _ hS9).mono ?_; rintro e w10 ⟨vr, rfl, hS10, hr10⟩) | (go_at_call 9; refine (CS2.out _ _ hS10 hr10).mono ?_; rintro e w11 ⟨rfl, hS11⟩))
        rw [s6] at hO8
        go_wp2
        refine ⟨⟨k + 1, W7.heap.size :: (wr.heap.size + 2) :: Ds, _, _, _, _, _, _, _, _, _, _, _, _, _, _, _, _, _, _, _, _, _, _, _, _, _, _, _, _, _, _, _, _, _, _, _, by omega, ?num, hO8.below hS11.2.2 (Nat.le_refl _), q58.trans (hS11.2.2.mono (by omega)), rfl⟩, ?meas⟩
        case num => go_num
        case meas => simp [intOf]; omega
  · obtain rfl : k = 2 := by omega
    have hkd : decide (((2 : Nat) : Int) < 2) = false := by decide
    go_wp2_with fail
    have s9 : (wr.alloc (.cells #[.slice none 0 0] 24)).heap.size = wr.heap.size + 1 := by simp
    have b9 : Boxed (wr.alloc (.cells #[.slice none 0 0] 24)) wr.heap.size 24 (.slice none 0 0) := Boxed.new wr _ _
    have q9 : Below wr.heap.size wr (wr.alloc (.cells #[.slice none 0 0] 24)) := (Below.refl _ wr).alloc (Nat.le_refl _) _
    generalize (wr.alloc (.cells #[.slice none 0 0] 24)) = W9 at *
    have q59 : Below W5.heap.size W5 W9 := hB.trans (q9.mono sr)
    have bn9 : Boxed W9 w2.heap.size 3 (nu n) := (q59.block _ bn.lt).trans bn
    refine Rf.wp_range (L := rowsTo s 64) (w0 := W5) rfl (enters_of Tryd.func17 (by kernel_rfl) rfl)
      (runs_seq s (w2.heap.size + 1 + 1) W5 hs br T5 (by omega)) q59 (fun _ => rfl) (fun b hb => by omega)
      (fun pre W' => ∃ v, pre.length ≤ n ∧ Boxed W' wr.heap.size 24 v ∧ OwnI W' (W9.heap.size + 2 + 5) v (flat pre) ∧ Rf.But wr.heap.size W9 W')
      (fun c pre W' => ∃ v, n ≤ pre.length ∧ c = .exit 6 ∧ Boxed W' wr.heap.size 24 v ∧ OwnI W' (W9.heap.size + 2 + 5) v (flat (pre.take n)) ∧ Rf.But wr.heap.size W9 W') ?rest3 ?restx3
      ⟨_, Nat.zero_le _, b9, World.ownsRow_nil _ _ _ _, Rf.But.refl _ _⟩ ?act3 ?assign3 ?body3 ?done3 ?stop3
    case assign3 =>
      intro l' x W2 K hK
      gi_wp2
      exact hK
    case rest3 =>
      rintro pre A B row ⟨v, h0, h2, h4, h5⟩ hg hr
      exact ⟨v, h0, h2.kept hg (fun e => by have := (hr _ e.symm).1; omega), hr.row h4 (Nat.le_refl _) hg, h5.rest (by omega) hg hr⟩
    case restx3 =>
      rintro c pre A B row ⟨v, h0, hc, h2, h4, h5⟩ hg hr
      exact ⟨v, h0, hc, h2.kept hg (fun e => by have := (hr _ e.symm).1; omega), hr.row h4 (Nat.le_refl _) hg, h5.rest (by omega) hg hr⟩
    case body3 =>
      rintro l' pre ⟨xa, xb⟩ W2 hpre hsz ⟨v, h0, h2, h4, h5⟩
      have hc2 := h2.cell
      have hcn := (h5.boxed bn9 (by omega)).cell
      have hl64 : (flat pre).length ≤ 128 := by
        have := hpre.length_le
        have h64 := rows_len s 64
        rw [flat_len]
        simp at this; omega
      have HS : Hid (flat (pre ++ [(xa, xb)]) = flat pre ++ [(xa : Int), (xb : Int)]) := flat_snoc pre xa xb
      have hfl := flat_len pre
      by_cases hq : pre.length = n
      · have HT : Hid (flat ((pre ++ [(xa, xb)]).take n) = flat pre) := by
          show _ = _
          rw [← hq]; simp
        have hd : (((flat pre).length : Int) == 2 * (n : Int)) = true := by rw [beq_iff_eq]; omega
        have HQ : Hid (pre.length = n) := hq
        clear hq hfl
        generalize flat pre = ys at *
        obtain ⟨a, cap, rfl, hcap, hmax, _⟩ := ownI_slice h4
        unfold maxLen at hmax
        gi_wp2
        exact ⟨Rf.Leaves.refl _ _ _ _, _, by have := HQ.out; simp; omega, rfl, h2, by rw [HT.out]; exact h4, h5⟩
      · have hd : (((flat pre).length : Int) == 2 * (n : Int)) = false := by rw [beq_eq_false_iff_ne]; omega
        have hq2 : pre.length < n := by omega
        clear hq hfl
        generalize flat pre = ys at *
        obtain ⟨a, cap, rfl, hcap, hmax, _⟩ := ownI_slice h4
        unfold maxLen at hmax
        gi_wp2_with (gi_at_builtin; refine wpListIn_append_own _ rfl _ _ 24 rfl (W9.heap.size + 2 + 5) 3 i0 (.int .i64 0) 1 8 Tryd.underlying24 hi hz0 hz1 hz2 rfl (by decide) _ _ _ rfl (h4.alloc _) ⟨W2.heap.size, 0, none⟩ 2 2 [nu xa, nu xb] rfl rfl (cell_two_new _ _ _ _) (by simp [Value.oneCell']) (by unfold maxLen; omega) (by omega) (by simp; omega) ?_; intro v' w1 hown' hgrow _; obtain ⟨g', cap', rfl⟩ := ownsRow_succ hown'; obtain ⟨hv1, hv2, hr2, hk2, hb2, ho2⟩ := Rf.collected (X := fun b => b = 0 ∨ b = w2.heap.size + 1 + 1) (lo := W9.heap.size) (n := wr.heap.size) h2 (by decide) h4 (by omega) (by omega) (fun b hb => by omega) (by omega) hsz (Nat.le_refl _) hown' hgrow; have hbt := Rf.But.step (v' := .slice (some ⟨g', 0, none⟩) (ys.length + 2) cap') h5 h4 (by omega) hsz (by omega) hgrow; have hc1 := hv1.cell; have hf1 := hv1.frozen)
        exact ⟨hk2, _, by simp; omega, hv2, by rw [HS.out]; unfold OwnI; rw [List.length_append]; simpa using hr2, hbt⟩
    case done3 =>
      rintro W10 ⟨v, h0, h2, h4, h5⟩ hK10
      have hF : OwnI W10 (W9.heap.size + 2 + 5) v ((edgesTo s 65).take (2 * n)) := by
        rw [rows_all s hs, List.take_of_length_le (by rw [flat_len]; omega)]; exact h4
      have s10 := h5.1.size
      have lt10 := (Array.getElem?_eq_some_iff.1 hK10).1
      have hO10 : Rf.Open W5.heap.size (W9.heap.size :: Ds) W10 := (h5.open (hOp.below q9 (Nat.le_refl _)) (fun h => by have := hOp.lt _ h; omega)).cons (by omega) hK10 (fun h => by have := hOp.lt _ h; omega)
      have q510 : Below W5.heap.size W5 W10 := q59.trans (h5.1.mono sr)
      have bn10 := h5.boxed bn9 (by omega)
      clear hK10 h5 hOp q9 bn9 b9 hB
      go_wp2_with fail
      refine (rruns_any s W10 hs).mono ?_
      rintro e W11 ⟨vr, rfl, hr11, q11⟩
      have s11 := q11.size
      have T11 : Tab W11 := (T5.below q510 (by omega)).below q11 (by omega)
      have r1 : RdI W11 v ((edgesTo s 65).take (2 * n)) := (rdI_own hF).below q11
      have r0 : RdI W11 (.slice wa (numsTo s 64).length wcap) (numsTo s 64) := ((rdI_own hw5).below q510).below q11
      have r2 : RdI W11 vr (edgesTo s 65) := rdI_own hr11
      have hcf : W11.cell? ⟨wr.heap.size, 0, none⟩ = some v := (q11.cell (p := ⟨wr.heap.size, 0, none⟩) (by show wr.heap.size < _; omega)).trans h2.cell
      have hcn : W11.cell? ⟨w2.heap.size, 0, none⟩ = some (nu n) := (q11.cell (p := ⟨w2.heap.size, 0, none⟩) (by show w2.heap.size < _; omega)).trans bn10.cell
      have r2c := r2
      have r1c := r1
      obtain ⟨ra, rcap, rfl, hrc, hrm, hrx⟩ := r2
      obtain ⟨fa, fcap, hfe, hfc, hfm, hfx⟩ := r1
      subst hfe
      have hlen1 := numsTo_le s 64
      have hlen2 := edgesTo_len s 65
      unfold maxLen at hrm hfm
      have hX : Below W11.heap.size W11 W11.drew := (Below.refl _ W11).drew
      obtain ⟨L1, hL1⟩ : ∃ L1, L1 = (numsTo s 64).length := ⟨_, rfl⟩
      obtain ⟨L2, hL2⟩ : ∃ L2, L2 = (edgesTo s 65).length := ⟨_, rfl⟩
      obtain ⟨_, _, e0, hwc, hwm, _⟩ := id r0
      cases e0
      unfold maxLen at hwm
      have CA : Hid (∀ w', (w'.cell? ⟨wr.heap.size, 0, none⟩ = some (.slice fa ((edgesTo s 65).take (2 * n)).length fcap) ∧ w'.cell? ⟨w2.heap.size, 0, none⟩ = some (nu n) ∧ Below W11.heap.size W11 w') → Calls Tryd.prog 11 #[st s, nu n] w' fun e w'' => ∃ va, e = .returned va ∧ (w''.cell? ⟨wr.heap.size, 0, none⟩ = some (.slice fa ((edgesTo s 65).take (2 * n)).length fcap) ∧ w''.cell? ⟨w2.heap.size, 0, none⟩ = some (nu n) ∧ Below W11.heap.size W11 w'') ∧ RdI w'' va ((numsTo s 64).take n)) := fun w' h9 => by
        have hz := h9.2.2.size
        refine (allOf_any s n w' hs (by omega) (T11.below h9.2.2 (by omega)) (by omega)).mono ?_
        rintro e w'' ⟨va, rfl, hr, hq⟩
        exact ⟨va, rfl, ⟨(hq.cell (p := ⟨wr.heap.size, 0, none⟩) (by show wr.heap.size < _; omega)).trans h9.1, (hq.cell (p := ⟨w2.heap.size, 0, none⟩) (by show w2.heap.size < _; omega)).trans h9.2.1, h9.2.2.trans (hq.mono hz)⟩, rdI_own hr⟩
      have CS1 : Hid (∀ w' va, (w'.cell? ⟨wr.heap.size, 0, none⟩ = some (.slice fa ((edgesTo s 65).take (2 * n)).length fcap) ∧ w'.cell? ⟨w2.heap.size, 0, none⟩ = some (nu n) ∧ Below W11.heap.size W11 w') → RdI w' va ((numsTo s 64).take n) → Calls Tryd.prog 9 #[va, .slice wa (min n L1) wcap] w' fun e w'' => e = .returned (.bool true) ∧ (w''.cell? ⟨wr.heap.size, 0, none⟩ = some (.slice fa ((edgesTo s 65).take (2 * n)).length fcap) ∧ w''.cell? ⟨w2.heap.size, 0, none⟩ = some (nu n) ∧ Below W11.heap.size W11 w'')) := fun w' va h9 hr => by
        rw [take_min, ← hL1] at hr
        have c := same_any _ _ _ _ w' hr ((r0.below h9.2.2).take (min n L1) (by omega))
        rw [decide_eq_true rfl] at c
        refine c.mono ?_
        rintro e w'' ⟨rfl, m, rfl⟩
        exact ⟨rfl, h9.1, h9.2.1, ⟨h9.2.2.os, h9.2.2.tape, h9.2.2.output, h9.2.2.size, h9.2.2.block⟩⟩
      have CS2 : Hid (∀ w', (w'.cell? ⟨wr.heap.size, 0, none⟩ = some (.slice fa ((edgesTo s 65).take (2 * n)).length fcap) ∧ w'.cell? ⟨w2.heap.size, 0, none⟩ = some (nu n) ∧ Below W11.heap.size W11 w') → Calls Tryd.prog 9 #[.slice fa ((edgesTo s 65).take (2 * n)).length fcap, .slice ra (min (2 * n) L2) rcap] w' fun e w'' => e = .returned (.bool true) ∧ (w''.cell? ⟨wr.heap.size, 0, none⟩ = some (.slice fa ((edgesTo s 65).take (2 * n)).length fcap) ∧ w''.cell? ⟨w2.heap.size, 0, none⟩ = some (nu n) ∧ Below W11.heap.size W11 w'')) := fun w' h9 => by
        have hr := r1c.below h9.2.2
        have c := same_any _ _ _ _ w' hr ((r2c.below h9.2.2).take (min (2 * n) L2) (by omega))
        rw [hL2, ← take_min, decide_eq_true rfl, ← hL2] at c
        refine c.mono ?_
        rintro e w'' ⟨rfl, m, rfl⟩
        exact ⟨rfl, h9.1, h9.2.1, ⟨h9.2.2.os, h9.2.2.tape, h9.2.2.output, h9.2.2.size, h9.2.2.block⟩⟩
      have hz1 : (L1 : Int) ≤ (wcap : Int) := by omega
      have hz2 : (L2 : Int) ≤ (rcap : Int) := by omega
      have hl1 : L1 ≤ 64 := by omega
      have hl2 : L2 ≤ 1000 := by omega
      clear hfx hrx h4 hF h2 hr11 r0 r1c r2c bn10 T11
      rw [← hL1] at *
      rw [← hL2] at *
      generalize ((edgesTo s 65).take (2 * n)).length = L3 at *
      have hn0 : (0 : Int) ≤ (n : Int) := by omega
      have hwr : IntKind.i64.wrap (2 * (n : Int)) = 2 * (n : Int) := by rw [IntKind.wrap_i64]; omega
      have hmn1 : ∀ w, (Builtin.min_ #[3, 3] 3 #[.int .i64 (n : Int), .int .i64 (L1 : Int)]).run Tryd.prog w = .ok (.int .i64 ((min n L1 : Nat) : Int)) w := min_two n L1
      have hmn2 : ∀ w, (Builtin.min_ #[3, 3] 3 #[.int .i64 (2 * (n : Int)), .int .i64 (L2 : Int)]).run Tryd.prog w = .ok (.int .i64 ((min (2 * n) L2 : Nat) : Int)) w := min_two (2 * n) L2
      have hsl1 : ∀ w, (Instr.slice 24 (.slice wa L1 wcap) none (some (.int .i64 ((min n L1 : Nat) : Int))) none).run Tryd.prog w = .ok (.slice wa (min n L1) wcap) w := slice_to wa L1 wcap _ (by omega)
      have hsl2 : ∀ w, (Instr.slice 24 (.slice ra L2 rcap) none (some (.int .i64 ((min (2 * n) L2 : Nat) : Int))) none).run Tryd.prog w = .ok (.slice ra (min (2 * n) L2) rcap) w := slice_to ra L2 rcap _ (by omega)
      generalize min n L1 = m1 at *
      generalize min (2 * n) L2 = m2 at *
      go_wp2_with fail
      go_region_held3 (fun w' => w'.cell? ⟨wr.heap.size, 0, none⟩ = some (.slice fa L3 fcap) ∧ w'.cell? ⟨w2.heap.size, 0, none⟩ = some (nu n) ∧ Below W11.heap.size W11 w') (first | assumption | (refine ⟨?_, ?_, ?_⟩ <;> first | assumption | exact (Below.refl _ _).drew)) (first | (go_at_call 11; with_reducible refine (CA.out _ (by first | assumption | exact ⟨hcf, hcn, hX⟩ | exact ⟨hcf, hcn, Below.refl _ _⟩)).mono ?_; rintro e w9 ⟨va, rfl, hS9, hr9⟩) | (go_at_call 9; with_reducible refine (CS1.out _ _ hS9 hr9).mono ?_; rintro e w10 ⟨rfl, hS10⟩) | (go_at_call 9; with_reducible refine (CS2.out _ hS10).mono ?_; rintro e w11 ⟨rfl, hS11⟩))
      all_goals (go_wp2; rw [s9] at hO10; exact Rf.leaves_marks (B := W5.heap.size) (Ds := (wr.heap.size + 1) :: Ds) ((hO10.below q11 (Nat.le_refl _)).below hS11.2.2 (Nat.le_refl _)) (by have := hS11.2.2.size; omega) (fun W' hW' => ⟨_, results_tmp rfl _ _ _, rfl, ((QW.trans (q510.mono (by omega))).trans (q11.mono (by omega))).trans ((hS11.2.2.mono (by omega)).trans (hW'.mono (by omega)))⟩))
    case stop3 =>
      rintro c pre W10 hpre ⟨v, h0, rfl, h2, h4, h5⟩ hK10
      have hF : OwnI W10 (W9.heap.size + 2 + 5) v ((edgesTo s 65).take (2 * n)) := by
        rw [rows_all s hs, ← flat_take, ← prefix_take hpre n h0]; exact h4
      have s10 := h5.1.size
      have lt10 := (Array.getElem?_eq_some_iff.1 hK10).1
      have hO10 : Rf.Open W5.heap.size (W9.heap.size :: Ds) W10 := (h5.open (hOp.below q9 (Nat.le_refl _)) (fun h => by have := hOp.lt _ h; omega)).cons (by omega) hK10 (fun h => by have := hOp.lt _ h; omega)
      have q510 : Below W5.heap.size W5 W10 := q59.trans (h5.1.mono sr)
      have bn10 := h5.boxed bn9 (by omega)
      clear hK10 h5 hOp q9 bn9 b9 hB
      go_wp2_with fail
      refine (rruns_any s W10 hs).mono ?_
      rintro e W11 ⟨vr, rfl, hr11, q11⟩
      have s11 := q11.size
      have T11 : Tab W11 := (T5.below q510 (by omega)).below q11 (by omega)
      have r1 : RdI W11 v ((edgesTo s 65).take (2 * n)) := (rdI_own hF).below q11
      have r0 : RdI W11 (.slice wa (numsTo s 64).length wcap) (numsTo s 64) := ((rdI_own hw5).below q510).below q11
      have r2 : RdI W11 vr (edgesTo s 65) := rdI_own hr11
      have hcf : W11.cell? ⟨wr.heap.size, 0, none⟩ = some v := (q11.cell (p := ⟨wr.heap.size, 0, none⟩) (by show wr.heap.size < _; omega)).trans h2.cell
      have hcn : W11.cell? ⟨w2.heap.size, 0, none⟩ = some (nu n) := (q11.cell (p := ⟨w2.heap.size, 0, none⟩) (by show w2.heap.size < _; omega)).trans bn10.cell
      have r2c := r2
      have r1c := r1
      obtain ⟨ra, rcap, rfl, hrc, hrm, hrx⟩ := r2
      obtain ⟨fa, fcap, hfe, hfc, hfm, hfx⟩ := r1
      subst hfe
      have hlen1 := numsTo_le s 64
      have hlen2 := edgesTo_len s 65
      unfold maxLen at hrm hfm
      have hX : Below W11.heap.size W11 W11.drew := (Below.refl _ W11).drew
      obtain ⟨L1, hL1⟩ : ∃ L1, L1 = (numsTo s 64).length := ⟨_, rfl⟩
      obtain ⟨L2, hL2⟩ : ∃ L2, L2 = (edgesTo s 65).length := ⟨_, rfl⟩
      obtain ⟨_, _, e0, hwc, hwm, _⟩ := id r0
      cases e0
      unfold maxLen at hwm
      have CA : Hid (∀ w', (w'.cell? ⟨wr.heap.size, 0, none⟩ = some (.slice fa ((edgesTo s 65).take (2 * n)).length fcap) ∧ w'.cell? ⟨w2.heap.size, 0, none⟩ = some (nu n) ∧ Below W11.heap.size W11 w') → Calls Tryd.prog 11 #[st s, nu n] w' fun e w'' => ∃ va, e = .returned va ∧ (w''.cell? ⟨wr.heap.size, 0, none⟩ = some (.slice fa ((edgesTo s 65).take (2 * n)).length fcap) ∧ w''.cell? ⟨w2.heap.size, 0, none⟩ = some (nu n) ∧ Below W11.heap.size W11 w'') ∧ RdI w'' va ((numsTo s 64).take n)) := fun w' h9 => by
        have hz := h9.2.2.size
        refine (allOf_any s n w' hs (by omega) (T11.below h9.2.2 (by omega)) (by omega)).mono ?_
        rintro e w'' ⟨va, rfl, hr, hq⟩
        exact ⟨va, rfl, ⟨(hq.cell (p := ⟨wr.heap.size, 0, none⟩) (by show wr.heap.size < _; omega)).trans h9.1, (hq.cell (p := ⟨w2.heap.size, 0, none⟩) (by show w2.heap.size < _; omega)).trans h9.2.1, h9.2.2.trans (hq.mono hz)⟩, rdI_own hr⟩
      have CS1 : Hid (∀ w' va, (w'.cell? ⟨wr.heap.size, 0, none⟩ = some (.slice fa ((edgesTo s 65).take (2 * n)).length fcap) ∧ w'.cell? ⟨w2.heap.size, 0, none⟩ = some (nu n) ∧ Below W11.heap.size W11 w') → RdI w' va ((numsTo s 64).take n) → Calls Tryd.prog 9 #[va, .slice wa (min n L1) wcap] w' fun e w'' => e = .returned (.bool true) ∧ (w''.cell? ⟨wr.heap.size, 0, none⟩ = some (.slice fa ((edgesTo s 65).take (2 * n)).length fcap) ∧ w''.cell? ⟨w2.heap.size, 0, none⟩ = some (nu n) ∧ Below W11.heap.size W11 w'')) := fun w' va h9 hr => by
        rw [take_min, ← hL1] at hr
        have c := same_any _ _ _ _ w' hr ((r0.below h9.2.2).take (min n L1) (by omega))
        rw [decide_eq_true rfl] at c
        refine c.mono ?_
        rintro e w'' ⟨rfl, m, rfl⟩
        exact ⟨rfl, h9.1, h9.2.1, ⟨h9.2.2.os, h9.2.2.tape, h9.2.2.output, h9.2.2.size, h9.2.2.block⟩⟩
      have CS2 : Hid (∀ w', (w'.cell? ⟨wr.heap.size, 0, none⟩ = some (.slice fa ((edgesTo s 65).take (2 * n)).length fcap) ∧ w'.cell? ⟨w2.heap.size, 0, none⟩ = some (nu n) ∧ Below W11.heap.size W11 w') → Calls Tryd.prog 9 #[.slice fa ((edgesTo s 65).take (2 * n)).length fcap, .slice ra (min (2 * n) L2) rcap] w' fun e w'' => e = .returned (.bool true) ∧ (w''.cell? ⟨wr.heap.size, 0, none⟩ = some (.slice fa ((edgesTo s 65).take (2 * n)).length fcap) ∧ w''.cell? ⟨w2.heap.size, 0, none⟩ = some (nu n) ∧ Below W11.heap.size W11 w'')) := fun w' h9 => by
        have hr := r1c.below h9.2.2
        have c := same_any _ _ _ _ w' hr ((r2c.below h9.2.2).take (min (2 * n) L2) (by omega))
        rw [hL2, ← take_min, decide_eq_true rfl, ← hL2] at c
        refine c.mono ?_
        rintro e w'' ⟨rfl, m, rfl⟩
        exact ⟨rfl, h9.1, h9.2.1, ⟨h9.2.2.os, h9.2.2.tape, h9.2.2.output, h9.2.2.size, h9.2.2.block⟩⟩
      have hz1 : (L1 : Int) ≤ (wcap : Int) := by omega
      have hz2 : (L2 : Int) ≤ (rcap : Int) := by omega
      have hl1 : L1 ≤ 64 := by omega
      have hl2 : L2 ≤ 1000 := by omega
      clear hfx hrx h4 hF h2 hr11 r0 r1c r2c bn10 T11
      rw [← hL1] at *
      rw [← hL2] at *
      generalize ((edgesTo s 65).take (2 * n)).length = L3 at *
      have hn0 : (0 : Int) ≤ (n : Int) := by omega
      have hwr : IntKind.i64.wrap (2 * (n : Int)) = 2 * (n : Int) := by rw [IntKind.wrap_i64]; omega
      have hmn1 : ∀ w, (Builtin.min_ #[3, 3] 3 #[.int .i64 (n : Int), .int .i64 (L1 : Int)]).run Tryd.prog w = .ok (.int .i64 ((min n L1 : Nat) : Int)) w := min_two n L1
      have hmn2 : ∀ w, (Builtin.min_ #[3, 3] 3 #[.int .i64 (2 * (n : Int)), .int .i64 (L2 : Int)]).run Tryd.prog w = .ok (.int .i64 ((min (2 * n) L2 : Nat) : Int)) w := min_two (2 * n) L2
      have hsl1 : ∀ w, (Instr.slice 24 (.slice wa L1 wcap) none (some (.int .i64 ((min n L1 : Nat) : Int))) none).run Tryd.prog w = .ok (.slice wa (min n L1) wcap) w := slice_to wa L1 wcap _ (by omega)
      have hsl2 : ∀ w, (Instr.slice 24 (.slice ra L2 rcap) none (some (.int .i64 ((min (2 * n) L2 : Nat) : Int))) none).run Tryd.prog w = .ok (.slice ra (min (2 * n) L2) rcap) w := slice_to ra L2 rcap _ (by omega)
      generalize min n L1 = m1 at *
      generalize min (2 * n) L2 = m2 at *
      go_wp2_with fail
      go_region_held3 (fun w' => w'.cell? ⟨wr.heap.size, 0, none⟩ = some (.slice fa L3 fcap) ∧ w'.cell? ⟨w2.heap.size, 0, none⟩ = some (nu n) ∧ Below W11.heap.size W11 w') (first | assumption | (refine ⟨?_, ?_, ?_⟩ <;> first | assumption | exact (Below.refl _ _).drew)) (first | (go_at_call 11; with_reducible refine (CA.out _ (by first | assumption | exact ⟨hcf, hcn, hX⟩ | exact ⟨hcf, hcn, Below.refl _ _⟩)).mono ?_; rintro e w9 ⟨va, rfl, hS9, hr9⟩) | (go_at_call 9; with_reducible refine (CS1.out _ _ hS9 hr9).mono ?_; rintro e w10 ⟨rfl, hS10⟩) | (go_at_call 9; with_reducible refine (CS2.out _ hS10).mono ?_; rintro e w11 ⟨rfl, hS11⟩))
      all_goals (go_wp2; rw [s9] at hO10; exact Rf.leaves_marks (B := W5.heap.size) (Ds := (wr.heap.size + 1) :: Ds) ((hO10.below q11 (Nat.le_refl _)).below hS11.2.2 (Nat.le_refl _)) (by have := hS11.2.2.size; omega) (fun W' hW' => ⟨_, results_tmp rfl _ _ _, rfl, ((QW.trans (q510.mono (by omega))).trans (q11.mono (by omega))).trans ((hS11.2.2.mono (by omega)).trans (hW'.mono (by omega)))⟩))
end Bt
end Go.Proofs.YtffaogkinhkgdaaDoor
