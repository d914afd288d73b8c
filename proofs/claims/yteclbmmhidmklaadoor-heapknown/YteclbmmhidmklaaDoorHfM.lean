/- HepA, HepD, HepE, HepF, in one text. -/
import Derived.Test.YteclbmmhidmklaaDoorHepC
/- The laws' own 'pairs': what an iterator hands out, up to so many. -/
namespace Go.Proofs.YteclbmmhidmklaaDoor
set_option linter.ambiguousOpen false
open Go.RowKit
namespace Hh
open Ft
set_option linter.unusedSimpArgs false
set_option linter.unusedVariables false
attribute [local go_sem] Oper.semAt_some

theorem prefix_take {α : Type} {a b : List α} (h : a <+: b) (n : Nat) (hn : n ≤ a.length) : a.take n = b.take n := by
  obtain ⟨c, rfl⟩ := h
  rw [List.take_append_of_le_length hn]

set_option maxRecDepth 1000000 in
set_option maxHeartbeats 4000000 in
theorem pairs_any (fv : Value) (X : Nat → Prop) (L : List It) (w : World) (most : Nat) (hit : IterH w fv X L) (hfew : L.length ≤ 100000) (hm : most ≤ 100000) :
    Calls Tryd.prog 14 #[fv, nun most] w fun e w' => ∃ v, e = .returned v ∧ w'.ownsRow w.heap.size 3 1 v (2 * (L.take most).length) ((prs (L.take most)).map nu) ∧ Below w.heap.size w w' := by
  obtain ⟨i0, ji, hz0, hz1, hz2⟩ := info_parts infoI
  have hB1 : Below w.heap.size w ((w.alloc (.cells #[nun most] 3)).alloc (.cells #[.slice none 0 0] 35)) := ((Below.refl _ _).alloc (Nat.le_refl _) _).alloc (by simp) _
  have x0 : Boxed ((w.alloc (.cells #[nun most] 3)).alloc (.cells #[.slice none 0 0] 35)) w.heap.size 3 (nun most) := (Boxed.new w _ _).alloc _
  have x1 : Boxed ((w.alloc (.cells #[nun most] 3)).alloc (.cells #[.slice none 0 0] 35)) (w.heap.size + 1) 35 (.slice none 0 0) := by
    have := Boxed.new (w.alloc (.cells #[nun most] 3)) 35 (.slice none 0 0)
    simpa using this
  have hs1 : ((w.alloc (.cells #[nun most] 3)).alloc (.cells #[.slice none 0 0] 35)).heap.size = w.heap.size + 2 := by simp
  obtain ⟨W1, hW1⟩ : ∃ W1, (w.alloc (.cells #[nun most] 3)).alloc (.cells #[.slice none 0 0] 35) = W1 := ⟨_, rfl⟩
  rw [hW1] at hB1 x0 x1 hs1
  have HW1 := Hid.mk' hW1
  have hB1H := Hid.mk' hB1
  obtain ⟨gf, lb, kk, rfl, hent, hXl, hsq⟩ := hit
  have HSQ := Hid.mk' (hsq W1 (by omega) (fun b hb => (hB1.block b (hXl b hb))))
  have hXl1 : ∀ b, X b → b < W1.heap.size := fun b hb => by have := hXl b hb; omega
  clear hsq hW1
  refine (callsIn_wide (n := 8)).1 ?_
  refine callsIn_of_wp_marks Tryd.func14 rfl trivial ?_ rfl
  refine wpIn_wide.2 ?_
  simp only [Tryd.ntmps14, List.size_toArray, List.length_cons, List.length_nil, Nat.reduceAdd, Nat.reduceSub, Array.replicate_succ, Array.replicate_zero, List.push_toArray, List.append_toArray, List.nil_append, List.cons_append]
  go_upto_region 2 with fail
  rw [HW1.out]
  go_wp2_with fail
  refine Rf.wp_range (L := L) (w0 := W1) rfl hent HSQ.out (Below.refl _ _) (fun _ => rfl) hXl1
    (fun pre W' => ∃ v, pre.length ≤ most ∧ Boxed W' w.heap.size 3 (nun most) ∧ Boxed W' (w.heap.size + 1) 35 v ∧ W'.ownsRow (W1.heap.size + 2 + kk) 3 1 v (2 * pre.length) ((prs pre).map nu) ∧ Below w.heap.size w W')
    (fun c pre W' => ∃ v, most ≤ pre.length ∧ c = .exit 0 ∧ Boxed W' (w.heap.size + 1) 35 v ∧ W'.ownsRow (W1.heap.size + 2 + kk) 3 1 v (2 * (pre.take most).length) ((prs (pre.take most)).map nu) ∧ Below w.heap.size w W') ?rest ?restx
    ⟨_, Nat.zero_le _, x0, x1, World.ownsRow_nil _ _ _ _, hB1H.out⟩ ?act ?assign ?body ?done ?stop
  case assign =>
    intro l' x W2 K hK
    gi_wp2
    exact hK
  case rest =>
    rintro pre A B row ⟨v, h2, h3, h4, h5, h6⟩ hg hr
    have ne : ∀ b, b < W1.heap.size → some b ≠ row := fun b hb e => by have := (hr b e.symm).1; omega
    exact ⟨v, h2, h3.kept hg (ne _ (by omega)), h4.kept hg (ne _ (by omega)), hr.row h5 (Nat.le_refl _) hg, h6.grown hg h6.size (fun r e => by have := (hr r e).1; omega)⟩
  case restx =>
    rintro c pre A B row ⟨v, h2, h3, h4, h5, h6⟩ hg hr
    have ne : ∀ b, b < W1.heap.size → some b ≠ row := fun b hb e => by have := (hr b e.symm).1; omega
    exact ⟨v, h2, h3, h4.kept hg (ne _ (by omega)), hr.row h5 (Nat.le_refl _) hg, h6.grown hg h6.size (fun r e => by have := (hr r e).1; omega)⟩
  case body =>
    rintro l' pre x W2 hpre hsz2 ⟨v, h2, h3, h4, h5, h6⟩
    have hl64 : pre.length < 100001 := by
      have := hpre.length_le
      simp at this; omega
    obtain ⟨xi, xk⟩ := x
    have HS : Hid ((prs (pre ++ [⟨xi, xk⟩])).map nu = (prs pre).map nu ++ [nu xi, nu xk]) := by show _ = _; rw [prs_snoc, List.map_append]; rfl
    have HLn : Hid ((pre ++ [(⟨xi, xk⟩ : It)]).length = pre.length + 1) := by show _ = _; simp
    obtain ⟨m, hm'⟩ : ∃ m, pre.length = m := ⟨_, rfl⟩
    rw [hm'] at h5 hl64 HLn h2
    obtain ⟨a, cap, rfl, hcap, hmax, _⟩ := Nm.own_shape h5
    have hc3 := h3.cell
    have hc4 := h4.cell
    unfold maxLen at hmax
    by_cases hq : m = most
    · subst hq
      have HQ : Hid (pre.take m = pre ∧ pre.length = m) := ⟨List.take_of_length_le (by omega), hm'⟩
      have H4 := Hid.mk' h4
      have H5 := Hid.mk' h5
      have H6 := Hid.mk' h6
      have hqI : (2 * (m : Int)) ≤ ((2 * m : Nat) : Int) := by omega
      clear h4 h5 h6 HS hm' h2
      gi_wp2
      refine ⟨Rf.Leaves.refl _ _ _ _, _, by rw [HLn.out]; omega, rfl, H4.out, ?_, H6.out⟩
      rw [List.take_append_of_le_length (by rw [HQ.out.2]; exact Nat.le_refl _), HQ.out.1, HQ.out.2]
      exact H5.out
    · have hqI : ¬ (2 * (most : Int)) ≤ ((2 * m : Nat) : Int) := by omega
      clear hq hm'
      gi_wp2_with (gi_at_builtin; refine wpListIn_append_own _ rfl _ _ 35 rfl (W1.heap.size + 2 + kk) 3 i0 (.int .i64 0) 1 8 Tryd.underlying35 ji hz0 hz1 hz2 rfl (by decide) _ _ _ rfl (h5.alloc _) ⟨W2.heap.size, 0, none⟩ 2 2 [nu xi, nu xk] rfl rfl (cell_two_new _ _ _ _) (by simp [Value.oneCell']) (by unfold maxLen; omega) (by omega) (by simp; omega) ?_; intro v' w1 hown' hgrow _; obtain ⟨g', cap', rfl⟩ := ownsRow_succ hown'; obtain ⟨hv1, hv2, hr2, hk2, hb2, ho2⟩ := Rf.collected (X := X) (lo := W1.heap.size) (n := w.heap.size) h4 (by decide) h5 (by omega) (fun h => by have := hXl _ h; omega) (fun b hb => hXl1 b hb) (by omega) hsz2 (by omega) hown' hgrow; have hc1 := hv1.cell; have hf1 := hv1.frozen)
      rw [hs1] at hk2 hr2
      exact ⟨hk2, by rw [HLn.out]; omega, ho2 _ _ _ (by omega) (by omega) h3, _, hv2, by rw [HS.out, HLn.out]; exact hr2, h6.trans (hb2.mono (Nat.le_refl _))⟩
  case done =>
    rintro W2 ⟨v, h2, h3, h4, h5, h6⟩ hK
    have hc4 := h4.cell
    have h7 := own_monoI (ownsRow_putObj h5 (.deferred none) hK rfl) (show w.heap.size ≤ W1.heap.size + 2 + kk by omega)
    have HT : Hid (L.take most = L) := List.take_of_length_le h2
    have hsz2 : w.heap.size ≤ W1.heap.size := by omega
    obtain ⟨n, hn⟩ : ∃ n, L.length = n := ⟨_, rfl⟩
    rw [hn] at h7 h5
    obtain ⟨a, cap, rfl, _⟩ := Nm.own_shape h5
    have HN := Hid.mk' hn
    have H7 := Hid.mk' h7
    have H6 := Hid.mk' h6
    have HK := Hid.mk' hK
    clear h3 h4 h5 h6 h7 hn h2 hK
    go_wp2
    refine ⟨by simp, .inl ⟨_, _, rfl, run_takeDeferred HK.out, ?_⟩⟩
    refine ⟨_, results_tmp rfl _ _ _, _, rfl, ?_, ?_⟩
    · rw [HT.out, HN.out]
      exact H7.out
    · exact H6.out.grown (grownBy_putObj' _ _ _) H6.out.size (fun r e => by cases e; exact hsz2)
  case stop =>
    rintro c pre W2 hpre ⟨v, h2, rfl, h4, h5, h6⟩ hK
    have hc4 := h4.cell
    have h7 := own_monoI (ownsRow_putObj h5 (.deferred none) hK rfl) (show w.heap.size ≤ W1.heap.size + 2 + kk by omega)
    have HT : Hid (pre.take most = L.take most) := prefix_take hpre most h2
    have hsz2 : w.heap.size ≤ W1.heap.size := by omega
    obtain ⟨n, hn⟩ : ∃ n, (pre.take most).length = n := ⟨_, rfl⟩
    rw [hn] at h7 h5
    obtain ⟨a, cap, rfl, _⟩ := Nm.own_shape h5
    have HN := Hid.mk' hn
    have H7 := Hid.mk' h7
    have H6 := Hid.mk' h6
    have HK := Hid.mk' hK
    clear h4 h5 h6 h7 hn h2 hK
    go_wp2
    refine ⟨by simp, .inl ⟨_, _, rfl, run_takeDeferred HK.out, ?_⟩⟩
    refine ⟨_, results_tmp rfl _ _ _, _, rfl, ?_, ?_⟩
    · rw [← HT.out, HN.out]
      exact H7.out
    · exact H6.out.grown (grownBy_putObj' _ _ _) H6.out.size (fun r e => by cases e; exact hsz2)
end Hh
end Go.Proofs.YteclbmmhidmklaaDoor
/- The program's heap and the document's side by side; what the law asks of both. -/
namespace Go.Proofs.YteclbmmhidmklaaDoor
set_option linter.ambiguousOpen false
open Go.RowKit
namespace Hh
open Ft
set_option linter.unusedSimpArgs false
set_option linter.unusedVariables false
attribute [local go_sem] Oper.semAt_some

/-- How the document's heap lies, with the blocks that it leans on. -/
def RepH (base : Nat) : RepHT := fun w t G N L => ∃ lv, RHp base w t N lv L ∧ G = (fun k => k = t ∨ lv.ownBlock = some k) ∧ base ≤ w.heap.size

section
variable {base : Nat} {w w' : World} {t : Nat} {F G : Nat → Prop} {N : Int} {L L' : List It}

theorem RepH.lt (h : RepH base w t F N L) : ∀ k, F k → base ≤ k ∧ k < w.heap.size := by
  obtain ⟨lv, h1, rfl, h3⟩ := h
  intro k hk
  rcases hk with rfl | hk
  · exact ⟨h1.lo, h1.tlt⟩
  · exact ⟨(h1.row.lt k hk).1, (h1.row.lt k hk).2⟩

theorem RepH.keep (h : RepH base w t F N L) (hk : Keep G w w') (hn : ∀ k, F k → ¬ G k) : RepH base w' t F N L := by
  obtain ⟨lv, h1, rfl, h3⟩ := h
  exact ⟨lv, ⟨hk.at h1.blk (hn t (.inl rfl)), hk.own h1.row (fun g e => hn g (.inr e)), h1.lo, h1.ne⟩, rfl, Nat.le_trans h3 hk.size⟩

theorem RepH.below (h : RepH base w t F N L) (hb : Below w.heap.size w w') : RepH base w' t F N L := h.keep (Keep.of_below (F := fun _ => False) hb) (fun _ _ h => h)

theorem leftH_of {lv lv' : Value} (h : RHp base w' t N lv' L') (h3 : base ≤ w.heap.size) (hk : Keep (fun k => k = t) w w') (hn : ∀ g, lv'.ownBlock = some g → w.heap.size ≤ g) : LeftH (RepH base) w w' t (fun k => k = t ∨ lv.ownBlock = some k) N L' :=
  ⟨_, ⟨lv', h, rfl, Nat.le_trans h3 hk.size⟩, hk.weaken (fun k _ e => .inl e), fun k hk => hk.elim (fun e => .inl (.inl e)) (fun e => .inr (hn k e))⟩
end

theorem setH_r (base : Nat) (w : World) (t : Nat) (F : Nat → Prop) (N : Int) (L : List It) (i key : Int) (h : RepH base w t F N L) (hl : L.length ≤ 65536) (hi : 0 ≤ i ∧ i < N) :
    Calls Tryd.prog 16 #[ptr t, nu i, nu key] w fun e w' => e = .returned (nu 0) ∧ LeftH (RepH base) w w' t F N (setH L i key) := by
  obtain ⟨lv, h1, rfl, h3⟩ := h
  refine (setH_yes base w t N lv L i key h1 (by omega) h3 hi).mono ?_
  rintro e w' ⟨rfl, lv', h4, h5, h6⟩
  exact ⟨rfl, leftH_of h4 h3 h5 h6⟩

theorem setHn_r (base : Nat) (w : World) (t : Nat) (F : Nat → Prop) (N : Int) (L : List It) (i key : Int) (h : RepH base w t F N L) (hi : ¬ (0 ≤ i ∧ i < N)) :
    Calls Tryd.prog 16 #[ptr t, nu i, nu key] w fun e w' => e = .returned (nu 1) ∧ Below w.heap.size w w' := by
  obtain ⟨lv, h1, rfl, h3⟩ := h
  exact setH_no base w t N lv L i key h1 hi

theorem dropH_r (base : Nat) (w : World) (t : Nat) (F : Nat → Prop) (N : Int) (L : List It) (i : Int) (h : RepH base w t F N L) (hl : L.length ≤ 65536) :
    Calls Tryd.prog 12 #[ptr t, nu i] w fun e w' => e = .returned (.bool (hasH L i)) ∧ LeftH (RepH base) w w' t F N (dropH L i) := by
  obtain ⟨lv, h1, rfl, h3⟩ := h
  refine (dropH_ref base w t N lv L i h1 (by omega) h3).mono ?_
  rintro e w' ⟨rfl, lv', h4, h5, h6⟩
  exact ⟨rfl, leftH_of h4 h3 h5 h6⟩

theorem keyH_r (base : Nat) (w : World) (t : Nat) (F : Nat → Prop) (N : Int) (L : List It) (i : Int) (h : RepH base w t F N L) :
    Calls Tryd.prog 35 #[ptr t, nu i] w fun e w' => e = .returned (.tuple #[nu ((keyH L i).getD 0), .bool (keyH L i).isSome]) ∧ Below w.heap.size w w' := by
  obtain ⟨lv, h1, rfl, h3⟩ := h
  exact keyH_ref base w t N lv L i h1

theorem leastH_r (base : Nat) (w : World) (t : Nat) (F : Nat → Prop) (N : Int) (L : List It) (h : RepH base w t F N L) :
    Calls Tryd.prog 33 #[ptr t] w fun e w' => e = .returned (.tuple #[nu (fstI L), nu (fstK L), .bool (!L.isEmpty)]) ∧ Below w.heap.size w w' := by
  obtain ⟨lv, h1, rfl, h3⟩ := h
  exact leastH_ref base w t N lv L h1

theorem pairsH_r (base : Nat) (w : World) (t : Nat) (F : Nat → Prop) (N : Int) (L : List It) (h : RepH base w t F N L) (hl : L.length ≤ 65536) :
    Calls Tryd.prog 9 #[ptr t] w fun e w' => ∃ a c, e = .returned (.slice a (2 * L.length) c) ∧ Hid (w'.ownsRow w.heap.size 3 1 (.slice a (2 * L.length) c) (2 * L.length) ((prs L).map nu) ∧ Below w.heap.size w w') := by
  obtain ⟨lv, h1, rfl, h3⟩ := h
  exact pairsH_ref base w t N lv L h1 (by omega)

/-- The program's heap and the document's, all above what was there. -/
structure Hp (R : RepHT) (base : Nat) (w0 w : World) (p t : Nat) (F G : Nat → Prop) (N : Int) (L1 L2 : List It) : Prop where
  rep : R w p F N L1
  ref : RepH base w t G N L2
  fg : ∀ k, F k → ¬ G k
  fl : ∀ k, F k → w0.heap.size ≤ k
  gl : ∀ k, G k → w0.heap.size ≤ k
  good1 : Hk N L1
  good2 : Hk N L2
  few1 : L1.length ≤ 65536
  few2 : L2.length ≤ 65536
  bel : Below w0.heap.size w0 w

/-- From the world wb on: both, and what of the memory may have turned since. -/
structure Hd (R : RepHT) (base : Nat) (w0 wb w : World) (p t : Nat) (F0 G0 F G : Nat → Prop) (N : Int) (L1 L2 : List It) : Prop where
  pr : Hp R base w0 w p t F G N L1 L2
  kp : Keep (fun j => F0 j ∨ G0 j) wb w
  gf : ∀ k, F k → F0 k ∨ wb.heap.size ≤ k
  gg : ∀ k, G k → G0 k ∨ wb.heap.size ≤ k

section
variable {R : RepHT} {base : Nat} {w0 wb w w' : World} {p t : Nat} {F0 G0 F G : Nat → Prop} {N : Int} {L1 L2 L' : List It}

theorem HeapC.below (C : HeapC R) (h : R w p F N L1) (hb : Below w.heap.size w w') : R w' p F N L1 := C.keep h (Keep.of_below (F := fun _ => False) hb) (fun _ _ h => h)

theorem Hp.below (C : HeapC R) (h : Hp R base w0 w p t F G N L1 L2) (hb : Below w.heap.size w w') : Hp R base w0 w' p t F G N L1 L2 :=
  ⟨C.below h.rep hb, h.ref.below hb, h.fg, h.fl, h.gl, h.good1, h.good2, h.few1, h.few2, h.bel.trans (hb.mono h.bel.size)⟩

theorem Hd.start (h : Hp R base w0 w p t F G N L1 L2) : Hd R base w0 w w p t F G F G N L1 L2 := ⟨h, Keep.refl _ _, fun _ h => .inl h, fun _ h => .inl h⟩

theorem Hd.below (C : HeapC R) (h : Hd R base w0 wb w p t F0 G0 F G N L1 L2) (hb : Below w.heap.size w w') : Hd R base w0 wb w' p t F0 G0 F G N L1 L2 :=
  ⟨h.pr.below C hb, h.kp.trans (Keep.of_below (F := fun _ => False) hb) (fun _ _ h => h.elim), h.gf, h.gg⟩

theorem Hd.turn1 (h : Hd R base w0 wb w p t F0 G0 F G N L1 L2) (hl : LeftH R w w' p F N L') (hg : Hk N L') (hf : L'.length ≤ 65536) : ∃ F', Hd R base w0 wb w' p t F0 G0 F' G N L' L2 := by
  obtain ⟨F', h1, h2, h3⟩ := hl
  have hs := h.kp.size
  refine ⟨F', ⟨h1, h.pr.ref.keep h2 (fun k hf hc => h.pr.fg k hc hf), fun k hf' hc => ?_, fun k hf' => ?_, h.pr.gl, hg, h.pr.good2, hf, h.pr.few2, h.pr.bel.trans (h2.below (fun k hk hc => by have := h.pr.fl k hc; omega) h.pr.bel.size)⟩, h.kp.trans h2 (fun i hi hF => ?_), fun k hk => ?_, h.gg⟩
  · rcases h3 k hf' with h4 | h4
    · exact h.pr.fg k h4 hc
    · have := (h.pr.ref.lt k hc).2
      omega
  · rcases h3 k hf' with h4 | h4
    · exact h.pr.fl k h4
    · exact Nat.le_trans h.pr.bel.size h4
  · rcases h.gf i hF with h4 | h4
    · exact .inl h4
    · omega
  · rcases h3 k hk with h4 | h4
    · exact h.gf k h4
    · exact .inr (Nat.le_trans hs h4)

theorem Hd.turn2 (C : HeapC R) (h : Hd R base w0 wb w p t F0 G0 F G N L1 L2) (hl : LeftH (RepH base) w w' t G N L') (hg : Hk N L') (hf : L'.length ≤ 65536) : ∃ G', Hd R base w0 wb w' p t F0 G0 F G' N L1 L' := by
  obtain ⟨G', h1, h2, h3⟩ := hl
  have hs := h.kp.size
  refine ⟨G', ⟨C.keep h.pr.rep h2 (fun k hf hc => h.pr.fg k hf hc), h1, fun k hf' hc => ?_, h.pr.fl, fun k hf' => ?_, h.pr.good1, hg, h.pr.few1, hf, h.pr.bel.trans (h2.below (fun k hk hc => by have := h.pr.gl k hc; omega) h.pr.bel.size)⟩, h.kp.trans h2 (fun i hi hF => ?_), h.gf, fun k hk => ?_⟩
  · rcases h3 k hc with h4 | h4
    · exact h.pr.fg k hf' h4
    · have := C.lt h.pr.rep k hf'
      omega
  · rcases h3 k hf' with h4 | h4
    · exact h.pr.gl k h4
    · exact Nat.le_trans h.pr.bel.size h4
  · rcases h.gg i hF with h4 | h4
    · exact .inr h4
    · omega
  · rcases h3 k hk with h4 | h4
    · exact h.gg k h4
    · exact .inr (Nat.le_trans hs h4)

/-- A block that is none of theirs stays. -/
theorem Hd.blk (h : Hd R base w0 wb w p t F0 G0 F G N L1 L2) {b : Nat} {o : Obj} (hb : wb.heap[b]? = some o) (hn : ¬ F0 b ∧ ¬ G0 b) : w.heap[b]? = some o :=
  (h.kp.block b (Array.getElem?_eq_some_iff.1 hb).1 (fun e => e.elim hn.1 hn.2)).trans hb

/-- An iterator that leans on other blocks stays. -/
theorem Hd.iter (h : Hd R base w0 wb w p t F0 G0 F G N L1 L2) {fv : Value} {X : Nat → Prop} {M : List It} (hi : IterH wb fv X M) (hn : ∀ b, X b → ¬ F0 b ∧ ¬ G0 b) : IterH w fv X M :=
  hi.keep h.kp (fun b hb e => e.elim (hn b hb).1 (hn b hb).2)
end

set_option maxRecDepth 100000 in
set_option maxHeartbeats 4000000 in
theorem asked_any {R : RepHT} (C : HeapC R) (base : Nat) (w0 w : World) (p t : Nat) (F G : Nat → Prop) (N : Int) (L : List It) (i : Int) (h : Hp R base w0 w p t F G N L L) :
    Calls Tryd.prog 17 #[ptr p, ptr t, nu i] w fun e w' => e = .returned (.bool true) ∧ Below w.heap.size w w' := by
  have HB : Hid (∀ wx, Below w.heap.size w wx → Hp R base w0 wx p t F G N L L) := fun wx hb => h.below C hb
  have c1 : Hid (∀ wx, Below w.heap.size w wx → Calls Tryd.prog 32 #[ptr p] wx fun e w' => e = .returned (.tuple #[nu (fstI L), nu (fstK L), .bool (!L.isEmpty)]) ∧ Below wx.heap.size wx w') := fun wx hb => C.least wx p F N L (HB.out wx hb).rep h.good1 h.few1
  have c2 : Hid (∀ wx, Below w.heap.size w wx → Calls Tryd.prog 33 #[ptr t] wx fun e w' => e = .returned (.tuple #[nu (fstI L), nu (fstK L), .bool (!L.isEmpty)]) ∧ Below wx.heap.size wx w') := fun wx hb => leastH_r base wx t G N L (HB.out wx hb).ref
  have c3 : Hid (∀ wx, Below w.heap.size w wx → Calls Tryd.prog 34 #[ptr p, nu i] wx fun e w' => e = .returned (.tuple #[nu ((keyH L i).getD 0), .bool (keyH L i).isSome]) ∧ Below wx.heap.size wx w') := fun wx hb => C.key wx p F N L i (HB.out wx hb).rep h.good1 h.few1
  have c4 : Hid (∀ wx, Below w.heap.size w wx → Calls Tryd.prog 35 #[ptr t, nu i] wx fun e w' => e = .returned (.tuple #[nu ((keyH L i).getD 0), .bool (keyH L i).isSome]) ∧ Below wx.heap.size wx w') := fun wx hb => keyH_r base wx t G N L i (HB.out wx hb).ref
  obtain ⟨n, hn⟩ : ∃ n, L.length = n := ⟨_, rfl⟩
  have HA : Hid (∀ wx, Below w.heap.size w wx → ∃ a c, wx.cell? ⟨t, 1, none⟩ = some (.slice a n c)) := fun wx hb => by
    obtain ⟨lv, h1, _, _⟩ := (HB.out wx hb).ref
    obtain ⟨a, c, e, _, _⟩ := h1.shape
    exact ⟨a, c, by rw [h1.cells.2.1, e, hn]⟩
  have c5 : Hid (∀ wx, Below w.heap.size w wx → Calls Tryd.prog 36 #[ptr p] wx fun e w' => e = .returned (nun n) ∧ Below wx.heap.size wx w') := fun wx hb => by
    have := C.len wx p F N L (HB.out wx hb).rep
    rwa [hn] at this
  have HCE : Hid (∀ wx wy a c, Below w.heap.size w wx → wx.cell? ⟨t, 1, none⟩ = some (.slice a n c) → Below wx.heap.size wx wy → wy.cell? ⟨t, 1, none⟩ = some (.slice a n c)) := fun wx wy a c h1 h2 h3 => by
    obtain ⟨ob, ho, _⟩ := cells_of_cell h2
    have hl := (Array.getElem?_eq_some_iff.1 ho).1
    unfold World.cell? at h2 ⊢
    rw [h3.block t hl]
    exact h2
  generalize fstI L = a1 at *
  generalize fstK L = a2 at *
  generalize (!L.isEmpty) = a3 at *
  generalize (keyH L i).getD 0 = a4 at *
  generalize (keyH L i).isSome = a5 at *
  clear h HB hn
  go_enter Tryd.func17, Tryd.ntmps17
  go_wp2_with fail
  refine (c1.out w (Below.refl _ _)).mono ?_
  rintro e w1 ⟨rfl, hb1⟩
  have b1 := Hid.mk' hb1
  go_wp2_with fail
  refine (c2.out w1 b1.out).mono ?_
  rintro e w2 ⟨rfl, hb2⟩
  have b2 := Hid.mk' (hb1.trans (hb2.mono hb1.size))
  clear hb1 hb2
  go_wp2_with fail
  refine (c3.out w2 b2.out).mono ?_
  rintro e w3 ⟨rfl, hb3⟩
  have b3 := Hid.mk' (b2.out.trans (hb3.mono b2.out.size))
  clear hb3
  go_wp2_with fail
  refine (c4.out w3 b3.out).mono ?_
  rintro e w4 ⟨rfl, hb4⟩
  have b4 := Hid.mk' (b3.out.trans (hb4.mono b3.out.size))
  clear hb4
  obtain ⟨ra, rc, hr⟩ := HA.out w4 b4.out
  have c6 : Hid (Calls Tryd.prog 36 #[ptr p] w4.drew fun e w' => e = .returned (nun n) ∧ w'.cell? ⟨t, 1, none⟩ = some (.slice ra n rc) ∧ Hid (Below w.heap.size w w')) := by
    have hb5 : Below w.heap.size w w4.drew := b4.out.drew
    refine (c5.out w4.drew hb5).mono ?_
    rintro e w' ⟨rfl, hb⟩
    exact ⟨rfl, HCE.out w4.drew w' ra rc hb5 hr hb, hb5.trans (hb.mono hb5.size)⟩
  have HRD : Hid (w4.drew.cell? ⟨t, 1, none⟩ = some (.slice ra n rc)) := hr
  clear c1 c2 c3 c4 c5 b1 b2 b3 HA HCE
  go_wp2_with fail
  go_region_held3 (fun w' => w'.cell? ⟨t, 1, none⟩ = some (.slice ra n rc)) (first | assumption | exact HRD.out | exact hs5 | fail) (first | (go_at_call 36; with_reducible refine c6.out.mono ?_; rintro e w5 ⟨rfl, hs5, HB5⟩) | fail)
  go_wp2
  go_ret
  exact ⟨by simp, HB5.out⟩
end Hh
end Go.Proofs.YteclbmmhidmklaaDoor
/- Rows of numbers that lie there; the law's loop: both heaps, an iterator that was got, and what it must hand out. -/
namespace Go.Proofs.YteclbmmhidmklaaDoor
set_option linter.ambiguousOpen false
open Go.RowKit
namespace Hh
open Ft
set_option linter.unusedSimpArgs false
set_option linter.unusedVariables false
attribute [local go_sem] Oper.semAt_some

/-- Numbers that lie there. -/
def RdZ (w : World) (v : Value) (l : List Int) : Prop :=
  ∃ a cap, v = .slice a l.length cap ∧ l.length ≤ cap ∧ cap ≤ maxLen ∧ (0 < l.length → ∃ g, a = some ⟨g, 0, none⟩ ∧ g < w.heap.size ∧ ∀ k i, l[k]? = some i → w.cell? ⟨g, k, none⟩ = some (nu i))

theorem own_rdZ {w : World} {base n : Nat} {v : Value} {l : List Int} (h : w.ownsRow base 3 1 v n (l.map nu)) : RdZ w v l := by
  have hn := h.1
  rw [List.length_map, Nat.mul_one] at hn
  subst hn
  rcases h.2 with ⟨rfl, h1⟩ | ⟨b, cap, cur, rfl, hb, hc, h3, h4, h5, h6⟩
  · exact ⟨none, 0, by rw [h1], by omega, by decide, fun h => by omega⟩
  · refine ⟨_, cap, rfl, h3, h4, fun _ => ⟨b, rfl, (Array.getElem?_eq_some_iff.1 hc).1, fun k i hi => ?_⟩⟩
    have hk : k < l.length := (List.getElem?_eq_some_iff.1 hi).1
    have := h.cellAt (g := b) (cap := cap) k (by omega)
    rw [this, List.getElem?_map, hi]
    rfl

theorem RdZ.below {w w' : World} {v : Value} {l : List Int} (h : RdZ w v l) (hb : Below w.heap.size w w') : RdZ w' v l := by
  obtain ⟨a, cap, h1, h2, h3, h4⟩ := h
  refine ⟨a, cap, h1, h2, h3, fun h0 => ?_⟩
  obtain ⟨g, e1, e2, e3⟩ := h4 h0
  exact ⟨g, e1, Nat.lt_of_lt_of_le e2 hb.size, fun k i hi => (hb.cell (p := ⟨g, k, none⟩) e2).trans (e3 k i hi)⟩

set_option maxRecDepth 100000 in
set_option maxHeartbeats 1000000 in
theorem sameZ (v1 v2 : Value) (l : List Int) (w : World) (h1 : RdZ w v1 l) (h2 : RdZ w v2 l) :
    Calls Tryd.prog 13 #[v1, v2] w fun e w' => e = .returned (.bool true) ∧ Below w.heap.size w w' := by
  obtain ⟨a1, cap1, rfl, hc1, hm1, hcell1⟩ := h1
  obtain ⟨a2, cap2, rfl, hc2, hm2, hcell2⟩ := h2
  unfold maxLen at hm1 hm2
  obtain ⟨n, hn⟩ : ∃ n, l.length = n := ⟨_, rfl⟩
  rw [hn] at hc1 hc2 hcell1 hcell2 ⊢
  have HN := Hid.mk' hn
  have HC1 := Hid.mk' hcell1
  have HC2 := Hid.mk' hcell2
  have hnn : ((n : Int) == (n : Int)) = true := by simp
  clear hcell1 hcell2 hn
  go_enter Tryd.func13, Tryd.ntmps13
  go_wp2
  go_loopw [5] (fun iv wr => ∃ k m : Nat, k ≤ n ∧ iv = nun k ∧ Hid (wr = w.drewN m)) (fun iv _ => n - (intOf iv).toNat)
  case atStart => exact ⟨0, 0, Nat.zero_le _, rfl, rfl⟩
  case round =>
    obtain ⟨k, m, hk, rfl, hwr⟩ := hrel
    by_cases hp : k < n
    · obtain ⟨g1, rfl, _, hx1⟩ := HC1.out (by omega)
      obtain ⟨g2, rfl, _, hx2⟩ := HC2.out (by omega)
      obtain ⟨x, hx⟩ : ∃ x, l[k]? = some x := ⟨_, List.getElem?_eq_getElem (by rw [HN.out]; exact hp)⟩
      have q1 : wr.cell? ⟨g1, k, none⟩ = some (nu x) := by rw [hwr.out]; exact hx1 k x hx
      have q2 : wr.cell? ⟨g2, k, none⟩ = some (nu x) := by rw [hwr.out]; exact hx2 k x hx
      have hxx : (x == x) = true := by simp
      have hkI : (k : Int) < (n : Int) := by omega
      clear hx1 hx2 HC1 HC2 hx
      go_wp2
      go_quiet (fail)
      go_wp2
      go_roundw
      case rel => exact ⟨k + 1, _, by omega, by go_num, by rw [hwr.out, World.drewN_drewN]; exact rfl⟩
      case measure => simp [intOf]; omega
    · obtain rfl : k = n := by omega
      have hkI : ¬ (k : Int) < (k : Int) := by omega
      go_wp2
      go_ret
      exact ⟨rfl, by rw [hwr.out]; exact ⟨rfl, rfl, rfl, Nat.le_refl _, fun _ _ => rfl⟩⟩

theorem RdZ.take {w : World} {a : Option Addr} {cap : Nat} {l : List Int} (h : RdZ w (.slice a l.length cap) l) (m : Nat) (hm : m ≤ l.length) : RdZ w (.slice a m cap) (l.take m) := by
  obtain ⟨a', cap', e, h1, h2, h3⟩ := h
  simp only [Value.slice.injEq, true_and] at e
  obtain ⟨rfl, rfl⟩ := e
  have hl : (l.take m).length = m := by rw [List.length_take]; omega
  refine ⟨a, cap, by rw [hl], by omega, h2, fun h0 => ?_⟩
  obtain ⟨g, rfl, hg, hc⟩ := h3 (by omega)
  refine ⟨g, rfl, hg, fun k i hk => hc k i ?_⟩
  rw [List.getElem?_take] at hk
  split at hk
  · exact hk
  · simp at hk

theorem slice_toZ (a : Option Addr) (len cap k : Nat) (h : k ≤ cap) (w : World) : (Instr.slice 35 (.slice a len cap) none (some (.int .i64 (k : Int))) none).run Tryd.prog w = .ok (.slice a k cap) w := by
  have h1 : (0 : Int) ≤ (k : Int) ∧ (k : Int) ≤ (cap : Int) := by omega
  have hu := Tryd.underlying35
  cases a with
  | none =>
    simp [Instr.slice, Instr.sliceBounds, Instr.sliceBound, asIntOf, run_underlying hu]
    intro hh; omega
  | some ad =>
    simp [Instr.slice, Instr.sliceBounds, Instr.sliceBound, asIntOf, run_underlying hu, Addr.add]
    intro hh; omega

theorem min_twoZ (a b : Int) (w : World) : (Builtin.min_ #[3, 3] 3 #[.int .i64 a, .int .i64 b]).run Tryd.prog w = .ok (.int .i64 (if b < a then b else a)) w := run_min_int2 ..

/-- Amid the law's loop, k acts behind its beginning: both heaps hold the same; an iterator that was got, and the row of what it must hand out, lean on nothing that turns. -/
structure Hs (R : RepHT) (base : Nat) (w0 w : World) (p t : Nat) (N : Int) (k : Nat) (fv wv : Value) (M : List It) : Prop where
  ex : ∃ F G L X, Hp R base w0 w p t F G N L L ∧ L.length ≤ k ∧ IterH w fv X M ∧ (∀ b, X b → ¬ F b ∧ ¬ G b) ∧ (∀ b, X b → w0.heap.size ≤ b)
    ∧ w.ownsRow w0.heap.size 3 1 wv (2 * M.length) ((prs M).map nu) ∧ (∀ b, wv.ownBlock = some b → ¬ F b ∧ ¬ G b)
  few : M.length ≤ 65536 ∧ (M.length : Int) ≤ N

section
variable {R : RepHT} {base : Nat} {w0 w w' : World} {p t : Nat} {N : Int} {k : Nat} {fv wv : Value} {M : List It}

theorem Hs.below (C : HeapC R) (h : Hs R base w0 w p t N k fv wv M) (hb : Below w.heap.size w w') : Hs R base w0 w' p t N k fv wv M := by
  obtain ⟨F, G, L, X, h1, h2, h3, h4, h5, h6, h7⟩ := h.ex
  exact ⟨⟨F, G, L, X, h1.below C hb, h2, h3.below hb, h4, h5, (Keep.of_below (F := fun _ => False) hb).own h6 (fun _ _ h => h), h7⟩, h.few⟩

/-- Behind an act that turned both. -/
theorem Hs.turned {F G F' G' : Nat → Prop} {L L' : List It} {X : Nat → Prop} {k' : Nat} (hd : Hd R base w0 w w' p t F G F' G' N L' L') (hl : L'.length ≤ k') (h3 : IterH w fv X M) (h4 : ∀ b, X b → ¬ F b ∧ ¬ G b) (h5 : ∀ b, X b → w0.heap.size ≤ b) (h6 : w.ownsRow w0.heap.size 3 1 wv (2 * M.length) ((prs M).map nu)) (h7 : ∀ b, wv.ownBlock = some b → ¬ F b ∧ ¬ G b) (hf : M.length ≤ 65536 ∧ (M.length : Int) ≤ N) : Hs R base w0 w' p t N k' fv wv M := by
  have hx := h3.lt
  refine ⟨⟨F', G', L', X, hd.pr, hl, hd.iter h3 h4, fun b hb => ⟨fun e => ?_, fun e => ?_⟩, h5, hd.kp.own h6 (fun g e f => f.elim (h7 g e).1 (h7 g e).2), fun b hb => ⟨fun e => ?_, fun e => ?_⟩⟩, hf⟩
  · rcases hd.gf b e with h | h
    · exact (h4 b hb).1 h
    · have := hx b hb; omega
  · rcases hd.gg b e with h | h
    · exact (h4 b hb).2 h
    · have := hx b hb; omega
  · rcases hd.gf b e with h | h
    · exact (h7 b hb).1 h
    · have := (h6.lt b hb).2; omega
  · rcases hd.gg b e with h | h
    · exact (h7 b hb).2 h
    · have := (h6.lt b hb).2; omega
end
end Hh
end Go.Proofs.YteclbmmhidmklaaDoor
/- What one act does to both heaps. -/
namespace Go.Proofs.YteclbmmhidmklaaDoor
set_option linter.ambiguousOpen false
open Go.RowKit
namespace Hh
open Ft
set_option linter.unusedSimpArgs false
set_option linter.unusedVariables false
attribute [local go_sem] Oper.semAt_some

@[reducible] def I64 (x : Int) : Prop := -9223372036854775808 ≤ x ∧ x ≤ 9223372036854775807

theorem ret_nuH {a b : Int} (h : a = b) : Ending.returned (nu a) = Ending.returned (nu b) := by rw [h]

theorem pickH (k : Int) (n : Nat) (w : World) (hn : 0 < n) (hn2 : n ≤ 4611686018427387904) (hk : -9223372036854775808 ≤ k ∧ k ≤ 9223372036854775807) :
    Calls Tryd.prog 10 #[nu k, nu n] w fun e w' => e = .returned (nu (k % (n : Int))) ∧ w' = w := by
  have d1 : (decide ((n : Int) < 1)) = false := by simp; omega
  have e1 := Int.emod_add_mul_ediv k n
  have e2 := Int.emod_nonneg k (b := (n : Int)) (by omega)
  have e3 := Int.emod_lt_of_pos k (b := (n : Int)) (by omega)
  have te : k.tmod n = k % (n : Int) ∨ k.tmod n = k % (n : Int) - n := by
    rw [Int.tmod_eq_emod]
    split
    · left; omega
    · right; simp
  clear e1
  by_cases h : k.tmod n < 0
  · have HT : Hid (k.tmod n + n = k % (n : Int)) := by
      show _ = _
      omega
    have b1 : -(n : Int) ≤ k.tmod n := by omega
    clear te e2 e3
    go_enter Tryd.func10, Tryd.ntmps10
    go_wp2
    go_ret
    exact ⟨ret_nuH HT.out, rfl⟩
  · have HT : Hid (k.tmod n = k % (n : Int)) := by
      show _ = _
      omega
    clear te e2 e3
    go_enter Tryd.func10, Tryd.ntmps10
    go_wp2
    go_ret
    exact ⟨ret_nuH HT.out, rfl⟩

/-- One thing that is done. -/
structure Hact where
  k : Int
  i : Int
  key : Int

def Hact.fits (x : Hact) : Prop := I64 x.k ∧ I64 x.key

@[reducible] def Hact.cells (x : Hact) : List Value := [nu x.k, nu x.i, nu x.key]

/-- A list of them. -/
def RdA (w : World) (v : Value) (L : List Hact) : Prop :=
  ∃ a cap, v = .slice a L.length cap ∧ L.length ≤ cap ∧ cap ≤ maxLen ∧ (0 < L.length → ∃ g o, a = some ⟨g, o, none⟩ ∧ g < w.heap.size ∧ ∀ n x, L[n]? = some x → w.rangeAt g (o + n * 3) x.cells)

theorem size_hact : (Tryd.prog.info? 38).map (·.size) = some 3 := by kernel_rfl

theorem range_belH {w w' : World} {B g o : Nat} {cs : List Value} (h : w.rangeAt g o cs) (hb : Below B w w') (hg : g < B) : w'.rangeAt g o cs := fun j v hv => (hb.cell (p := ⟨g, o + j, none⟩) hg).trans (h j v hv)

/-- An act alone in its block. -/
def LoneH (w : World) (b : Nat) (x : Hact) : Prop := w.heap[b]? = some (.cells #[nu x.k, nu x.i, nu x.key] 38)

theorem LoneH.cells {w : World} {b : Nat} {x : Hact} (h : LoneH w b x) : w.cell? ⟨b, 0, none⟩ = some (nu x.k) ∧ w.cell? ⟨b, 1, none⟩ = some (nu x.i) ∧ w.cell? ⟨b, 2, none⟩ = some (nu x.key) := by
  unfold LoneH at h
  simp [World.cell?, h]

section
variable {R : RepHT} {base : Nat} {w0 w w' : World} {p t : Nat} {N : Int} {k : Nat} {fv wv : Value} {M : List It}

theorem Hs.bel (h : Hs R base w0 w p t N k fv wv M) : Below w0.heap.size w0 w := by
  obtain ⟨F, G, L, X, h1, _⟩ := h.ex
  exact h1.bel

theorem asked_hs (C : HeapC R) (i : Int) (h : Hs R base w0 w p t N k fv wv M) :
    Calls Tryd.prog 17 #[ptr p, ptr t, nu i] w fun e w' => e = .returned (.bool true) ∧ Hid (Hs R base w0 w' p t N k fv wv M) := by
  obtain ⟨F, G, L, X, h1, _⟩ := id h.ex
  refine (asked_any C base w0 w p t F G N L i h1).mono ?_
  rintro e w' ⟨rfl, hb⟩
  exact ⟨rfl, h.below C hb⟩

/-- Both heaps since the world wb, whatever blocks they lean on now. -/
def Ha (R : RepHT) (base : Nat) (w0 wb w : World) (p t : Nat) (F0 G0 : Nat → Prop) (N : Int) (L1 L2 : List It) : Prop := ∃ F G, Hd R base w0 wb w p t F0 G0 F G N L1 L2

variable {wb : World} {F0 G0 : Nat → Prop} {L L1 L2 : List It}

theorem Ha.below (C : HeapC R) (h : Ha R base w0 wb w p t F0 G0 N L1 L2) (hb : Below w.heap.size w w') : Ha R base w0 wb w' p t F0 G0 N L1 L2 := by
  obtain ⟨F, G, h⟩ := h
  exact ⟨F, G, h.below C hb⟩

theorem Ha.lone (h : Ha R base w0 wb w p t F0 G0 N L1 L2) {b : Nat} {x : Hact} (hb : LoneH wb b x) (hn : ¬ F0 b ∧ ¬ G0 b) : LoneH w b x := by
  obtain ⟨F, G, h⟩ := h
  exact h.blk hb hn

theorem Ha.bel (h : Ha R base w0 wb w p t F0 G0 N L1 L2) : Below w0.heap.size w0 w := by
  obtain ⟨F, G, h⟩ := h
  exact h.pr.bel

theorem Ha.drop1 (C : HeapC R) (i : Int) (h : Ha R base w0 wb w p t F0 G0 N L L2) :
    Calls Tryd.prog 11 #[ptr p, nu i] w fun e w' => e = .returned (.bool (hasH L i)) ∧ Ha R base w0 wb w' p t F0 G0 N (dropH L i) L2 := by
  obtain ⟨F, G, h⟩ := h
  refine (C.drop w p F N L i h.pr.rep h.pr.good1 h.pr.few1).mono ?_
  rintro e w' ⟨rfl, hl⟩
  obtain ⟨F', h'⟩ := h.turn1 hl (h.pr.good1.drop i) (Nat.le_trans (drop_len L i) h.pr.few1)
  exact ⟨rfl, F', G, h'⟩

theorem Ha.drop2 (C : HeapC R) (i : Int) (h : Ha R base w0 wb w p t F0 G0 N L1 L) :
    Calls Tryd.prog 12 #[ptr t, nu i] w fun e w' => e = .returned (.bool (hasH L i)) ∧ Ha R base w0 wb w' p t F0 G0 N L1 (dropH L i) := by
  obtain ⟨F, G, h⟩ := h
  refine (dropH_r base w t G N L i h.pr.ref h.pr.few2).mono ?_
  rintro e w' ⟨rfl, hl⟩
  obtain ⟨G', h'⟩ := h.turn2 C hl (h.pr.good2.drop i) (Nat.le_trans (drop_len L i) h.pr.few2)
  exact ⟨rfl, F, G', h'⟩

/-- What Set answers, and what it leaves. -/
def setNo (N i : Int) : Nat := if 0 ≤ i ∧ i < N then 0 else 1

def setL (N : Int) (L : List It) (i key : Int) : List It := if 0 ≤ i ∧ i < N then setH L i key else L

theorem Ha.set1 (C : HeapC R) (i key : Int) (h : Ha R base w0 wb w p t F0 G0 N L L2) (hf : L.length < 65536) :
    Calls Tryd.prog 15 #[ptr p, nu i, nu key] w fun e w' => e = .returned (errE (setNo N i)) ∧ Ha R base w0 wb w' p t F0 G0 N (setL N L i key) L2 := by
  obtain ⟨F, G, h⟩ := h
  unfold setNo setL
  by_cases hi : 0 ≤ i ∧ i < N
  · simp only [if_pos hi]
    refine (C.setYes w p F N L i key h.pr.rep h.pr.good1 h.pr.few1 hi).mono ?_
    rintro e w' ⟨rfl, hl⟩
    obtain ⟨F', h'⟩ := h.turn1 hl (h.pr.good1.set hi key) (by have := set_len L i key; omega)
    exact ⟨rfl, F', G, h'⟩
  · simp only [if_neg hi]
    refine (C.setNo w p F N L i key h.pr.rep h.pr.good1 hi).mono ?_
    rintro e w' ⟨rfl, hl⟩
    obtain ⟨F', h'⟩ := h.turn1 hl h.pr.good1 h.pr.few1
    exact ⟨rfl, F', G, h'⟩

theorem Ha.set2 (C : HeapC R) (i key : Int) (h : Ha R base w0 wb w p t F0 G0 N L1 L) (hf : L.length < 65536) :
    Calls Tryd.prog 16 #[ptr t, nu i, nu key] w fun e w' => e = .returned (nun (setNo N i)) ∧ Ha R base w0 wb w' p t F0 G0 N L1 (setL N L i key) := by
  obtain ⟨F, G, h⟩ := h
  unfold setNo setL
  by_cases hi : 0 ≤ i ∧ i < N
  · simp only [if_pos hi]
    refine (setH_r base w t G N L i key h.pr.ref h.pr.few2 hi).mono ?_
    rintro e w' ⟨rfl, hl⟩
    obtain ⟨G', h'⟩ := h.turn2 C hl (h.pr.good2.set hi key) (by have := set_len L i key; omega)
    exact ⟨rfl, F, G', h'⟩
  · simp only [if_neg hi]
    refine (setHn_r base w t G N L i key h.pr.ref hi).mono ?_
    rintro e w' ⟨rfl, hb⟩
    exact ⟨rfl, F, G, h.below C hb⟩

theorem setL_len (N : Int) (L : List It) (i key : Int) : (setL N L i key).length ≤ L.length + 1 := by
  unfold setL
  split
  · exact set_len L i key
  · omega

theorem setNo_le (N i : Int) : setNo N i ≤ 24 := by
  unfold setNo
  split <;> omega

/-- What an act leaves of the loop's state. -/
theorem Ha.state {X : Nat → Prop} {k' : Nat} (h : Ha R base w0 w w' p t F0 G0 N L L) (hl : L.length ≤ k') (h3 : IterH w fv X M) (h4 : ∀ b, X b → ¬ F0 b ∧ ¬ G0 b) (h5 : ∀ b, X b → w0.heap.size ≤ b) (h6 : w.ownsRow w0.heap.size 3 1 wv (2 * M.length) ((prs M).map nu)) (h7 : ∀ b, wv.ownBlock = some b → ¬ F0 b ∧ ¬ G0 b) (hf : M.length ≤ 65536 ∧ (M.length : Int) ≤ N) : Hs R base w0 w' p t N k' fv wv M := by
  obtain ⟨F', G', hd⟩ := h
  exact Hs.turned (L := L) hd hl h3 h4 h5 h6 h7 hf
end
end Hh
end Go.Proofs.YteclbmmhidmklaaDoor
