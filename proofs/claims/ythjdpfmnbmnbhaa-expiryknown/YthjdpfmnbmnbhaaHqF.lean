/- The program's heap: knows, has, set. -/
import Derived.Test.YthjdpfmnbmnbhaaHqE
import Derived.Test.YthjdpfmnbmnbhaaHepC
import Derived.Deep.AppendLies
namespace Go.Proofs.Ythjdpfmnbmnbhaa
set_option linter.ambiguousOpen false
open Go.RowKit
namespace Hq
open Hh Ft
set_option linter.unusedSimpArgs false
set_option linter.unusedVariables false
attribute [local go_sem] Oper.semAt_some

/-- How it lies; its row may have no memory yet. -/
structure LayV (w : World) (p : Nat) (rv : Value) (ab ac n m : Nat) (D : List It) (A : List Int) : Prop where
  hn : D.length = n
  hm : A.length = m
  blk : w.heap[p]? = some (.cells #[ordV, rv, slc ab m ac] 66)
  row : w.ownsRow 0 70 2 rv n (D.flatMap It.cells)
  at_ : w.ownsRow 0 3 1 (slc ab m ac) m (A.map nu)
  n1 : rv.ownBlock ≠ some p
  n2 : ab ≠ p
  n3 : rv.ownBlock ≠ some ab
  rel : AtR D A
  few : m ≤ 65536

section
variable {w w' : World} {p rb rc ab ac n m : Nat} {rv : Value} {D : List It} {A : List Int}

theorem Lay.v (h : Lay w p rb rc ab ac n m D A) : LayV w p (slc rb n rc) ab ac n m D A :=
  ⟨h.hn, h.hm, h.blk, h.row, h.at_, fun e => h.n1 (by simpa [Value.ownBlock] using e), h.n2, fun e => h.n3 (by simpa [Value.ownBlock] using e), h.rel, h.few⟩

theorem LayV.few2 (h : LayV w p rv ab ac n m D A) : n ≤ m := by
  have h1 := few_of m (D.map (fun x => x.i.toNat)) (by
    rw [List.nodup_iff_pairwise_ne, List.pairwise_map]
    have hu := h.rel.unl
    refine hu.imp_of_mem (fun ha hb hne => ?_)
    obtain ⟨j, hj, rfl⟩ := mem_atD ha
    obtain ⟨k, hk, rfl⟩ := mem_atD hb
    have := h.rel.to j hj
    have := h.rel.to k hk
    omega) (fun i hi => by
    obtain ⟨x, hx, rfl⟩ := List.mem_map.1 hi
    obtain ⟨j, hj, rfl⟩ := mem_atD hx
    have := h.rel.to j hj
    rw [h.hm] at this
    omega)
  rw [List.length_map, h.hn] at h1
  exact h1

theorem LayV.lay (h : LayV w p rv ab ac n m D A) (h0 : 0 < n) : ∃ rb rc, rv = slc rb n rc ∧ Lay w p rb rc ab ac n m D A := by
  obtain ⟨g, c, rfl, _⟩ := own_slc h.row h0
  exact ⟨g, c, rfl, h.hn, h.hm, h.blk, h.row, h.at_, fun e => h.n1 (by rw [← e]; rfl), h.n2, fun e => h.n3 (by rw [← e]; rfl), h.rel, h.few, Nat.le_trans h.few2 h.few⟩

theorem LayV.cells (h : LayV w p rv ab ac n m D A) : w.cell? ⟨p, 0, none⟩ = some ordV ∧ w.cell? ⟨p, 1, none⟩ = some rv ∧ w.cell? ⟨p, 2, none⟩ = some (slc ab m ac) ∧ ∀ i, w.frozen? ⟨p, i, none⟩ = false := by
  have hb := h.blk
  exact ⟨by simp [World.cell?, hb], by simp [World.cell?, hb], by simp [World.cell?, hb], fun i => by simp [World.frozen?, hb]⟩

theorem LayV.atAt (h : LayV w p rv ab ac n m D A) {i : Nat} (hi : i < m) : w.cell? ⟨ab, i, none⟩ = some (nu (aN A i)) ∧ w.frozen? ⟨ab, i, none⟩ = false :=
  own_cellS h.at_ _ _ (nus_get A i (by rw [h.hm]; exact hi))

theorem LayV.shape (h : LayV w p rv ab ac n m D A) : (∃ a c, rv = .slice a n c ∧ n ≤ c ∧ c ≤ maxLen) ∧ m ≤ ac ∧ ac ≤ maxLen := by
  have h1 := h.row.2
  have h2 := h.at_.2
  refine ⟨?_, ?_⟩
  · rcases h1 with ⟨e, e0⟩ | ⟨g, cap, cur, e, _, _, a1, a2, _⟩
    · exact ⟨none, 0, by rw [e, e0], by omega, by unfold maxLen; omega⟩
    · exact ⟨_, cap, e, a1, a2⟩
  · rcases h2 with ⟨e2, _⟩ | ⟨g2, cap2, cur2, e2, _, _, b1, b2, _⟩
    · simp at e2
    · simp only [Value.slice.injEq] at e2
      rw [e2.2.2]
      exact ⟨b1, b2⟩

/-- What a call may turn. -/
@[reducible] def footV (p : Nat) (rv : Value) (ab : Nat) : Nat → Prop := fun k => k = p ∨ rv.ownBlock = some k ∨ k = ab

theorem LayV.keep (h : LayV w p rv ab ac n m D A) {F : Nat → Prop} (hk : Keep F w w') (hF : ∀ k, footV p rv ab k → ¬ F k) : LayV w' p rv ab ac n m D A :=
  ⟨h.hn, h.hm, hk.at h.blk (hF p (.inl rfl)), hk.own h.row (fun g e => hF g (.inr (.inl e))), hk.own h.at_ (fun g e => hF g (.inr (.inr (by simpa [Value.ownBlock] using e.symm)))), h.n1, h.n2, h.n3, h.rel, h.few⟩

theorem LayV.below (h : LayV w p rv ab ac n m D A) (hb : Below w.heap.size w w') : LayV w' p rv ab ac n m D A := h.keep (Keep.of_below (F := fun _ => False) hb) (fun _ _ e => e)

theorem LayV.lt (h : LayV w p rv ab ac n m D A) : ∀ k, footV p rv ab k → k < w.heap.size := by
  have h1 := h.row.2
  have h2 := h.at_.2
  rintro k (rfl | e | rfl)
  · exact (Array.getElem?_eq_some_iff.1 h.blk).1
  · rcases h1 with ⟨e1, _⟩ | ⟨g, cap, cur, e1, _, hg, _⟩
    · rw [e1] at e
      simp [Value.ownBlock] at e
    · rw [e1] at e
      simp [Value.ownBlock] at e
      rw [← e]
      exact (Array.getElem?_eq_some_iff.1 hg).1
  · rcases h2 with ⟨e1, _⟩ | ⟨g, cap, cur, e1, _, hg, _⟩
    · simp at e1
    · simp only [Value.slice.injEq, Option.some.injEq, Addr.mk.injEq] at e1
      rw [e1.1.1]
      exact (Array.getElem?_eq_some_iff.1 hg).1
end

theorem foot_slc (p rb n rc ab : Nat) : footV p (slc rb n rc) ab = foot p rb ab := by
  funext k
  apply propext
  unfold footV foot
  simp only [Value.ownBlock, Option.some.injEq]
  constructor
  · rintro (e | e | e)
    · exact .inl e
    · exact .inr (.inl e.symm)
    · exact .inr (.inr e)
  · rintro (e | e | e)
    · exact .inl e
    · exact .inr (.inl e.symm)
    · exact .inr (.inr e)

/-- How the program's heap lies. -/
def RepQ : RepHT := fun w p F N L => ∃ rv ab ac n m D A, LayV w p rv ab ac n m D A ∧ N = (m : Int) ∧ D.Perm L ∧ Hpd D ∧ F = footV p rv ab

set_option maxRecDepth 100000 in
theorem knows_p {w : World} {p : Nat} {rv : Value} {ab ac n m : Nat} {D : List It} {A : List Int} (h : LayV w p rv ab ac n m D A) (i : Int) :
    Calls Try.prog 25 #[ptr p, nu i] w fun e w' => e = .returned (.bool (decide (0 ≤ i ∧ i < m))) ∧ w' = w := by
  obtain ⟨_, _, q2, _⟩ := h.cells
  obtain ⟨b, hb⟩ : ∃ b, decide (0 ≤ i ∧ i < (m : Int)) = b := ⟨_, rfl⟩
  rw [hb]
  clear h
  by_cases h0 : 0 ≤ i
  · have d0 : decide (i ≥ 0) = true := decide_eq_true h0
    have HD : Hid (decide (i < (m : Int)) = b) := by
      show _ = _
      rw [← hb]
      simp [h0]
    clear hb
    go_enter Try.func25, Try.ntmps25
    go_wp2
    go_ret
    exact ⟨by rw [← HD.out]; rfl, rfl⟩
  · have d0 : decide (i ≥ 0) = false := decide_eq_false h0
    have d1 : decide (0 ≤ i) = false := decide_eq_false h0
    obtain rfl : b = false := by
      rw [← hb]
      simp [h0]
    clear hb
    go_enter Try.func25, Try.ntmps25
    go_wp2
    go_ret
    exact ⟨rfl, rfl⟩

set_option maxRecDepth 100000 in
theorem has_p {w : World} {p : Nat} {rv : Value} {ab ac n m : Nat} {D L : List It} {A : List Int} (h : LayV w p rv ab ac n m D A) (hp : D.Perm L) (i : Int) :
    Calls Try.prog 29 #[ptr p, nu i] w fun e w' => e = .returned (.bool (hasH L i)) ∧ w' = w := by
  have c1 := Hid.mk' (knows_p h i)
  obtain ⟨_, _, q2, _⟩ := h.cells
  have hac := h.shape.2
  unfold maxLen at hac
  by_cases hi : 0 ≤ i ∧ i < (m : Int)
  · obtain ⟨k, rfl⟩ : ∃ k : Nat, i = (k : Int) := ⟨i.toNat, by omega⟩
    have hk : k < m := by omega
    have hkI : (k : Int) < (m : Int) := by omega
    have hk0 : (0 : Int) ≤ (k : Int) := by omega
    have haI : (ac : Int) ≤ 9223372036854775807 := by omega
    obtain ⟨a1, _⟩ := h.atAt hk
    have hh := has_at h.rel hp (i := k) (by rw [h.hm]; exact hk)
    rw [decide_eq_true hi] at c1
    obtain ⟨x, hx⟩ : ∃ x, aN A k = x := ⟨_, rfl⟩
    rw [hx] at hh a1
    obtain ⟨b, hb⟩ : ∃ b, hasH L (k : Int) = b := ⟨_, rfl⟩
    rw [hb] at hh ⊢
    have HD := Hid.mk' hh
    clear h hx hh hb hi
    have HB : Hid ((x != -1) = b) := by
      show _ = _
      rw [HD.out, Bool.eq_iff_iff]
      simp
    clear HD
    go_enter Try.func29, Try.ntmps29
    go_wp2_with fail
    refine c1.out.mono ?_
    rintro e w1 ⟨rfl, rfl⟩
    go_wp2
    go_ret
    refine ⟨?_, rfl⟩
    show Ending.returned (Value.bool (x != -1)) = _
    rw [HB.out]
  · rw [decide_eq_false hi] at c1
    rw [out_of h.rel hp (by rw [h.hm]; exact hi)]
    clear h hi
    go_enter Try.func29, Try.ntmps29
    go_wp2_with fail
    refine c1.out.mono ?_
    rintro e w1 ⟨rfl, rfl⟩
    go_wp2
    go_ret
    exact ⟨rfl, rfl⟩

theorem infoE : (Try.prog.info? 70).map (fun i => (i.zero, i.size, i.bytes)) = some (some (.agg #[.int .i64 0, .int .i64 0]), 2, 16) := by kernel_rfl

/-- What is left of the heap. -/
def LeftY (w w' : World) (p : Nat) (rv : Value) (ab ac m : Nat) (L : List It) : Prop := ∃ rv' n' D' A', LayV w' p rv' ab ac n' m D' A' ∧ D'.Perm L ∧ Hpd D' ∧ Keep (footV p rv ab) w w' ∧ (∀ k, footV p rv' ab k → footV p rv ab k ∨ w.heap.size ≤ k)

set_option maxRecDepth 100000 in
set_option maxHeartbeats 4000000 in
/-- A number that is there gets another key. -/
theorem set_old {w : World} {p rb rc ab ac n m : Nat} {D L : List It} {A : List Int} {N : Int} (h : Lay w p rb rc ab ac n m D A) (hp : D.Perm L) (hk : Hk N L) (hd : Hpd D) (i j : Nat) (key : Int) (hi : i < m) (hj : j < n) (ha : aN A i = (j : Int)) (hN : N = (m : Int)) :
    Calls Try.prog 26 #[ptr p, nun i, nu key] w fun e w' => e = .returned (.tuple #[]) ∧ LeftY w w' p (slc rb n rc) ab ac m (setH L i key) := by
  obtain ⟨q0, q1, q2, qf⟩ := h.cells
  have hcap := h.caps
  unfold maxLen at hcap
  have hrc : (rc : Int) ≤ 9223372036854775807 := by omega
  have hac : (ac : Int) ≤ 9223372036854775807 := by omega
  have hiI : (i : Int) < (m : Int) := by omega
  have hjI : (j : Int) < (n : Int) := by omega
  have hi0 : (0 : Int) ≤ (i : Int) := by omega
  have hj0 : (0 : Int) ≤ (j : Int) := by omega
  obtain ⟨a1, _⟩ := h.atAt hi
  rw [ha] at a1
  have hb : ((j : Int) == -1) = false := by
    simp only [beq_eq_false_iff_ne]
    omega
  obtain ⟨_, b1, _, bf⟩ := h.rowAt hj
  have hxi : (atD D j).i = (i : Int) := by
    rcases h.rel.back i (by rw [h.hm]; exact hi) with h1 | ⟨j', hj', h1, h2⟩
    · omega
    · have : j' = j := by omega
      rw [← this]
      exact h2
  obtain ⟨w2, hw2⟩ : ∃ w2, (w.setCell ⟨rb, j * 2 + 1, none⟩ (nu key)).drew = w2 := ⟨_, rfl⟩
  have hk2 : Keep (fun k => k = rb) w w2 := by
    rw [← hw2]
    exact ((Keep.refl (fun k => k = rb) w).setCell (p := ⟨rb, j * 2 + 1, none⟩) (.inl rfl) _).drew
  have hjD : j < D.length := by rw [h.hn]; exact hj
  have h2 : Lay w2 p rb rc ab ac n m (D.set j ⟨i, key⟩) A := by
    refine ⟨by rw [List.length_set]; exact h.hn, h.hm, hk2.at h.blk (fun e => h.n1 e.symm), ?_, hk2.own h.at_ (fun g e => by simp [Value.ownBlock] at e; rw [← e]; exact fun e2 => h.n3 e2.symm), h.n1, h.n2, h.n3, h.rel.key hjD _ hxi.symm, h.few, h.few2⟩
    have h1 := own_setS h.row (j * 2 + 1) (nu key)
    rw [flat_key D j key hjD, hxi] at h1
    rw [← hw2]
    exact (Keep.refl (fun _ => False) _).drew.own h1 (fun _ _ e => e)
  have g2 := h2.cells.2.2.1
  have ga := (h2.atAt hi).1
  rw [ha] at ga
  have c2 : Hid (Calls Try.prog 35 #[ptr p, nun j] w2 fun e w' => e = .returned (.tuple #[]) ∧ Hid (LeftY w w' p (slc rb n rc) ab ac m (setH L i key))) := by
    refine (settle_p h2 j hj (hd.near_set hjD _)).mono ?_
    rintro e w' ⟨rfl, D', A', l1, l2, l3, l4⟩
    refine ⟨rfl, _, n, D', A', l1.v, ?_, l4, ?_, ?_⟩
    · refine l3.trans ?_
      have := perm_key hp hk hjD key (by rw [hxi]; omega)
      rw [hxi] at this
      exact this
    · rw [foot_slc]
      exact (hk2.weaken (G := foot p rb ab) (fun k _ e => .inr (.inl e))).trans l2 (fun _ _ e => e)
    · exact fun k e => .inl e
  have HW2 := Hid.mk' hw2
  clear h h2 hk2 hw2 hxi hjD ha hd hp hk hcap hN
  go_enter Try.func26, Try.ntmps26
  go_upto_region 3 with fail
  go_region
  rw [HW2.out]
  go_wp2_with fail
  refine c2.out.mono ?_
  rintro e w3 ⟨rfl, HE⟩
  go_wp2
  go_end0
  exact ⟨rfl, HE.out⟩

set_option maxRecDepth 100000 in
set_option maxHeartbeats 4000000 in
/-- A number that isn't there. -/
theorem set_new {w : World} {p : Nat} {rv : Value} {ab ac n m : Nat} {D L : List It} {A : List Int} {N : Int} (h : LayV w p rv ab ac n m D A) (hp : D.Perm L) (hk : Hk N L) (hd : Hpd D) (i : Nat) (key : Int) (hi : i < m) (ha : aN A i = -1) (hN : N = (m : Int)) :
    Calls Try.prog 26 #[ptr p, nun i, nu key] w fun e w' => e = .returned (.tuple #[]) ∧ LeftY w w' p rv ab ac m (setH L i key) := by
  obtain ⟨i0, ji, kz0, kz1, kz2⟩ := info_parts infoE
  obtain ⟨q0, q1, q2, qf⟩ := h.cells
  have hlt := h.lt
  have hsh := h.shape.2
  have hnm := h.few2
  have hmm := h.few
  obtain ⟨⟨ra, rc, rfl, hc1, hc2⟩, _⟩ := h.shape
  unfold maxLen at hsh hc2
  have hrc : (rc : Int) ≤ 9223372036854775807 := by omega
  have hac : (ac : Int) ≤ 9223372036854775807 := by omega
  have hiI : (i : Int) < (m : Int) := by omega
  have hi0 : (0 : Int) ≤ (i : Int) := by omega
  obtain ⟨a1, af⟩ := h.atAt hi
  rw [ha] at a1
  obtain ⟨w2, hw2⟩ : ∃ w2, (w.setCell ⟨ab, i, none⟩ (nun n)).drew = w2 := ⟨_, rfl⟩
  have hk2 : Keep (fun k => k = ab) w w2 := by
    rw [← hw2]
    exact ((Keep.refl (fun k => k = ab) w).setCell (p := ⟨ab, i, none⟩) (.inl rfl) _).drew
  have hz2 : w2.heap.size = w.heap.size := by rw [← hw2]; simp [World.setCell]
  have hp2 := hk2.at h.blk (fun e => h.n2 e.symm)
  have ho2 := hk2.own h.row (fun g e e2 => h.n3 (by rw [e, e2]))
  have ha2 : w2.ownsRow 0 3 1 (slc ab m ac) m ((A.set i (n : Int)).map nu) := by
    have := own_setS h.at_ i (nun n)
    rw [List.map_set, ← hw2]
    exact (Keep.refl (fun _ => False) _).drew.own this (fun _ _ e => e)
  have hrel := h.rel.app (i := i) (by rw [h.hm]; exact hi) ha 0
  rw [h.hn] at hrel
  have r1 : w2.cell? ⟨p, 1, none⟩ = some (.slice ra n rc) := by simp [World.cell?, hp2]
  obtain ⟨w3, hw3⟩ : ∃ w3, w2.alloc (.cells #[nun i, nu 0] 70) = w3 := ⟨_, rfl⟩
  have hb3 : Below w2.heap.size w2 w3 := by rw [← hw3]; exact (Below.refl _ _).alloc (Nat.le_refl _) _
  have hx3 : w3.heap[w2.heap.size]? = some (.cells #[nun i, nu 0] 70) := by rw [← hw3]; exact heap_alloc_new _ _
  have hz3 : w3.heap.size = w.heap.size + 1 := by rw [← hw3, ← hz2]; simp
  have HO3 : Hid (w3.ownsRow 0 70 2 (.slice ra n rc) n (D.flatMap It.cells)) := (Keep.of_below (F := fun _ => False) hb3).own ho2 (fun _ _ e => e)
  -- behind the append
  have HFIN : Hid (∀ g cap w', w'.ownsRow 0 70 2 (slc g (n + 1) cap) (n + 1) (D.flatMap It.cells ++ [nun i, nu 0]) → w3.grownBy w' (Value.slice ra n rc).ownBlock → ((Value.slice ra n rc).ownBlock = some g ∨ g = w3.heap.size) → g < w'.heap.size →
      w'.cell? ⟨p, 1, none⟩ = some (.slice ra n rc) ∧ w'.frozen? ⟨p, 1, none⟩ = false ∧ Lay (w'.setCell ⟨p, 1, none⟩ (slc g (n + 1) cap)) p g cap ab ac (n + 1) m (D ++ [⟨i, 0⟩]) (A.set i (n : Int)) ∧ Keep (footV p (.slice ra n rc) ab) w (w'.setCell ⟨p, 1, none⟩ (slc g (n + 1) cap)) ∧ (∀ k, foot p g ab k → footV p (.slice ra n rc) ab k ∨ w.heap.size ≤ k)) := by
    intro g cap w' ho hg hat hgl
    have k3 : Keep (footV p (.slice ra n rc) ab) w w3 := (hk2.weaken (G := footV p (.slice ra n rc) ab) (fun k _ e => .inr (.inr e))).trans (Keep.of_below (F := fun _ => False) hb3) (fun _ _ e => e.elim)
    have k4 : Keep (footV p (.slice ra n rc) ab) w w' := k3.grown hg (fun k e => .inl (.inr (.inl e)))
    have kp : Keep (fun k => (Value.slice ra n rc).ownBlock = some k) w2 w' := ((Keep.of_below (F := fun k => (Value.slice ra n rc).ownBlock = some k) hb3)).grown hg (fun k e => .inl e)
    have hp4 := kp.at hp2 h.n1
    have ha4 := kp.own ha2 (fun g e e2 => h.n3 (by simp [Value.ownBlock] at e; rw [e2, ← e]))
    have hgp : g ≠ p := by
      rcases hat with e | e
      · exact fun e2 => h.n1 (by rw [e, e2])
      · have := hlt p (.inl rfl)
        omega
    have hga : g ≠ ab := by
      rcases hat with e | e
      · exact fun e2 => h.n3 (by rw [e, e2])
      · have := hlt ab (.inr (.inr rfl))
        omega
    refine ⟨by simp [World.cell?, hp4], by simp [World.frozen?, hp4], ⟨by rw [List.length_append, h.hn]; rfl, by rw [List.length_set]; exact h.hm, ?_, ?_, ?_, hgp, h.n2, hga, hrel, h.few, ?_⟩, k4.setCell (p := ⟨p, 1, none⟩) (.inl (.inl rfl)) _, ?_⟩
    · rw [heap_setCell_same _ p 1 _ _ _ hp4]
      rfl
    · have := own_other ho ⟨p, 1, none⟩ (slc g (n + 1) cap) (by simpa [Value.ownBlock] using hgp)
      rw [List.flatMap_append]
      exact this
    · exact own_other ha4 ⟨p, 1, none⟩ _ (by simpa [Value.ownBlock] using h.n2)
    · have := few_of m ((D ++ [(⟨i, 0⟩ : It)]).map (fun x => x.i.toNat)) (by
        rw [List.nodup_iff_pairwise_ne, List.pairwise_map]
        refine hrel.unl.imp_of_mem (fun ha hb hne => ?_)
        obtain ⟨j, hj, rfl⟩ := mem_atD ha
        obtain ⟨k, hk, rfl⟩ := mem_atD hb
        have := hrel.to j hj
        have := hrel.to k hk
        omega) (fun i' hi' => by
        obtain ⟨x, hx, rfl⟩ := List.mem_map.1 hi'
        obtain ⟨j, hj, rfl⟩ := mem_atD hx
        have := hrel.to j hj
        rw [List.length_set, h.hm] at this
        omega)
      rw [List.length_map, List.length_append, h.hn] at this
      have h9 : n + 1 ≤ m := this
      omega
    · rintro k (e | e | e)
      · exact .inl (.inl e)
      · rcases hat with e2 | e2
        · exact .inl (.inr (.inl (by rw [e2, e])))
        · exact .inr (by omega)
      · exact .inl (.inr (.inr e))
  have HDN : Hid (D.length = n) := h.hn
  have hperm := perm_new hp hk (i := (i : Int)) (by omega) (by rw [has_at h.rel hp (by rw [h.hm]; exact hi), ha]; rfl) key
  have HSET : Hid (∀ g cap wx, Lay wx p g cap ab ac (n + 1) m (D ++ [⟨i, 0⟩]) (A.set i (n : Int)) → Keep (footV p (.slice ra n rc) ab) w wx → (∀ k, foot p g ab k → footV p (.slice ra n rc) ab k ∨ w.heap.size ≤ k) → (wx.setCell ⟨g, n * 2 + 1, none⟩ (nu key)).drew.cell? ⟨p, 2, none⟩ = some (slc ab m ac) ∧ (wx.setCell ⟨g, n * 2 + 1, none⟩ (nu key)).drew.cell? ⟨ab, i, none⟩ = some (nun n) ∧
      Calls Try.prog 35 #[ptr p, nun n] (wx.setCell ⟨g, n * 2 + 1, none⟩ (nu key)).drew fun e w' => e = .returned (.tuple #[]) ∧ Hid (LeftY w w' p (.slice ra n rc) ab ac m (setH L i key))) := by
    intro g cap wx hl hkx hfx
    have hk5 : Keep (fun k => k = g) wx (wx.setCell ⟨g, n * 2 + 1, none⟩ (nu key)).drew := ((Keep.refl (fun k => k = g) wx).setCell (p := ⟨g, n * 2 + 1, none⟩) (.inl rfl) _).drew
    have hnD : n < (D ++ [(⟨i, 0⟩ : It)]).length := by rw [hl.hn]; omega
    have hlast : atD (D ++ [(⟨i, 0⟩ : It)]) n = ⟨i, 0⟩ := by rw [atD_app, if_pos HDN.out.symm]
    have hset : (D ++ [(⟨i, 0⟩ : It)]).set n ⟨i, key⟩ = D ++ [⟨i, key⟩] := by
      rw [List.set_append_right _ _ (by rw [HDN.out]; exact Nat.le_refl _), HDN.out, Nat.sub_self]
      rfl
    have hl5 : Lay (wx.setCell ⟨g, n * 2 + 1, none⟩ (nu key)).drew p g cap ab ac (n + 1) m (D ++ [⟨i, key⟩]) (A.set i (n : Int)) := by
      refine ⟨by rw [List.length_append, HDN.out]; rfl, hl.hm, hk5.at hl.blk (fun e => hl.n1 e.symm), ?_, hk5.own hl.at_ (fun g' e => by simp [Value.ownBlock] at e; rw [← e]; exact fun e2 => hl.n3 e2.symm), hl.n1, hl.n2, hl.n3, ?_, hl.few, hl.few2⟩
      · have h1 := own_setS hl.row (n * 2 + 1) (nu key)
        rw [flat_key _ n key hnD, hlast, hset] at h1
        exact (Keep.refl (fun _ => False) _).drew.own h1 (fun _ _ e => e)
      · have := hl.rel.key hnD (⟨i, key⟩ : It) (by rw [hlast])
        rwa [hset] at this
    refine ⟨hl5.cells.2.2.1, ?_, ?_⟩
    · have := (hl5.atAt hi).1
      rw [aN_set _ _ _ _ (by have := hl.hm; rw [List.length_set] at this; omega), if_pos rfl] at this
      exact this
    · have hnear := hd.near_app (⟨i, key⟩ : It)
      rw [HDN.out] at hnear
      refine (settle_p hl5 n (by omega) hnear).mono ?_
      rintro e w' ⟨rfl, D', A', l1, l2, l3, l4⟩
      refine ⟨rfl, _, n + 1, D', A', l1.v, l3.trans hperm, l4, ?_, ?_⟩
      · have hks := hkx.size
        refine (hkx.trans hk5 ?_).trans l2 ?_
        · intro k hk e
          rcases hfx k (.inr (.inl e)) with h1 | h1
          · exact h1
          · omega
        · intro k hk e
          rcases hfx k e with h1 | h1
          · exact h1
          · omega
      · rw [foot_slc]
        exact hfx
  have HW2 := Hid.mk' hw2
  have HW3 := Hid.mk' hw3
  have HX3 := Hid.mk' hx3
  have HZ2 := Hid.mk' hz2
  have HZ3 := Hid.mk' hz3
  have hby : Hid ((n + 1) * 16 ≤ 140737488355328) := by show _ ≤ _; omega
  have hmx : Hid (n + 1 ≤ maxLen) := by show _ ≤ _; unfold maxLen; omega
  have hn1 : ((n : Int)) < ((n + 1 : Nat) : Int) := by omega
  have hn0 : (0 : Int) ≤ (n : Int) := by omega
  clear h hp hk hd ha hN hlt hk2 hp2 ho2 ha2 hrel hb3 hx3 hperm hw2 hw3 hz2 hz3 hc1 hc2
  go_enter Try.func26, Try.ntmps26
  go_upto_region 1 with fail
  go_region
  rw [HW2.out]
  go_upto_region 3 with (first | (at_builtin; rw [HW3.out]; refine wpList_append_lies _ rfl _ _ 61 rfl 0 70 i0 (.agg #[.int .i64 0, .int .i64 0]) 2 16 Try.underlying61 ji kz0 kz1 kz2 rfl (by decide) _ n _ rfl HO3.out ⟨w2.heap.size, 0, none⟩ 1 1 [nun i, nu 0] rfl rfl (World.news_of_block HX3.out) (by simp [Value.oneCell']) (by decide) hmx.out hby.out (Nat.zero_le _) _ rfl ?_; intro g8 c8 w8 ho8 hg8 hat8 hlt8; obtain ⟨t1, t2, t3, t4, t5⟩ := HFIN.out g8 c8 w8 ho8 hg8 hat8 hlt8; have T3 := Hid.mk' t3; have T4 := Hid.mk' t4; have T5 := Hid.mk' t5; clear t3 t4 t5 ho8 hg8 hat8 hlt8) | fail)
  obtain ⟨w9, hw9⟩ : ∃ w9, w8.setCell ⟨p, 1, none⟩ (slc g8 (n + 1) c8) = w9 := ⟨_, rfl⟩
  rw [hw9] at T3 T4 ⊢
  obtain ⟨s1, s2, s3⟩ := HSET.out g8 c8 w9 T3.out T4.out T5.out
  have C3 := Hid.mk' s3
  obtain ⟨_, p1, p2, _⟩ := T3.out.cells
  have p3 := (T3.out.atAt hi).1
  rw [aN_set _ _ _ _ (by have := T3.out.hm; rw [List.length_set] at this; omega), if_pos rfl] at p3
  obtain ⟨_, b1, _, bf⟩ := T3.out.rowAt (j := n) (by omega)
  have hcp := T3.out.caps
  unfold maxLen at hcp
  have h8 : (c8 : Int) ≤ 9223372036854775807 := by omega
  have hnn : (n : Int) < (n : Int) + 1 := by omega
  clear s3 hw9 HSET HFIN t1 t2 hcp T3 T4 T5
  go_region
  go_wp2_with fail
  refine C3.out.mono ?_
  rintro e w10 ⟨rfl, HE⟩
  go_wp2
  go_end0
  exact ⟨rfl, HE.out⟩
end Hq
end Go.Proofs.Ythjdpfmnbmnbhaa
