/- A row of numbers with keys in which each is ahead of the two below it: plain facts. No program is named here. -/
import Derived.Test.YthjdpfmnbmnbhaaHepP
namespace Go.Proofs.Ythjdpfmnbmnbhaa
namespace Hq
open Hh
set_option linter.unusedSimpArgs false
set_option linter.unusedVariables false

/-- The j-th of a row. -/
def atD (D : List It) (j : Nat) : It := D.getD j ⟨0, 0⟩

theorem atD_some {D : List It} {j : Nat} (h : j < D.length) : D[j]? = some (atD D j) := by
  unfold atD
  rw [List.getD_eq_getElem?_getD, List.getElem?_eq_getElem h]
  rfl

theorem atD_get {D : List It} {j : Nat} (h : j < D.length) : D[j] = atD D j := by
  have := atD_some h
  rw [List.getElem?_eq_getElem h] at this
  exact Option.some.inj this

theorem atD_mem {D : List It} {j : Nat} (h : j < D.length) : atD D j ∈ D := by
  rw [← atD_get h]
  exact List.getElem_mem h

theorem mem_atD {D : List It} {x : It} (h : x ∈ D) : ∃ j, j < D.length ∧ atD D j = x := by
  obtain ⟨j, hj, e⟩ := List.getElem_of_mem h
  exact ⟨j, hj, by rw [← atD_get hj]; exact e⟩

theorem atD_set (D : List It) (a j : Nat) (x : It) (ha : a < D.length) : atD (D.set a x) j = if j = a then x else atD D j := by
  unfold atD
  rw [List.getD_eq_getElem?_getD, List.getD_eq_getElem?_getD, List.getElem?_set]
  by_cases h : a = j
  · subst h
    rw [if_pos rfl, if_pos rfl, if_pos ha]
    rfl
  · rw [if_neg h, if_neg (fun e => h e.symm)]

def swp (D : List It) (a b : Nat) : List It := (D.set a (atD D b)).set b (atD D a)

theorem swp_len (D : List It) (a b : Nat) : (swp D a b).length = D.length := by
  unfold swp
  rw [List.length_set, List.length_set]

theorem swp_at (D : List It) (a b j : Nat) (ha : a < D.length) (hb : b < D.length) : atD (swp D a b) j = if j = b then atD D a else if j = a then atD D b else atD D j := by
  unfold swp
  rw [atD_set _ _ _ _ (by rw [List.length_set]; exact hb), atD_set _ _ _ _ ha]

theorem swp_perm (D : List It) (a b : Nat) (ha : a < D.length) (hb : b < D.length) : (swp D a b).Perm D := by
  unfold swp
  rw [← atD_get ha, ← atD_get hb]
  exact List.set_set_perm ha hb

/-- No two have one number. -/
def Unl (D : List It) : Prop := D.Pairwise (fun a b => a.i ≠ b.i)

theorem Unl.perm {D E : List It} (h : Unl D) (hp : E.Perm D) : Unl E := (hp.pairwise_iff (R := fun a b : It => a.i ≠ b.i) (fun h => Ne.symm h)).2 h

theorem Unl.ne {D : List It} (h : Unl D) {j k : Nat} (hj : j < D.length) (hk : k < D.length) (hn : j ≠ k) : (atD D j).i ≠ (atD D k).i := by
  unfold Unl at h
  rw [List.pairwise_iff_getElem] at h
  rw [← atD_get hj, ← atD_get hk]
  rcases Nat.lt_or_gt_of_ne hn with hl | hl
  · exact h j k hj hk hl
  · exact Ne.symm (h k j hk hj hl)

/-- Each is ahead of the two below it. -/
def Hpd (D : List It) : Prop := ∀ j, 0 < j → j < D.length → ahd (atD D ((j - 1) / 2)) (atD D j) = true

/-- Only the one at a may stand wrong, against what is above it or below it. -/
structure Near (D : List It) (a : Nat) : Prop where
  off : ∀ j, 0 < j → j < D.length → j ≠ a → (j - 1) / 2 ≠ a → ahd (atD D ((j - 1) / 2)) (atD D j) = true
  by_ : 0 < a → ∀ c, 0 < c → c < D.length → (c - 1) / 2 = a → ahd (atD D ((a - 1) / 2)) (atD D c) = true

/-- Only the one at a may stand wrong, against what is below it. -/
structure Snk (D : List It) (a : Nat) : Prop where
  off : ∀ j, 0 < j → j < D.length → (j - 1) / 2 ≠ a → ahd (atD D ((j - 1) / 2)) (atD D j) = true
  by_ : 0 < a → ∀ c, 0 < c → c < D.length → (c - 1) / 2 = a → ahd (atD D ((a - 1) / 2)) (atD D c) = true

theorem Near.up {D : List It} {a : Nat} (h : Near D a) (ha : 0 < a) (hl : a < D.length) (hg : ahd (atD D a) (atD D ((a - 1) / 2)) = true) : Near (swp D a ((a - 1) / 2)) ((a - 1) / 2) := by
  obtain ⟨p, hp⟩ : ∃ p, (a - 1) / 2 = p := ⟨_, rfl⟩
  rw [hp] at hg ⊢
  have hpl : p < D.length := by omega
  have hpa : p < a := by omega
  refine ⟨fun j h0 hj hn hm => ?_, fun h0 c hc hcl hcp => ?_⟩
  · rw [swp_len] at hj
    rw [swp_at D a p _ hl hpl, swp_at D a p _ hl hpl, if_neg hm, if_neg hn]
    by_cases e : j = a
    · subst e
      exact absurd hp hm
    · rw [if_neg e]
      by_cases e2 : (j - 1) / 2 = a
      · rw [if_pos e2]
        have := h.by_ ha j h0 hj e2
        rwa [hp] at this
      · rw [if_neg e2]
        exact h.off j h0 hj e e2
  · rw [swp_len] at hcl
    have h1 : (p - 1) / 2 ≠ p := by omega
    have h2 : (p - 1) / 2 ≠ a := by omega
    have hup := h.off p h0 hpl (by omega) h2
    rw [swp_at D a p _ hl hpl, swp_at D a p _ hl hpl, if_neg h1, if_neg h2, if_neg (by omega)]
    by_cases e : c = a
    · rw [if_pos e]
      exact hup
    · rw [if_neg e]
      have := h.off c hc hcl e (by omega)
      rw [hcp] at this
      exact ahd_trans hup this

theorem Near.stay {D : List It} {a : Nat} (h : Near D a) (hu : Unl D) (hl : a < D.length) (hg : a = 0 ∨ ahd (atD D a) (atD D ((a - 1) / 2)) = false) : Snk D a := by
  refine ⟨fun j h0 hj hn => ?_, h.by_⟩
  by_cases e : j = a
  · subst e
    rcases hg with rfl | hg
    · omega
    · exact ahd_total (hu.ne hj (by omega) (by omega)) (by rw [hg]; simp)
  · exact h.off j h0 hj e hn

theorem Snk.down {D : List It} {a c : Nat} (h : Snk D a) (hc0 : 0 < c) (hl : c < D.length) (hca : (c - 1) / 2 = a) (hg : ahd (atD D c) (atD D a) = true) (hm : ∀ k, 0 < k → k < D.length → (k - 1) / 2 = a → k ≠ c → ahd (atD D c) (atD D k) = true) : Snk (swp D a c) c := by
  have hac : a < c := by omega
  have hal : a < D.length := by omega
  refine ⟨fun j h0 hj hn => ?_, fun h0 k hk hkl hkc => ?_⟩
  · rw [swp_len] at hj
    rw [swp_at D a c _ hal hl, swp_at D a c _ hal hl, if_neg hn]
    by_cases e : j = c
    · rw [if_pos e, if_pos (by omega)]
      exact hg
    · rw [if_neg e]
      by_cases e2 : j = a
      · rw [if_pos e2, if_neg (by omega)]
        subst e2
        exact h.by_ h0 c hc0 hl hca
      · rw [if_neg e2]
        by_cases e3 : (j - 1) / 2 = a
        · rw [if_pos e3]
          exact hm j h0 hj e3 e
        · rw [if_neg e3]
          exact h.off j h0 hj e3
  · rw [swp_len] at hkl
    rw [swp_at D a c _ hal hl, swp_at D a c _ hal hl, if_neg (by omega), if_pos hca, if_neg (by omega), if_neg (by omega)]
    have := h.off k hk hkl (by omega)
    rwa [hkc] at this

theorem Snk.done {D : List It} {a : Nat} (h : Snk D a) (hu : Unl D) (hl : a < D.length) (hm : ∀ k, 0 < k → k < D.length → (k - 1) / 2 = a → ahd (atD D k) (atD D a) = false) : Hpd D := by
  intro j h0 hj
  by_cases e : (j - 1) / 2 = a
  · have := hm j h0 hj e
    rw [e]
    exact ahd_total (hu.ne hj hl (by omega)) (by rw [this]; simp)
  · exact h.off j h0 hj e

/-- The first one is ahead of all others. -/
theorem Hpd.first {D : List It} (h : Hpd D) : ∀ j, 0 < j → j < D.length → ahd (atD D 0) (atD D j) = true := by
  intro j
  induction j using Nat.strongRecOn with
  | ind j ih =>
    intro h0 hj
    have h1 := h j h0 hj
    by_cases e : (j - 1) / 2 = 0
    · rwa [e] at h1
    · exact ahd_trans (ih ((j - 1) / 2) (by omega) (by omega) (by omega)) h1

theorem Hpd.near_set {D : List It} (h : Hpd D) {a : Nat} (ha : a < D.length) (x : It) : Near (D.set a x) a := by
  refine ⟨fun j h0 hj hn hm => ?_, fun h0 c hc hcl hca => ?_⟩
  · rw [List.length_set] at hj
    rw [atD_set _ _ _ _ ha, atD_set _ _ _ _ ha, if_neg hm, if_neg hn]
    exact h j h0 hj
  · rw [List.length_set] at hcl
    rw [atD_set _ _ _ _ ha, atD_set _ _ _ _ ha, if_neg (by omega), if_neg (by omega)]
    have h1 := h c hc hcl
    rw [hca] at h1
    exact ahd_trans (h a h0 ha) h1

theorem atD_app (D : List It) (x : It) (j : Nat) : atD (D ++ [x]) j = if j = D.length then x else atD D j := by
  unfold atD
  rw [List.getD_eq_getElem?_getD, List.getD_eq_getElem?_getD]
  by_cases h : j = D.length
  · subst h
    rw [if_pos rfl]
    simp
  · rw [if_neg h]
    by_cases h2 : j < D.length
    · rw [List.getElem?_append_left h2]
    · rw [List.getElem?_eq_none (by simp; omega), List.getElem?_eq_none (by omega)]

theorem Hpd.near_app {D : List It} (h : Hpd D) (x : It) : Near (D ++ [x]) D.length := by
  refine ⟨fun j h0 hj hn hm => ?_, fun h0 c hc hcl hca => ?_⟩
  · rw [List.length_append, List.length_singleton] at hj
    rw [atD_app, atD_app, if_neg hm, if_neg hn]
    exact h j h0 (by omega)
  · rw [List.length_append, List.length_singleton] at hcl
    omega

theorem atD_take (D : List It) (n j : Nat) (h : j < n) : atD (D.take n) j = atD D j := by
  unfold atD
  rw [List.getD_eq_getElem?_getD, List.getD_eq_getElem?_getD, List.getElem?_take_of_lt h]

/-- The one at a and the last one change their places, and the last place goes. -/
theorem Hpd.near_drop {D : List It} (h : Hpd D) {a : Nat} (ha : a < D.length - 1) : Near ((swp D a (D.length - 1)).take (D.length - 1)) a := by
  have hl : ((swp D a (D.length - 1)).take (D.length - 1)).length = D.length - 1 := by rw [List.length_take, swp_len]; omega
  have hat : ∀ j, j < D.length - 1 → j ≠ a → atD ((swp D a (D.length - 1)).take (D.length - 1)) j = atD D j := fun j hj hn => by
    rw [atD_take _ _ _ hj, swp_at D a _ _ (by omega) (by omega), if_neg (by omega), if_neg hn]
  refine ⟨fun j h0 hj hn hm => ?_, fun h0 c hc hcl hca => ?_⟩
  · rw [hl] at hj
    rw [hat j hj hn, hat _ (by omega) hm]
    exact h j h0 (by omega)
  · rw [hl] at hcl
    rw [hat c hcl (by omega), hat _ (by omega) (by omega)]
    have h1 := h c hc (by omega)
    rw [hca] at h1
    exact ahd_trans (h a h0 (by omega)) h1

theorem Hpd.take {D : List It} (h : Hpd D) (n : Nat) : Hpd (D.take n) := by
  intro j h0 hj
  rw [List.length_take] at hj
  rw [atD_take _ _ _ (by omega), atD_take _ _ _ (by omega)]
  exact h j h0 (by omega)

theorem swp_self (D : List It) (a : Nat) (ha : a < D.length) : swp D a a = D := by
  unfold swp
  rw [List.set_set]
  have := atD_get ha
  rw [← this]
  exact List.set_getElem_self ha

/-! ### Where each stands -/

def aN (A : List Int) (i : Nat) : Int := A.getD i (-1)

theorem aN_some {A : List Int} {i : Nat} (h : i < A.length) : A[i]? = some (aN A i) := by
  unfold aN
  rw [List.getD_eq_getElem?_getD, List.getElem?_eq_getElem h]
  rfl

theorem aN_set (A : List Int) (a j : Nat) (x : Int) (ha : a < A.length) : aN (A.set a x) j = if j = a then x else aN A j := by
  unfold aN
  rw [List.getD_eq_getElem?_getD, List.getD_eq_getElem?_getD, List.getElem?_set]
  by_cases h : a = j
  · subst h
    rw [if_pos rfl, if_pos rfl, if_pos ha]
    rfl
  · rw [if_neg h, if_neg (fun e => h e.symm)]

/-- A tells where each number of D stands, and -1 of all others. -/
structure AtR (D : List It) (A : List Int) : Prop where
  to : ∀ j, j < D.length → 0 ≤ (atD D j).i ∧ (atD D j).i < A.length ∧ aN A (atD D j).i.toNat = (j : Int)
  back : ∀ i, i < A.length → aN A i = -1 ∨ ∃ j, j < D.length ∧ aN A i = (j : Int) ∧ (atD D j).i = (i : Int)

theorem AtR.unl {D : List It} {A : List Int} (h : AtR D A) : Unl D := by
  unfold Unl
  rw [List.pairwise_iff_getElem]
  intro j k hj hk hl e
  rw [atD_get hj, atD_get hk] at e
  have h1 := (h.to j hj).2.2
  have h2 := (h.to k hk).2.2
  rw [e, h2] at h1
  omega

theorem AtR.swp {D : List It} {A : List Int} (h : AtR D A) {a b : Nat} (ha : a < D.length) (hb : b < D.length) :
    AtR (swp D a b) ((A.set (atD D b).i.toNat (a : Int)).set (atD D a).i.toNat (b : Int)) := by
  have ta := h.to a ha
  have tb := h.to b hb
  have la : (atD D a).i.toNat < A.length := by omega
  have lb : (atD D b).i.toNat < A.length := by omega
  have hA : ∀ j, aN ((A.set (atD D b).i.toNat (a : Int)).set (atD D a).i.toNat (b : Int)) j = if j = (atD D a).i.toNat then (b : Int) else if j = (atD D b).i.toNat then (a : Int) else aN A j := fun j => by
    rw [aN_set _ _ _ _ (by rw [List.length_set]; exact la), aN_set _ _ _ _ lb]
  have hlen : ((A.set (atD D b).i.toNat (a : Int)).set (atD D a).i.toNat (b : Int)).length = A.length := by rw [List.length_set, List.length_set]
  refine ⟨fun j hj => ?_, fun i hi => ?_⟩
  · rw [swp_len] at hj
    rw [hlen, hA, swp_at D a b j ha hb]
    by_cases e : j = b
    · rw [if_pos e, if_pos rfl, e]
      exact ⟨ta.1, ta.2.1, rfl⟩
    · rw [if_neg e]
      by_cases e2 : j = a
      · rw [if_pos e2]
        refine ⟨tb.1, tb.2.1, ?_⟩
        have := h.unl.ne hb ha (fun e3 => e (e2.trans e3.symm))
        rw [if_neg (by omega), if_pos rfl, e2]
      · rw [if_neg e2]
        have tj := h.to j hj
        have n1 := h.unl.ne hj ha e2
        have n2 := h.unl.ne hj hb e
        refine ⟨tj.1, tj.2.1, ?_⟩
        rw [if_neg (by omega), if_neg (by omega)]
        exact tj.2.2
  · rw [hlen] at hi
    rw [hA]
    by_cases e : i = (atD D a).i.toNat
    · rw [if_pos e]
      refine .inr ⟨b, by rw [swp_len]; exact hb, rfl, ?_⟩
      rw [swp_at D a b b ha hb, if_pos rfl]
      omega
    · rw [if_neg e]
      by_cases e2 : i = (atD D b).i.toNat
      · rw [if_pos e2]
        refine .inr ⟨a, by rw [swp_len]; exact ha, rfl, ?_⟩
        rw [swp_at D a b a ha hb]
        by_cases e3 : a = b
        · subst e3
          omega
        · rw [if_neg e3, if_pos rfl]
          omega
      · rw [if_neg e2]
        rcases h.back i hi with h1 | ⟨j, hj, h1, h2⟩
        · exact .inl h1
        · refine .inr ⟨j, by rw [swp_len]; exact hj, h1, ?_⟩
          rw [swp_at D a b j ha hb, if_neg (fun e3 => e2 (by rw [← e3]; omega)), if_neg (fun e3 => e (by rw [← e3]; omega))]
          exact h2

/-- A key changes. -/
theorem AtR.key {D : List It} {A : List Int} (h : AtR D A) {a : Nat} (ha : a < D.length) (x : It) (hx : x.i = (atD D a).i) : AtR (D.set a x) A := by
  refine ⟨fun j hj => ?_, fun i hi => ?_⟩
  · rw [List.length_set] at hj
    rw [atD_set _ _ _ _ ha]
    by_cases e : j = a
    · rw [if_pos e, hx, e]
      exact h.to a ha
    · rw [if_neg e]
      exact h.to j hj
  · rcases h.back i hi with h1 | ⟨j, hj, h1, h2⟩
    · exact .inl h1
    · refine .inr ⟨j, by rw [List.length_set]; exact hj, h1, ?_⟩
      rw [atD_set _ _ _ _ ha]
      by_cases e : j = a
      · rw [if_pos e, hx, ← e]
        exact h2
      · rw [if_neg e]
        exact h2

/-- One more number. -/
theorem AtR.app {D : List It} {A : List Int} (h : AtR D A) {i : Nat} (hi : i < A.length) (hn : aN A i = -1) (k : Int) : AtR (D ++ [⟨i, k⟩]) (A.set i (D.length : Int)) := by
  refine ⟨fun j hj => ?_, fun m hm => ?_⟩
  · rw [List.length_append, List.length_singleton] at hj
    rw [atD_app, List.length_set, aN_set _ _ _ _ hi]
    by_cases e : j = D.length
    · rw [if_pos e, e]
      dsimp only
      refine ⟨by omega, by omega, ?_⟩
      rw [if_pos (by omega)]
    · rw [if_neg e]
      have t := h.to j (by omega)
      refine ⟨t.1, t.2.1, ?_⟩
      rw [if_neg (fun e2 => by rw [e2] at t; omega)]
      exact t.2.2
  · rw [List.length_set] at hm
    rw [aN_set _ _ _ _ hi]
    by_cases e : m = i
    · rw [if_pos e]
      refine .inr ⟨D.length, by simp, rfl, ?_⟩
      rw [atD_app, if_pos rfl, e]
    · rw [if_neg e]
      rcases h.back m hm with h1 | ⟨j, hj, h1, h2⟩
      · exact .inl h1
      · refine .inr ⟨j, by simp; omega, h1, ?_⟩
        rw [atD_app, if_neg (by omega)]
        exact h2

/-- The last one goes. -/
theorem AtR.pop {D : List It} {A : List Int} (h : AtR D A) {i : Nat} (h0 : 0 < D.length) (hi : (atD D (D.length - 1)).i = (i : Int)) : AtR (D.take (D.length - 1)) (A.set i (-1)) := by
  have tl := h.to (D.length - 1) (by omega)
  rw [hi] at tl
  have hil : i < A.length := by omega
  have hlen : (D.take (D.length - 1)).length = D.length - 1 := by rw [List.length_take]; omega
  refine ⟨fun j hj => ?_, fun m hm => ?_⟩
  · rw [hlen] at hj
    have t := h.to j (by omega)
    have ne := h.unl.ne (j := j) (k := D.length - 1) (by omega) (by omega) (by omega)
    rw [hi] at ne
    rw [atD_take _ _ _ hj, List.length_set, aN_set _ _ _ _ hil]
    refine ⟨t.1, t.2.1, ?_⟩
    rw [if_neg (by omega)]
    exact t.2.2
  · rw [List.length_set] at hm
    rw [aN_set _ _ _ _ hil]
    by_cases e : m = i
    · rw [if_pos e]
      exact .inl rfl
    · rw [if_neg e]
      rcases h.back m hm with h1 | ⟨j, hj, h1, h2⟩
      · exact .inl h1
      · have : j ≠ D.length - 1 := fun e2 => by
          rw [e2, hi] at h2
          omega
        exact .inr ⟨j, by rw [hlen]; omega, h1, by rw [atD_take _ _ _ (by omega)]; exact h2⟩

/-! ### What is in it -/

theorem has_at {D L : List It} {A : List Int} (h : AtR D A) (hp : D.Perm L) {i : Nat} (hi : i < A.length) : hasH L (i : Int) = decide (aN A i ≠ -1) := by
  rw [Bool.eq_iff_iff, decide_eq_true_iff]
  unfold hasH
  rw [List.any_eq_true]
  constructor
  · rintro ⟨x, hx, he⟩ hm
    obtain ⟨j, hj, e⟩ := mem_atD (hp.mem_iff.2 hx)
    have t := h.to j hj
    rw [e] at t
    have he : x.i = (i : Int) := by simpa using he
    rw [he] at t
    simp only [Int.toNat_natCast] at t
    omega
  · intro hm
    rcases h.back i hi with h1 | ⟨j, hj, h1, h2⟩
    · exact absurd h1 hm
    · exact ⟨atD D j, hp.mem_iff.1 (atD_mem hj), by simpa using h2⟩

theorem out_of {D L : List It} {A : List Int} (h : AtR D A) (hp : D.Perm L) {i : Int} (hi : ¬ (0 ≤ i ∧ i < A.length)) : hasH L i = false := by
  unfold hasH
  rw [List.any_eq_false]
  intro x hx he
  obtain ⟨j, hj, e⟩ := mem_atD (hp.mem_iff.2 hx)
  have t := h.to j hj
  rw [e] at t
  have he : x.i = i := by simpa using he
  omega

theorem key_at {D L : List It} {A : List Int} {N : Int} (h : AtR D A) (hp : D.Perm L) (hk : Hk N L) {i j : Nat} (hi : i < A.length) (hj : j < D.length) (hm : aN A i = (j : Int)) : keyH L (i : Int) = some (atD D j).k := by
  rw [keyH_mem hk]
  have : (⟨(i : Int), (atD D j).k⟩ : It) = atD D j := by
    rcases h.back i hi with h1 | ⟨j', hj', h1, h2⟩
    · omega
    · have : j' = j := by omega
      subst this
      cases he : atD D j'
      rw [he] at h2
      simp only at h2
      rw [h2]
  rw [this]
  exact hp.mem_iff.1 (atD_mem hj)

theorem key_none {L : List It} {i : Int} (h : hasH L i = false) : keyH L i = none := by
  rw [has_key] at h
  simpa using h

theorem first_of {D L : List It} {N : Int} (hp : D.Perm L) (hk : Hk N L) (hd : Hpd D) (h0 : 0 < D.length) : ∃ L', L = atD D 0 :: L' := by
  have hm : atD D 0 ∈ L := hp.mem_iff.1 (atD_mem h0)
  cases L with
  | nil => simp at hm
  | cons x L' =>
    refine ⟨L', ?_⟩
    rcases List.mem_cons.1 hm with e | e
    · rw [e]
    · have h1 := (List.pairwise_cons.1 hk.srt).1 _ e
      obtain ⟨j, hj, e2⟩ := mem_atD (hp.mem_iff.2 (List.mem_cons_self (a := x) (l := L')))
      by_cases h2 : j = 0
      · subst h2
        rw [e2]
      · have h3 := hd.first j (by omega) hj
        rw [e2] at h3
        exact absurd h3 (ahd_asymm h1)

/-- Put in anew, or put otherwise. -/
theorem perm_key {D L : List It} {N : Int} (hp : D.Perm L) (hk : Hk N L) {a : Nat} (ha : a < D.length) (k : Int) (hi : 0 ≤ (atD D a).i ∧ (atD D a).i < N) : (D.set a (It.mk (atD D a).i k)).Perm (setH L (atD D a).i k) := by
  have hu : Unl D := Unl.perm (D := L) hk.nd hp
  have hu2 : Unl (D.set a (It.mk (atD D a).i k)) := by
    unfold Unl at hu ⊢
    rw [List.pairwise_iff_getElem] at hu ⊢
    intro j m hj hm hl
    rw [List.length_set] at hj hm
    have := hu j m hj hm hl
    rw [atD_get hj, atD_get hm] at this
    rw [List.getElem_set, List.getElem_set]
    by_cases e : a = j
    · subst e
      rw [if_pos rfl, if_neg (by omega), atD_get]
      exact this
    · rw [if_neg e]
      by_cases e2 : a = m
      · subst e2
        rw [if_pos rfl, atD_get]
        exact this
      · rw [if_neg e2, atD_get, atD_get]
        exact this
  have nd1 : (D.set a (It.mk (atD D a).i k)).Nodup := hu2.imp (fun h e => h (by rw [e]))
  have nd2 : (setH L (atD D a).i k).Nodup := (hk.set hi k).nd.imp (fun h e => h (by rw [e]))
  rw [List.perm_ext_iff_of_nodup nd1 nd2]
  intro x
  rw [mem_setH]
  constructor
  · intro hx
    obtain ⟨j, hj, e⟩ := mem_atD hx
    rw [List.length_set] at hj
    rw [atD_set _ _ _ _ ha] at e
    by_cases e2 : j = a
    · rw [if_pos e2] at e
      exact .inl e.symm
    · rw [if_neg e2] at e
      subst e
      exact .inr ⟨hp.mem_iff.1 (atD_mem hj), hu.ne hj ha e2⟩
  · rintro (rfl | ⟨hx, hne⟩)
    · have := atD_mem (D := D.set a (It.mk (atD D a).i k)) (j := a) (by rw [List.length_set]; exact ha)
      rwa [atD_set _ _ _ _ ha, if_pos rfl] at this
    · obtain ⟨j, hj, e⟩ := mem_atD (hp.mem_iff.2 hx)
      have e2 : j ≠ a := fun e2 => hne (by rw [← e, e2])
      have := atD_mem (D := D.set a (It.mk (atD D a).i k)) (j := j) (by rw [List.length_set]; exact hj)
      rwa [atD_set _ _ _ _ ha, if_neg e2, e] at this

theorem perm_new {D L : List It} {N : Int} (hp : D.Perm L) (hk : Hk N L) {i : Int} (hi : 0 ≤ i ∧ i < N) (hn : hasH L i = false) (k : Int) : (D ++ [It.mk i k]).Perm (setH L i k) := by
  unfold setH
  rw [drop_none hn]
  unfold insH
  have h1 : (D ++ [It.mk i k]).Perm (It.mk i k :: D) := List.perm_append_singleton _ _
  refine h1.trans ?_
  refine (List.Perm.cons _ hp).trans ?_
  refine List.Perm.trans ?_ List.perm_middle.symm
  rw [List.takeWhile_append_dropWhile]

theorem perm_drop {D L : List It} {N : Int} (hp : D.Perm L) (hk : Hk N L) {a : Nat} (ha : a < D.length) : ((swp D a (D.length - 1)).take (D.length - 1)).Perm (dropH L (atD D a).i) := by
  have hs := swp_perm D a (D.length - 1) ha (by omega)
  obtain ⟨E, hE⟩ : ∃ E, swp D a (D.length - 1) = E := ⟨_, rfl⟩
  have hl : E.length = D.length := by rw [← hE, swp_len]
  have hlast : atD E (D.length - 1) = atD D a := by rw [← hE, swp_at D a _ _ ha (by omega), if_pos rfl]
  rw [hE] at hs ⊢
  have hu : Unl E := Unl.perm (D := L) hk.nd (hs.trans hp)
  have he : E = E.take (D.length - 1) ++ [atD D a] := by
    have h1 := List.take_append_drop (D.length - 1) E
    rw [List.drop_eq_getElem_cons (by omega), atD_get, hlast, List.drop_eq_nil_of_le (by omega)] at h1
    exact h1.symm
  have hf : (dropH E (atD D a).i).Perm (dropH L (atD D a).i) := (hs.trans hp).filter _
  refine List.Perm.trans ?_ hf
  have : dropH E (atD D a).i = E.take (D.length - 1) := by
    conv => lhs; rw [he]
    unfold dropH
    rw [List.filter_append]
    have e1 : List.filter (fun x : It => !(x.i == (atD D a).i)) [atD D a] = [] := by simp
    rw [e1, List.append_nil]
    refine List.filter_eq_self.2 (fun x hx => ?_)
    obtain ⟨j, hj, e⟩ := mem_atD hx
    rw [List.length_take] at hj
    rw [atD_take _ _ _ (by omega)] at e
    have := hu.ne (j := j) (k := D.length - 1) (by omega) (by omega) (by omega)
    rw [e, hlast] at this
    simpa using this
  rw [this]
end Hq
end Go.Proofs.Ythjdpfmnbmnbhaa
