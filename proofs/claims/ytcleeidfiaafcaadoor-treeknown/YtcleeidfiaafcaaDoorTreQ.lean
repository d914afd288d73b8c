import Derived.Test.YtcleeidfiaafcaaDoorTreP
/- What hangs below what: a tree of rings, and how it is gone through. No program is named here. -/
namespace Go.Proofs.YtcleeidfiaafcaaDoor
set_option linter.ambiguousOpen false
open Go.RowKit
namespace Tr
open An Rg Lv
set_option linter.unusedSimpArgs false
set_option linter.unusedVariables false

/-- What of a slot isn't its links. -/
def core (x : Slt) : Bool × Int × Ses := (x.used, x.kids, x.s)

theorem core_set (S : List Slt) (a : Nat) (x : Slt) (hx : core x = core (S.getD a bare)) (j : Nat) : core ((S.set a x).getD j bare) = core (S.getD j bare) := by
  by_cases e : a = j
  · subst e
    by_cases hl : a < S.length
    · rw [List.getD_eq_getElem?_getD, List.getElem?_set_self hl]
      exact hx
    · rw [List.set_eq_of_length_le (by omega)]
  · rw [List.getD_eq_getElem?_getD, List.getElem?_set_ne e, ← List.getD_eq_getElem?_getD]

theorem core_setN (S : List Slt) (i k : Int) (j : Nat) : core ((setN S i k).getD j bare) = core (S.getD j bare) := core_set S i.toNat { S.getD i.toNat bare with next := k } rfl j

theorem core_setP (S : List Slt) (i k : Int) (j : Nat) : core ((setP S i k).getD j bare) = core (S.getD j bare) := core_set S i.toNat { S.getD i.toNat bare with prev := k } rfl j

theorem core_link (S : List Slt) (i k : Int) (j : Nat) : core ((link S i k).getD j bare) = core (S.getD j bare) := (core_setP _ _ _ _).trans (core_setN _ _ _ _)

theorem core_push (S : List Slt) (l i j : Int) : core (at' (push S l i).sl j) = core (at' S j) := by
  unfold push at'
  repeat' split
  all_goals first | rfl | exact core_link _ _ _ _ | exact (core_link _ _ _ _).trans (core_link _ _ _ _)

theorem core_drop (S : List Slt) (l i j : Int) : core (at' (drop S l i).sl j) = core (at' S j) := by
  unfold Rg.drop at'
  repeat' split
  all_goals first | rfl | exact (core_setN _ _ _ _).trans ((core_setP _ _ _ _).trans (core_link _ _ _ _))

theorem at_setK {S : List Slt} (hl : S.length = 32) {i : Nat} (hi : i < 32) (k : Int) (j : Nat) : at' (setK S i k) j = if j = i then { at' S i with kids := k } else at' S j := by
  unfold at' setK
  simp only [Int.toNat_natCast]
  exact get_set hl _ _ _ hi

theorem at_setU {S : List Slt} (hl : S.length = 32) {i : Nat} (hi : i < 32) (us ub : Int) (j : Nat) : at' (setU S i us ub) j = if j = i then hung (at' S i) us ub else at' S j := by
  unfold at' setU
  simp only [Int.toNat_natCast]
  exact get_set hl _ _ _ hi

theorem ring_same {S S' : List Slt} {l : List Nat} (h : Ring S l) (hn : ∀ j : Nat, (at' S' j).next = (at' S j).next) (hp : ∀ j : Nat, (at' S' j).prev = (at' S j).prev) : Ring S' l :=
  ⟨h.nd, h.lt, path_of h.path (fun x y _ _ hxy => ⟨(hn x).trans hxy.1, (hp y).trans hxy.2⟩), fun z a hz ha => ⟨(hn z).trans (h.shut z a hz ha).1, (hp a).trans (h.shut z a hz ha).2⟩⟩

/-- What hangs: the roots, and what hangs below each slot. -/
structure Hg (S : List Slt) (last : Int) (n : Nat) (rt : List Nat) (ch : Nat → List Nat) : Prop where
  len : S.length = 32
  n32 : n ≤ 32
  used : ∀ i : Nat, i < n → (at' S i).used = true
  birth : ∀ i : Nat, i < n → (at' S i).s.birth = (i : Int) + 1
  ring0 : Ring S rt
  last : last = lastI rt
  ring : ∀ j : Nat, j < n → Ring S (ch j)
  kids : ∀ j : Nat, j < n → (at' S j).kids = lastI (ch j)
  par0 : ∀ i ∈ rt, i < n ∧ (at' S i).s.us = 0 ∧ (at' S i).s.ub = 0
  par : ∀ j : Nat, j < n → ∀ i ∈ ch j, i < n ∧ (at' S i).s.us = (j : Int) ∧ (at' S i).s.ub = (j : Int) + 1

section
variable {S : List Slt} {last : Int} {n : Nat} {rt : List Nat} {ch : Nat → List Nat}

theorem Hg.apart (h : Hg S last n rt ch) {j : Nat} (hj : j < n) : ∀ x ∈ ch j, x ∉ rt := fun x hx hr => by
  have h1 := (h.par j hj x hx).2.2
  have h2 := (h.par0 x hr).2.2
  omega

theorem Hg.apart2 (h : Hg S last n rt ch) {j k : Nat} (hj : j < n) (hk : k < n) (hne : j ≠ k) : ∀ x ∈ ch j, x ∉ ch k := fun x hx hr => by
  have h1 := (h.par j hj x hx).2.2
  have h2 := (h.par k hk x hr).2.2
  omega

theorem Hg.usedE (h : Hg S last n rt ch) {i : Nat} (hi : i < n) : usedE S i = 0 := by
  have := h.n32
  unfold Tr.usedE
  rw [if_neg (by omega), if_pos (h.used i hi)]

theorem Hg.isUp (h : Hg S last n rt ch) {i : Nat} (hi : i < n) : isUp S i ((i : Int) + 1) := by
  have := h.n32
  exact ⟨by omega, h.used i hi, h.birth i hi⟩

theorem lastI_snoc (l : List Nat) (i : Nat) : lastI (l ++ [i]) = i := by
  unfold lastI
  simp

/-- A root is hung. -/
theorem Hg.add0 (h : Hg S last n rt ch) {i : Nat} (hi : i < n) (h0 : i ∉ rt) (hc : ∀ j : Nat, j < n → i ∉ ch j) :
    ∃ S', addT S last i 0 0 = ⟨0, -1, S', i⟩ ∧ Hg S' i n (rt ++ [i]) (fun j => if j = i then [] else ch j) := by
  have h32 : i < 32 := Nat.lt_of_lt_of_le hi h.n32
  obtain ⟨S1, p1, p2, p3, p4⟩ := Ring.push h.len h.ring0 h32 h0
  have hco : ∀ j : Nat, core (at' S1 j) = core (at' S j) := fun j => by
    have := core_push S (lastI rt) i j
    rwa [p1] at this
  have hl1 : (setK S1 i (-1)).length = 32 := by rw [setK_len, p2]
  refine ⟨setU (setK S1 i (-1)) i 0 0, ?_, ?_⟩
  · unfold addT
    rw [h.usedE hi, if_neg (by omega), if_neg (by simp), if_neg (by simp), if_neg (by simp)]
    unfold ringOf
    rw [if_pos rfl, if_pos rfl, h.last, p1, if_neg (by simp)]
  · have hat : ∀ j : Nat, at' (setU (setK S1 i (-1)) i 0 0) j = if j = i then hung { at' S1 i with kids := -1 } 0 0 else at' S1 j := fun j => by
      rw [at_setU hl1 h32, at_setK p2 h32, at_setK p2 h32, if_pos rfl]
      split <;> rfl
    have hn : ∀ j : Nat, (at' (setU (setK S1 i (-1)) i 0 0) j).next = (at' S1 j).next := fun j => by
      rw [hat j]
      split
      · next e => subst e; rfl
      · rfl
    have hp : ∀ j : Nat, (at' (setU (setK S1 i (-1)) i 0 0) j).prev = (at' S1 j).prev := fun j => by
      rw [hat j]
      split
      · next e => subst e; rfl
      · rfl
    have hu : ∀ j : Nat, (at' (setU (setK S1 i (-1)) i 0 0) j).used = (at' S j).used := fun j => by
      have := congrArg Prod.fst (hco j)
      rw [hat j]
      split
      · next e => subst e; exact this
      · exact this
    have hs : ∀ j : Nat, (at' (setU (setK S1 i (-1)) i 0 0) j).s = if j = i then { (at' S i).s with us := 0, ub := 0 } else (at' S j).s := fun j => by
      have := congrArg (fun x => x.2.2) (hco j)
      rw [hat j]
      split
      · next e =>
        subst e
        show { (at' S1 j).s with us := 0, ub := 0 } = _
        rw [show (at' S1 j).s = (at' S j).s from this]
      · exact this
    have hk : ∀ j : Nat, (at' (setU (setK S1 i (-1)) i 0 0) j).kids = if j = i then -1 else (at' S j).kids := fun j => by
      have := congrArg (fun x => x.2.1) (hco j)
      rw [hat j]
      split
      · rfl
      · exact this
    refine ⟨by rw [setU_len, hl1], h.n32, fun j hj => (hu j).trans (h.used j hj), fun j hj => ?_, ring_same p3 hn hp, (lastI_snoc _ _).symm, fun j hj => ?_, fun j hj => ?_, fun j hj => ?_, fun j hj k hk' => ?_⟩
    · rw [hs j, ← h.birth j hj]
      split
      · next e => subst e; rfl
      · rfl
    · show Ring _ (if j = i then [] else ch j)
      split
      · exact Ring.nil _
      · exact ring_same (p4 _ (h.ring j hj) (fun x hx => ⟨h.apart hj x hx, fun e => hc j hj (e ▸ hx)⟩)) hn hp
    · show _ = lastI (if j = i then [] else ch j)
      rw [hk j]
      split
      · rfl
      · exact h.kids j hj
    · rw [hs j]
      rcases List.mem_append.1 hj with hj | hj
      · have hne : j ≠ i := fun e => h0 (e ▸ hj)
        rw [if_neg hne]
        exact h.par0 j hj
      · obtain rfl : j = i := by simpa using hj
        rw [if_pos rfl]
        exact ⟨hi, rfl, rfl⟩
    · change k ∈ (if j = i then [] else ch j) at hk'
      split at hk'
      · simp at hk'
      · have hne : k ≠ i := fun e => hc j hj (e ▸ hk')
        rw [hs k, if_neg hne]
        exact h.par j hj k hk'

/-- A slot is hung below another one. -/
theorem Hg.add1 (h : Hg S last n rt ch) {i p : Nat} (hi : i < n) (hp' : p < n) (hpi : p ≠ i) (h0 : i ∉ rt) (hc : ∀ j : Nat, j < n → i ∉ ch j) :
    ∃ S', addT S last i p ((p : Int) + 1) = ⟨0, -1, S', last⟩ ∧ Hg S' last n rt (fun j => if j = i then [] else if j = p then ch p ++ [i] else ch j) := by
  have h32 : i < 32 := Nat.lt_of_lt_of_le hi h.n32
  have hp32 : p < 32 := Nat.lt_of_lt_of_le hp' h.n32
  obtain ⟨S1, p1, p2, p3, p4⟩ := Ring.push h.len (h.ring p hp') h32 (hc p hp')
  have hco : ∀ j : Nat, core (at' S1 j) = core (at' S j) := fun j => by
    have := core_push S (lastI (ch p)) i j
    rwa [p1] at this
  have hl1 : (setK S1 i (-1)).length = 32 := by rw [setK_len, p2]
  have hl2 : (setU (setK S1 i (-1)) i p ((p : Int) + 1)).length = 32 := by rw [setU_len, hl1]
  refine ⟨setK (setU (setK S1 i (-1)) i p ((p : Int) + 1)) p i, ?_, ?_⟩
  · unfold addT
    have hup := h.isUp hp'
    rw [h.usedE hi, if_neg (by omega), if_neg (by omega), if_neg (by omega), if_neg (fun e => e.2 hup)]
    unfold ringOf
    rw [if_neg (show ¬ (p : Int) + 1 = 0 by omega), if_neg (show ¬ (p : Int) + 1 = 0 by omega), h.kids p hp', p1, if_neg (by simp)]
  · have hat : ∀ j : Nat, at' (setK (setU (setK S1 i (-1)) i p ((p : Int) + 1)) p i) j = if j = p then { at' S1 p with kids := i } else if j = i then hung { at' S1 i with kids := -1 } p ((p : Int) + 1) else at' S1 j := fun j => by
      rw [at_setK hl2 hp32, at_setU hl1 h32, at_setU hl1 h32, at_setK p2 h32, at_setK p2 h32, at_setK p2 h32, if_pos rfl, if_neg hpi, if_neg hpi]
      by_cases e1 : j = p
      · rw [if_pos e1, if_pos e1]
      · by_cases e2 : j = i
        · rw [if_neg e1, if_neg e1, if_pos e2, if_pos e2]
        · rw [if_neg e1, if_neg e1, if_neg e2, if_neg e2, if_neg e2]
    have hn : ∀ j : Nat, (at' (setK (setU (setK S1 i (-1)) i p ((p : Int) + 1)) p i) j).next = (at' S1 j).next := fun j => by
      rw [hat j]
      split
      · next e => subst e; rfl
      · split
        · next e => subst e; rfl
        · rfl
    have hp : ∀ j : Nat, (at' (setK (setU (setK S1 i (-1)) i p ((p : Int) + 1)) p i) j).prev = (at' S1 j).prev := fun j => by
      rw [hat j]
      split
      · next e => subst e; rfl
      · split
        · next e => subst e; rfl
        · rfl
    have hu : ∀ j : Nat, (at' (setK (setU (setK S1 i (-1)) i p ((p : Int) + 1)) p i) j).used = (at' S j).used := fun j => by
      have := congrArg Prod.fst (hco j)
      rw [hat j]
      split
      · next e => subst e; exact this
      · split
        · next e => subst e; exact this
        · exact this
    have hs : ∀ j : Nat, (at' (setK (setU (setK S1 i (-1)) i p ((p : Int) + 1)) p i) j).s = if j = i then { (at' S i).s with us := p, ub := (p : Int) + 1 } else (at' S j).s := fun j => by
      have := congrArg (fun x => x.2.2) (hco j)
      rw [hat j]
      by_cases e1 : j = p
      · subst e1
        rw [if_pos rfl, if_neg hpi]
        exact this
      · rw [if_neg e1]
        split
        · next e =>
          subst e
          show { (at' S1 j).s with us := p, ub := (p : Int) + 1 } = _
          rw [show (at' S1 j).s = (at' S j).s from this]
        · exact this
    have hk : ∀ j : Nat, (at' (setK (setU (setK S1 i (-1)) i p ((p : Int) + 1)) p i) j).kids = if j = p then (i : Int) else if j = i then -1 else (at' S j).kids := fun j => by
      have := congrArg (fun x => x.2.1) (hco j)
      rw [hat j]
      split
      · rfl
      · split
        · rfl
        · exact this
    refine ⟨by rw [setK_len, hl2], h.n32, fun j hj => (hu j).trans (h.used j hj), fun j hj => ?_, ring_same (p4 _ h.ring0 (fun x hx => ⟨fun e => h.apart hp' x e hx, fun e => h0 (e ▸ hx)⟩)) hn hp, h.last, fun j hj => ?_, fun j hj => ?_, fun j hj => ?_, fun j hj k hk' => ?_⟩
    · rw [hs j, ← h.birth j hj]
      split
      · next e => subst e; rfl
      · rfl
    · show Ring _ (if j = i then [] else if j = p then ch p ++ [i] else ch j)
      split
      · exact Ring.nil _
      · split
        · exact ring_same p3 hn hp
        · next e => exact ring_same (p4 _ (h.ring j hj) (fun x hx => ⟨h.apart2 hj hp' e x hx, fun e => hc j hj (e ▸ hx)⟩)) hn hp
    · show _ = lastI (if j = i then [] else if j = p then ch p ++ [i] else ch j)
      rw [hk j]
      by_cases e1 : j = p
      · subst e1
        rw [if_pos rfl, if_neg hpi, if_pos rfl, lastI_snoc]
      · rw [if_neg e1, if_neg e1]
        split
        · rfl
        · exact h.kids j hj
    · have hne : j ≠ i := fun e => h0 (e ▸ hj)
      rw [hs j, if_neg hne]
      exact h.par0 j hj
    · change k ∈ (if j = i then [] else if j = p then ch p ++ [i] else ch j) at hk'
      split at hk'
      · simp at hk'
      · split at hk'
        · next e =>
          subst e
          rcases List.mem_append.1 hk' with hk' | hk'
          · have hne : k ≠ i := fun e => hc j hj (e ▸ hk')
            rw [hs k, if_neg hne]
            exact h.par j hj k hk'
          · obtain rfl : k = i := by simpa using hk'
            rw [hs k, if_pos rfl]
            exact ⟨hi, rfl, rfl⟩
        · have hne : k ≠ i := fun e => hc j hj (e ▸ hk')
          rw [hs k, if_neg hne]
          exact h.par j hj k hk'

/-- A root is cut. -/
theorem Hg.cut0 {u v : List Nat} {i : Nat} (h : Hg S last n (u ++ i :: v) ch) :
    ∃ S', cutT S last i = ⟨0, -1, S', lastI (u ++ v)⟩ ∧ Hg S' (lastI (u ++ v)) n (u ++ v) ch := by
  obtain ⟨hi, hus, hub⟩ := h.par0 i (by simp)
  obtain ⟨S1, p1, p2, p3, _, _, p4⟩ := Ring.drop h.len h.ring0
  have hco : ∀ j : Nat, core (at' S1 j) = core (at' S j) := fun j => by
    have := core_drop S (lastI (u ++ i :: v)) i j
    rwa [p1] at this
  have hu : ∀ j : Nat, (at' S1 j).used = (at' S j).used := fun j => congrArg Prod.fst (hco j)
  have hk : ∀ j : Nat, (at' S1 j).kids = (at' S j).kids := fun j => congrArg (fun x => x.2.1) (hco j)
  have hs : ∀ j : Nat, (at' S1 j).s = (at' S j).s := fun j => congrArg (fun x => x.2.2) (hco j)
  refine ⟨S1, ?_, p2, h.n32, fun j hj => (hu j).trans (h.used j hj), fun j hj => by rw [hs j]; exact h.birth j hj, p3, rfl, fun j hj => p4 _ (h.ring j hj) (h.apart hj), fun j hj => (hk j).trans (h.kids j hj), fun j hj => ?_, fun j hj k hk' => ?_⟩
  · unfold cutT cutU
    rw [hus, hub, h.usedE hi, if_neg (by omega), if_neg (by simp)]
    unfold ringOf
    rw [if_pos rfl, if_pos rfl, h.last, p1, if_neg (by simp)]
  · rw [hs j]
    exact h.par0 j (by rcases List.mem_append.1 hj with e | e <;> simp [e])
  · rw [hs k]
    exact h.par j hj k hk'

/-- A slot below another one is cut. -/
theorem Hg.cut1 {u v : List Nat} {i p : Nat} (h : Hg S last n rt ch) (hp' : p < n) (hch : ch p = u ++ i :: v) :
    ∃ S', cutT S last i = ⟨0, -1, S', last⟩ ∧ Hg S' last n rt (fun j => if j = p then u ++ v else ch j) := by
  have hp32 : p < 32 := Nat.lt_of_lt_of_le hp' h.n32
  obtain ⟨hi, hus, hub⟩ := h.par p hp' i (by rw [hch]; simp)
  have hr := h.ring p hp'
  rw [hch] at hr
  obtain ⟨S1, p1, p2, p3, _, _, p4⟩ := Ring.drop h.len hr
  have hco : ∀ j : Nat, core (at' S1 j) = core (at' S j) := fun j => by
    have := core_drop S (lastI (u ++ i :: v)) i j
    rwa [p1] at this
  have hat := fun j : Nat => at_setK p2 hp32 (lastI (u ++ v)) j
  have hn : ∀ j : Nat, (at' (setK S1 p (lastI (u ++ v))) j).next = (at' S1 j).next := fun j => by
    rw [hat j]
    split
    · next e => subst e; rfl
    · rfl
  have hp : ∀ j : Nat, (at' (setK S1 p (lastI (u ++ v))) j).prev = (at' S1 j).prev := fun j => by
    rw [hat j]
    split
    · next e => subst e; rfl
    · rfl
  have hu : ∀ j : Nat, (at' (setK S1 p (lastI (u ++ v))) j).used = (at' S j).used := fun j => by
    have := congrArg Prod.fst (hco j)
    rw [hat j]
    split
    · next e => subst e; exact this
    · exact this
  have hs : ∀ j : Nat, (at' (setK S1 p (lastI (u ++ v))) j).s = (at' S j).s := fun j => by
    have := congrArg (fun x => x.2.2) (hco j)
    rw [hat j]
    split
    · next e => subst e; exact this
    · exact this
  have hk : ∀ j : Nat, (at' (setK S1 p (lastI (u ++ v))) j).kids = if j = p then lastI (u ++ v) else (at' S j).kids := fun j => by
    have := congrArg (fun x => x.2.1) (hco j)
    rw [hat j]
    split
    · rfl
    · exact this
  refine ⟨setK S1 p (lastI (u ++ v)), ?_, by rw [setK_len, p2], h.n32, fun j hj => (hu j).trans (h.used j hj), fun j hj => by rw [hs j]; exact h.birth j hj, ring_same (p4 _ h.ring0 (fun x hx e => h.apart hp' x (by rw [hch]; exact e) hx)) hn hp, h.last, fun j hj => ?_, fun j hj => ?_, fun j hj => by rw [hs j]; exact h.par0 j hj, fun j hj k hk' => ?_⟩
  · have hup := h.isUp hp'
    unfold cutT cutU
    rw [hus, hub, h.usedE hi, if_neg (by omega), if_neg (fun e => e.2 hup)]
    unfold ringOf
    rw [if_neg (show ¬ (p : Int) + 1 = 0 by omega), if_neg (show ¬ (p : Int) + 1 = 0 by omega), h.kids p hp', hch, p1, if_neg (by simp)]
  · show Ring _ (if j = p then u ++ v else ch j)
    split
    · exact ring_same p3 hn hp
    · next e => exact ring_same (p4 _ (h.ring j hj) (fun x hx => by rw [← hch]; exact h.apart2 hj hp' e x hx)) hn hp
  · show _ = lastI (if j = p then u ++ v else ch j)
    rw [hk j]
    split
    · rfl
    · exact h.kids j hj
  · change k ∈ (if j = p then u ++ v else ch j) at hk'
    rw [hs k]
    split at hk'
    · next e =>
      subst e
      exact h.par j hj k (by rw [hch]; rcases List.mem_append.1 hk' with e | e <;> simp [e])
    · exact h.par j hj k hk'

theorem Hg.kidsL (h : Hg S last n rt ch) {i : Nat} (hi : i < n) : kidsL S i = ch i := by
  have := h.n32
  unfold Tr.kidsL
  rw [if_pos (by omega), h.kids i hi]
  exact (h.ring i hi).all

theorem Hg.roots (h : Hg S last n rt ch) : allL S last = rt := by
  rw [h.last]
  exact h.ring0.all
end

/-! ### What is gone through -/

/-- A slot and all below it. -/
def pre (ch : Nat → List Nat) : Nat → Nat → List Nat
  | 0, _ => []
  | f + 1, i => i :: (ch i).flatMap (pre ch f)

theorem pre_ge {ch : Nat → List Nat} {n : Nat} (hlt : ∀ i k, i < n → k ∈ ch i → i < k ∧ k < n) : ∀ (f i : Nat), i < n → ∀ x ∈ pre ch f i, i ≤ x ∧ x < n
  | 0, i, _, x, hx => by simp [pre] at hx
  | f + 1, i, hi, x, hx => by
    unfold pre at hx
    rcases List.mem_cons.1 hx with rfl | hx
    · exact ⟨Nat.le_refl _, hi⟩
    · obtain ⟨k, hk, hx⟩ := List.mem_flatMap.1 hx
      obtain ⟨h1, h2⟩ := hlt i k hi hk
      obtain ⟨h3, h4⟩ := pre_ge hlt f k h2 x hx
      exact ⟨by omega, h4⟩

theorem pre_back {ch : Nat → List Nat} : ∀ (f i : Nat), ∀ x ∈ pre ch f i, x = i ∨ ∃ y ∈ pre ch f i, x ∈ ch y
  | 0, i, x, hx => by simp [pre] at hx
  | f + 1, i, x, hx => by
    unfold pre at hx
    rcases List.mem_cons.1 hx with rfl | hx
    · exact .inl rfl
    · obtain ⟨k, hk, hx⟩ := List.mem_flatMap.1 hx
      refine .inr ?_
      rcases pre_back f k x hx with rfl | ⟨y, hy, hxy⟩
      · exact ⟨i, by unfold pre; simp, hk⟩
      · exact ⟨y, by unfold pre; exact List.mem_cons_of_mem _ (List.mem_flatMap.2 ⟨k, hk, hy⟩), hxy⟩

theorem pre_apart {ch : Nat → List Nat} {n : Nat} (hlt : ∀ i k, i < n → k ∈ ch i → i < k ∧ k < n) (hun : ∀ i j k, i < n → j < n → k ∈ ch i → k ∈ ch j → i = j) {i a b : Nat} (hi : i < n) (ha : a ∈ ch i) (hb : b ∈ ch i) (hab : a ≠ b) (f : Nat) : ∀ N x, x < N → x ∈ pre ch f a → x ∈ pre ch f b → False
  | 0, x, hx, _, _ => by omega
  | N + 1, x, hx, h1, h2 => by
    have a1 := hlt i a hi ha
    have b1 := hlt i b hi hb
    rcases pre_back f a x h1 with rfl | ⟨y, hy, hxy⟩
    · rcases pre_back f b x h2 with e | ⟨z, hz, hxz⟩
      · exact hab e
      · have g := pre_ge hlt f b b1.2 z hz
        have := hun i z x hi g.2 ha hxz
        omega
    · have g1 := pre_ge hlt f a a1.2 y hy
      rcases pre_back f b x h2 with rfl | ⟨z, hz, hxz⟩
      · have := hun i y x hi g1.2 hb hxy
        omega
      · have g2 := pre_ge hlt f b b1.2 z hz
        obtain rfl := hun y z x g1.2 g2.2 hxy hxz
        have := hlt y x g1.2 hxy
        exact pre_apart hlt hun hi ha hb hab f N y (by omega) hy hz

theorem und_pre {S : List Slt} {ch : Nat → List Nat} {n : Nat} (hk : ∀ i : Nat, i < n → kidsL S i = ch i) (hnd : ∀ i, i < n → (ch i).Nodup) (hlt : ∀ i k, i < n → k ∈ ch i → i < k ∧ k < n) (hun : ∀ i j k, i < n → j < n → k ∈ ch i → k ∈ ch j → i = j) : ∀ (f i : Nat) (out : List Nat), i < n → (∀ x ∈ pre ch f i, x ∉ out) → und f S i out = out ++ pre ch f i
  | 0, i, out, _, _ => by simp [und, pre]
  | f + 1, i, out, hi, ho => by
    have hio : i ∉ out := ho i (by unfold pre; simp)
    unfold und
    rw [if_neg hio, hk i hi]
    have key : ∀ (l o : List Nat), (∀ k ∈ l, k ∈ ch i) → l.Nodup → (∀ k ∈ l, ∀ x ∈ pre ch f k, x ∉ o) → l.foldl (fun o k => und f S k o) o = o ++ l.flatMap (pre ch f) := by
      intro l
      induction l with
      | nil => intro o _ _ _; simp
      | cons k r ih =>
        intro o h1 h2 h3
        have hk1 := h1 k (by simp)
        obtain ⟨hkr, hr⟩ := List.nodup_cons.1 h2
        rw [List.foldl_cons, und_pre hk hnd hlt hun f k o (hlt i k hi hk1).2 (h3 k (by simp)), ih _ (fun x hx => h1 x (List.mem_cons_of_mem _ hx)) hr (fun y hy x hx hxo => ?_), List.flatMap_cons, List.append_assoc]
        rcases List.mem_append.1 hxo with hxo | hxo
        · exact h3 y (List.mem_cons_of_mem _ hy) x hx hxo
        · exact pre_apart hlt hun hi (h1 y (List.mem_cons_of_mem _ hy)) hk1 (fun e => hkr (e ▸ hy)) f (x + 1) x (by omega) hx hxo
    rw [key (ch i) (out ++ [i]) (fun k hk => hk) (hnd i hi) (fun k hk x hx hxo => ?_)]
    · show _ = out ++ (i :: (ch i).flatMap (pre ch f))
      simp
    · rcases List.mem_append.1 hxo with hxo | hxo
      · exact ho x (by unfold pre; exact List.mem_cons_of_mem _ (List.mem_flatMap.2 ⟨k, hk, hx⟩)) hxo
      · obtain rfl : x = i := by simpa using hxo
        have h1 := hlt x k hi hk
        have h2 := pre_ge hlt f k h1.2 x hx
        omega

theorem Hg.undL {S : List Slt} {last : Int} {n : Nat} {rt : List Nat} {ch : Nat → List Nat} (h : Hg S last n rt ch) (hlt : ∀ i k, i < n → k ∈ ch i → i < k) {i : Nat} (hi : i < n) : undL S i = pre ch 33 i := by
  have hn := h.n32
  unfold Tr.undL
  rw [if_pos (by omega), Int.toNat_natCast, und_pre (fun i hi => h.kidsL hi) (fun i hi => (h.ring i hi).nd) (fun i k hi hk => ⟨hlt i k hi hk, (h.par i hi k hk).1⟩) (fun i j k hi hj h1 h2 => ?_) 33 i [] hi (by simp), List.nil_append]
  have a := (h.par i hi k h1).2.2
  have b := (h.par j hj k h2).2.2
  omega
end Tr
end Go.Proofs.YtcleeidfiaafcaaDoor
