/- TreQ, TreV, SwpQ, SwpV, in one text. -/
import Derived.Test.YthabnombfbehkaaTreP
import Derived.Test.YthabnombfbehkaaRgP
/- What hangs below what: a tree of rings, and how it is gone through. No program is named here. -/
namespace Go.Proofs.Ythabnombfbehkaa
set_option linter.ambiguousOpen false
open Go.RowKit
namespace Tr
open An Rg Lv
set_option linter.unusedSimpArgs false
set_option linter.unusedVariables false

/-- What of a slot isn't its links. -/
def core (x : Slt) : Bool × Int × Ses := (x.used, x.kids, x.s)

theorem core_set (S : List Slt) (a : Nat) (x : Slt) (hx : core x = core (S.getD a bare)) (j : Nat) : core ((S.set a x).getD j bare) = core (S.getD j bare) := by
  by_cases e : a = j
  · subst e
    by_cases hl : a < S.length
    · rw [List.getD_eq_getElem?_getD, List.getElem?_set_self hl]
      exact hx
    · rw [List.set_eq_of_length_le (by omega)]
  · rw [List.getD_eq_getElem?_getD, List.getElem?_set_ne e, ← List.getD_eq_getElem?_getD]

theorem core_setN (S : List Slt) (i k : Int) (j : Nat) : core ((setN S i k).getD j bare) = core (S.getD j bare) := core_set S i.toNat { S.getD i.toNat bare with next := k } rfl j

theorem core_setP (S : List Slt) (i k : Int) (j : Nat) : core ((setP S i k).getD j bare) = core (S.getD j bare) := core_set S i.toNat { S.getD i.toNat bare with prev := k } rfl j

theorem core_link (S : List Slt) (i k : Int) (j : Nat) : core ((link S i k).getD j bare) = core (S.getD j bare) := (core_setP _ _ _ _).trans (core_setN _ _ _ _)

theorem core_push (S : List Slt) (l i j : Int) : core (at' (push S l i).sl j) = core (at' S j) := by
  unfold push at'
  repeat' split
  all_goals first | rfl | exact core_link _ _ _ _ | exact (core_link _ _ _ _).trans (core_link _ _ _ _)

theorem core_drop (S : List Slt) (l i j : Int) : core (at' (drop S l i).sl j) = core (at' S j) := by
  unfold Rg.drop at'
  repeat' split
  all_goals first | rfl | exact (core_setN _ _ _ _).trans ((core_setP _ _ _ _).trans (core_link _ _ _ _))

theorem at_setK {S : List Slt} (hl : S.length = 32) {i : Nat} (hi : i < 32) (k : Int) (j : Nat) : at' (setK S i k) j = if j = i then { at' S i with kids := k } else at' S j := by
  unfold at' setK
  simp only [Int.toNat_natCast]
  exact get_set hl _ _ _ hi

theorem at_setU {S : List Slt} (hl : S.length = 32) {i : Nat} (hi : i < 32) (us ub : Int) (j : Nat) : at' (setU S i us ub) j = if j = i then hung (at' S i) us ub else at' S j := by
  unfold at' setU
  simp only [Int.toNat_natCast]
  exact get_set hl _ _ _ hi

theorem ring_same {S S' : List Slt} {l : List Nat} (h : Ring S l) (hn : ∀ j : Nat, (at' S' j).next = (at' S j).next) (hp : ∀ j : Nat, (at' S' j).prev = (at' S j).prev) : Ring S' l :=
  ⟨h.nd, h.lt, path_of h.path (fun x y _ _ hxy => ⟨(hn x).trans hxy.1, (hp y).trans hxy.2⟩), fun z a hz ha => ⟨(hn z).trans (h.shut z a hz ha).1, (hp a).trans (h.shut z a hz ha).2⟩⟩

/-- What hangs: the roots, and what hangs below each slot. -/
structure Hg (S : List Slt) (last : Int) (n : Nat) (rt : List Nat) (ch : Nat → List Nat) : Prop where
  len : S.length = 32
  n32 : n ≤ 32
  used : ∀ i : Nat, i < n → (at' S i).used = true
  birth : ∀ i : Nat, i < n → (at' S i).s.birth = (i : Int) + 1
  ring0 : Ring S rt
  last : last = lastI rt
  ring : ∀ j : Nat, j < n → Ring S (ch j)
  kids : ∀ j : Nat, j < n → (at' S j).kids = lastI (ch j)
  par0 : ∀ i ∈ rt, i < n ∧ (at' S i).s.us = 0 ∧ (at' S i).s.ub = 0
  par : ∀ j : Nat, j < n → ∀ i ∈ ch j, i < n ∧ (at' S i).s.us = (j : Int) ∧ (at' S i).s.ub = (j : Int) + 1

section
variable {S : List Slt} {last : Int} {n : Nat} {rt : List Nat} {ch : Nat → List Nat}

theorem Hg.apart (h : Hg S last n rt ch) {j : Nat} (hj : j < n) : ∀ x ∈ ch j, x ∉ rt := fun x hx hr => by
  have h1 := (h.par j hj x hx).2.2
  have h2 := (h.par0 x hr).2.2
  omega

theorem Hg.apart2 (h : Hg S last n rt ch) {j k : Nat} (hj : j < n) (hk : k < n) (hne : j ≠ k) : ∀ x ∈ ch j, x ∉ ch k := fun x hx hr => by
  have h1 := (h.par j hj x hx).2.2
  have h2 := (h.par k hk x hr).2.2
  omega

theorem Hg.usedE (h : Hg S last n rt ch) {i : Nat} (hi : i < n) : usedE S i = 0 := by
  have := h.n32
  unfold Tr.usedE
  rw [if_neg (by omega), if_pos (h.used i hi)]

theorem Hg.isUp (h : Hg S last n rt ch) {i : Nat} (hi : i < n) : isUp S i ((i : Int) + 1) := by
  have := h.n32
  exact ⟨by omega, h.used i hi, h.birth i hi⟩

theorem lastI_snoc (l : List Nat) (i : Nat) : lastI (l ++ [i]) = i := by
  unfold lastI
  simp

/-- A root is hung. -/
theorem Hg.add0 (h : Hg S last n rt ch) {i : Nat} (hi : i < n) (h0 : i ∉ rt) (hc : ∀ j : Nat, j < n → i ∉ ch j) :
    ∃ S', addT S last i 0 0 = ⟨0, -1, S', i⟩ ∧ Hg S' i n (rt ++ [i]) (fun j => if j = i then [] else ch j) := by
  have h32 : i < 32 := Nat.lt_of_lt_of_le hi h.n32
  obtain ⟨S1, p1, p2, p3, p4⟩ := Ring.push h.len h.ring0 h32 h0
  have hco : ∀ j : Nat, core (at' S1 j) = core (at' S j) := fun j => by
    have := core_push S (lastI rt) i j
    rwa [p1] at this
  have hl1 : (setK S1 i (-1)).length = 32 := by rw [setK_len, p2]
  refine ⟨setU (setK S1 i (-1)) i 0 0, ?_, ?_⟩
  · unfold addT
    rw [h.usedE hi, if_neg (by omega), if_neg (by simp), if_neg (by simp), if_neg (by simp)]
    unfold ringOf
    rw [if_pos rfl, if_pos rfl, h.last, p1, if_neg (by simp)]
  · have hat : ∀ j : Nat, at' (setU (setK S1 i (-1)) i 0 0) j = if j = i then hung { at' S1 i with kids := -1 } 0 0 else at' S1 j := fun j => by
      rw [at_setU hl1 h32, at_setK p2 h32, at_setK p2 h32, if_pos rfl]
      split <;> rfl
    have hn : ∀ j : Nat, (at' (setU (setK S1 i (-1)) i 0 0) j).next = (at' S1 j).next := fun j => by
      rw [hat j]
      split
      · next e => subst e; rfl
      · rfl
    have hp : ∀ j : Nat, (at' (setU (setK S1 i (-1)) i 0 0) j).prev = (at' S1 j).prev := fun j => by
      rw [hat j]
      split
      · next e => subst e; rfl
      · rfl
    have hu : ∀ j : Nat, (at' (setU (setK S1 i (-1)) i 0 0) j).used = (at' S j).used := fun j => by
      have := congrArg Prod.fst (hco j)
      rw [hat j]
      split
      · next e => subst e; exact this
      · exact this
    have hs : ∀ j : Nat, (at' (setU (setK S1 i (-1)) i 0 0) j).s = if j = i then { (at' S i).s with us := 0, ub := 0 } else (at' S j).s := fun j => by
      have := congrArg (fun x => x.2.2) (hco j)
      rw [hat j]
      split
      · next e =>
        subst e
        show { (at' S1 j).s with us := 0, ub := 0 } = _
        rw [show (at' S1 j).s = (at' S j).s from this]
      · exact this
    have hk : ∀ j : Nat, (at' (setU (setK S1 i (-1)) i 0 0) j).kids = if j = i then -1 else (at' S j).kids := fun j => by
      have := congrArg (fun x => x.2.1) (hco j)
      rw [hat j]
      split
      · rfl
      · exact this
    refine ⟨by rw [setU_len, hl1], h.n32, fun j hj => (hu j).trans (h.used j hj), fun j hj => ?_, ring_same p3 hn hp, (lastI_snoc _ _).symm, fun j hj => ?_, fun j hj => ?_, fun j hj => ?_, fun j hj k hk' => ?_⟩
    · rw [hs j, ← h.birth j hj]
      split
      · next e => subst e; rfl
      · rfl
    · show Ring _ (if j = i then [] else ch j)
      split
      · exact Ring.nil _
      · exact ring_same (p4 _ (h.ring j hj) (fun x hx => ⟨h.apart hj x hx, fun e => hc j hj (e ▸ hx)⟩)) hn hp
    · show _ = lastI (if j = i then [] else ch j)
      rw [hk j]
      split
      · rfl
      · exact h.kids j hj
    · rw [hs j]
      rcases List.mem_append.1 hj with hj | hj
      · have hne : j ≠ i := fun e => h0 (e ▸ hj)
        rw [if_neg hne]
        exact h.par0 j hj
      · obtain rfl : j = i := by simpa using hj
        rw [if_pos rfl]
        exact ⟨hi, rfl, rfl⟩
    · change k ∈ (if j = i then [] else ch j) at hk'
      split at hk'
      · simp at hk'
      · have hne : k ≠ i := fun e => hc j hj (e ▸ hk')
        rw [hs k, if_neg hne]
        exact h.par j hj k hk'

/-- A slot is hung below another one. -/
theorem Hg.add1 (h : Hg S last n rt ch) {i p : Nat} (hi : i < n) (hp' : p < n) (hpi : p ≠ i) (h0 : i ∉ rt) (hc : ∀ j : Nat, j < n → i ∉ ch j) :
    ∃ S', addT S last i p ((p : Int) + 1) = ⟨0, -1, S', last⟩ ∧ Hg S' last n rt (fun j => if j = i then [] else if j = p then ch p ++ [i] else ch j) := by
  have h32 : i < 32 := Nat.lt_of_lt_of_le hi h.n32
  have hp32 : p < 32 := Nat.lt_of_lt_of_le hp' h.n32
  obtain ⟨S1, p1, p2, p3, p4⟩ := Ring.push h.len (h.ring p hp') h32 (hc p hp')
  have hco : ∀ j : Nat, core (at' S1 j) = core (at' S j) := fun j => by
    have := core_push S (lastI (ch p)) i j
    rwa [p1] at this
  have hl1 : (setK S1 i (-1)).length = 32 := by rw [setK_len, p2]
  have hl2 : (setU (setK S1 i (-1)) i p ((p : Int) + 1)).length = 32 := by rw [setU_len, hl1]
  refine ⟨setK (setU (setK S1 i (-1)) i p ((p : Int) + 1)) p i, ?_, ?_⟩
  · unfold addT
    have hup := h.isUp hp'
    rw [h.usedE hi, if_neg (by omega), if_neg (by omega), if_neg (by omega), if_neg (fun e => e.2 hup)]
    unfold ringOf
    rw [if_neg (show ¬ (p : Int) + 1 = 0 by omega), if_neg (show ¬ (p : Int) + 1 = 0 by omega), h.kids p hp', p1, if_neg (by simp)]
  · have hat : ∀ j : Nat, at' (setK (setU (setK S1 i (-1)) i p ((p : Int) + 1)) p i) j = if j = p then { at' S1 p with kids := i } else if j = i then hung { at' S1 i with kids := -1 } p ((p : Int) + 1) else at' S1 j := fun j => by
      rw [at_setK hl2 hp32, at_setU hl1 h32, at_setU hl1 h32, at_setK p2 h32, at_setK p2 h32, at_setK p2 h32, if_pos rfl, if_neg hpi, if_neg hpi]
      by_cases e1 : j = p
      · rw [if_pos e1, if_pos e1]
      · by_cases e2 : j = i
        · rw [if_neg e1, if_neg e1, if_pos e2, if_pos e2]
        · rw [if_neg e1, if_neg e1, if_neg e2, if_neg e2, if_neg e2]
    have hn : ∀ j : Nat, (at' (setK (setU (setK S1 i (-1)) i p ((p : Int) + 1)) p i) j).next = (at' S1 j).next := fun j => by
      rw [hat j]
      split
      · next e => subst e; rfl
      · split
        · next e => subst e; rfl
        · rfl
    have hp : ∀ j : Nat, (at' (setK (setU (setK S1 i (-1)) i p ((p : Int) + 1)) p i) j).prev = (at' S1 j).prev := fun j => by
      rw [hat j]
      split
      · next e => subst e; rfl
      · split
        · next e => subst e; rfl
        · rfl
    have hu : ∀ j : Nat, (at' (setK (setU (setK S1 i (-1)) i p ((p : Int) + 1)) p i) j).used = (at' S j).used := fun j => by
      have := congrArg Prod.fst (hco j)
      rw [hat j]
      split
      · next e => subst e; exact this
      · split
        · next e => subst e; exact this
        · exact this
    have hs : ∀ j : Nat, (at' (setK (setU (setK S1 i (-1)) i p ((p : Int) + 1)) p i) j).s = if j = i then { (at' S i).s with us := p, ub := (p : Int) + 1 } else (at' S j).s := fun j => by
      have := congrArg (fun x => x.2.2) (hco j)
      rw [hat j]
      by_cases e1 : j = p
      · subst e1
        rw [if_pos rfl, if_neg hpi]
        exact this
      · rw [if_neg e1]
        split
        · next e =>
          subst e
          show { (at' S1 j).s with us := p, ub := (p : Int) + 1 } = _
          rw [show (at' S1 j).s = (at' S j).s from this]
        · exact this
    have hk : ∀ j : Nat, (at' (setK (setU (setK S1 i (-1)) i p ((p : Int) + 1)) p i) j).kids = if j = p then (i : Int) else if j = i then -1 else (at' S j).kids := fun j => by
      have := congrArg (fun x => x.2.1) (hco j)
      rw [hat j]
      split
      · rfl
      · split
        · rfl
        · exact this
    refine ⟨by rw [setK_len, hl2], h.n32, fun j hj => (hu j).trans (h.used j hj), fun j hj => ?_, ring_same (p4 _ h.ring0 (fun x hx => ⟨fun e => h.apart hp' x e hx, fun e => h0 (e ▸ hx)⟩)) hn hp, h.last, fun j hj => ?_, fun j hj => ?_, fun j hj => ?_, fun j hj k hk' => ?_⟩
    · rw [hs j, ← h.birth j hj]
      split
      · next e => subst e; rfl
      · rfl
    · show Ring _ (if j = i then [] else if j = p then ch p ++ [i] else ch j)
      split
      · exact Ring.nil _
      · split
        · exact ring_same p3 hn hp
        · next e => exact ring_same (p4 _ (h.ring j hj) (fun x hx => ⟨h.apart2 hj hp' e x hx, fun e => hc j hj (e ▸ hx)⟩)) hn hp
    · show _ = lastI (if j = i then [] else if j = p then ch p ++ [i] else ch j)
      rw [hk j]
      by_cases e1 : j = p
      · subst e1
        rw [if_pos rfl, if_neg hpi, if_pos rfl, lastI_snoc]
      · rw [if_neg e1, if_neg e1]
        split
        · rfl
        · exact h.kids j hj
    · have hne : j ≠ i := fun e => h0 (e ▸ hj)
      rw [hs j, if_neg hne]
      exact h.par0 j hj
    · change k ∈ (if j = i then [] else if j = p then ch p ++ [i] else ch j) at hk'
      split at hk'
      · simp at hk'
      · split at hk'
        · next e =>
          subst e
          rcases List.mem_append.1 hk' with hk' | hk'
          · have hne : k ≠ i := fun e => hc j hj (e ▸ hk')
            rw [hs k, if_neg hne]
            exact h.par j hj k hk'
          · obtain rfl : k = i := by simpa using hk'
            rw [hs k, if_pos rfl]
            exact ⟨hi, rfl, rfl⟩
        · have hne : k ≠ i := fun e => hc j hj (e ▸ hk')
          rw [hs k, if_neg hne]
          exact h.par j hj k hk'

/-- A root is cut. -/
theorem Hg.cut0 {u v : List Nat} {i : Nat} (h : Hg S last n (u ++ i :: v) ch) :
    ∃ S', cutT S last i = ⟨0, -1, S', lastI (u ++ v)⟩ ∧ Hg S' (lastI (u ++ v)) n (u ++ v) ch := by
  obtain ⟨hi, hus, hub⟩ := h.par0 i (by simp)
  obtain ⟨S1, p1, p2, p3, _, _, p4⟩ := Ring.drop h.len h.ring0
  have hco : ∀ j : Nat, core (at' S1 j) = core (at' S j) := fun j => by
    have := core_drop S (lastI (u ++ i :: v)) i j
    rwa [p1] at this
  have hu : ∀ j : Nat, (at' S1 j).used = (at' S j).used := fun j => congrArg Prod.fst (hco j)
  have hk : ∀ j : Nat, (at' S1 j).kids = (at' S j).kids := fun j => congrArg (fun x => x.2.1) (hco j)
  have hs : ∀ j : Nat, (at' S1 j).s = (at' S j).s := fun j => congrArg (fun x => x.2.2) (hco j)
  refine ⟨S1, ?_, p2, h.n32, fun j hj => (hu j).trans (h.used j hj), fun j hj => by rw [hs j]; exact h.birth j hj, p3, rfl, fun j hj => p4 _ (h.ring j hj) (h.apart hj), fun j hj => (hk j).trans (h.kids j hj), fun j hj => ?_, fun j hj k hk' => ?_⟩
  · unfold cutT cutU
    rw [hus, hub, h.usedE hi, if_neg (by omega), if_neg (by simp)]
    unfold ringOf
    rw [if_pos rfl, if_pos rfl, h.last, p1, if_neg (by simp)]
  · rw [hs j]
    exact h.par0 j (by rcases List.mem_append.1 hj with e | e <;> simp [e])
  · rw [hs k]
    exact h.par j hj k hk'

/-- A slot below another one is cut. -/
theorem Hg.cut1 {u v : List Nat} {i p : Nat} (h : Hg S last n rt ch) (hp' : p < n) (hch : ch p = u ++ i :: v) :
    ∃ S', cutT S last i = ⟨0, -1, S', last⟩ ∧ Hg S' last n rt (fun j => if j = p then u ++ v else ch j) := by
  have hp32 : p < 32 := Nat.lt_of_lt_of_le hp' h.n32
  obtain ⟨hi, hus, hub⟩ := h.par p hp' i (by rw [hch]; simp)
  have hr := h.ring p hp'
  rw [hch] at hr
  obtain ⟨S1, p1, p2, p3, _, _, p4⟩ := Ring.drop h.len hr
  have hco : ∀ j : Nat, core (at' S1 j) = core (at' S j) := fun j => by
    have := core_drop S (lastI (u ++ i :: v)) i j
    rwa [p1] at this
  have hat := fun j : Nat => at_setK p2 hp32 (lastI (u ++ v)) j
  have hn : ∀ j : Nat, (at' (setK S1 p (lastI (u ++ v))) j).next = (at' S1 j).next := fun j => by
    rw [hat j]
    split
    · next e => subst e; rfl
    · rfl
  have hp : ∀ j : Nat, (at' (setK S1 p (lastI (u ++ v))) j).prev = (at' S1 j).prev := fun j => by
    rw [hat j]
    split
    · next e => subst e; rfl
    · rfl
  have hu : ∀ j : Nat, (at' (setK S1 p (lastI (u ++ v))) j).used = (at' S j).used := fun j => by
    have := congrArg Prod.fst (hco j)
    rw [hat j]
    split
    · next e => subst e; exact this
    · exact this
  have hs : ∀ j : Nat, (at' (setK S1 p (lastI (u ++ v))) j).s = (at' S j).s := fun j => by
    have := congrArg (fun x => x.2.2) (hco j)
    rw [hat j]
    split
    · next e => subst e; exact this
    · exact this
  have hk : ∀ j : Nat, (at' (setK S1 p (lastI (u ++ v))) j).kids = if j = p then lastI (u ++ v) else (at' S j).kids := fun j => by
    have := congrArg (fun x => x.2.1) (hco j)
    rw [hat j]
    split
    · rfl
    · exact this
  refine ⟨setK S1 p (lastI (u ++ v)), ?_, by rw [setK_len, p2], h.n32, fun j hj => (hu j).trans (h.used j hj), fun j hj => by rw [hs j]; exact h.birth j hj, ring_same (p4 _ h.ring0 (fun x hx e => h.apart hp' x (by rw [hch]; exact e) hx)) hn hp, h.last, fun j hj => ?_, fun j hj => ?_, fun j hj => by rw [hs j]; exact h.par0 j hj, fun j hj k hk' => ?_⟩
  · have hup := h.isUp hp'
    unfold cutT cutU
    rw [hus, hub, h.usedE hi, if_neg (by omega), if_neg (fun e => e.2 hup)]
    unfold ringOf
    rw [if_neg (show ¬ (p : Int) + 1 = 0 by omega), if_neg (show ¬ (p : Int) + 1 = 0 by omega), h.kids p hp', hch, p1, if_neg (by simp)]
  · show Ring _ (if j = p then u ++ v else ch j)
    split
    · exact ring_same p3 hn hp
    · next e => exact ring_same (p4 _ (h.ring j hj) (fun x hx => by rw [← hch]; exact h.apart2 hj hp' e x hx)) hn hp
  · show _ = lastI (if j = p then u ++ v else ch j)
    rw [hk j]
    split
    · rfl
    · exact h.kids j hj
  · change k ∈ (if j = p then u ++ v else ch j) at hk'
    rw [hs k]
    split at hk'
    · next e =>
      subst e
      exact h.par j hj k (by rw [hch]; rcases List.mem_append.1 hk' with e | e <;> simp [e])
    · exact h.par j hj k hk'

theorem Hg.kidsL (h : Hg S last n rt ch) {i : Nat} (hi : i < n) : kidsL S i = ch i := by
  have := h.n32
  unfold Tr.kidsL
  rw [if_pos (by omega), h.kids i hi]
  exact (h.ring i hi).all

theorem Hg.roots (h : Hg S last n rt ch) : allL S last = rt := by
  rw [h.last]
  exact h.ring0.all
end

/-! ### What is gone through -/

/-- A slot and all below it. -/
def pre (ch : Nat → List Nat) : Nat → Nat → List Nat
  | 0, _ => []
  | f + 1, i => i :: (ch i).flatMap (pre ch f)

theorem pre_ge {ch : Nat → List Nat} {n : Nat} (hlt : ∀ i k, i < n → k ∈ ch i → i < k ∧ k < n) : ∀ (f i : Nat), i < n → ∀ x ∈ pre ch f i, i ≤ x ∧ x < n
  | 0, i, _, x, hx => by simp [pre] at hx
  | f + 1, i, hi, x, hx => by
    unfold pre at hx
    rcases List.mem_cons.1 hx with rfl | hx
    · exact ⟨Nat.le_refl _, hi⟩
    · obtain ⟨k, hk, hx⟩ := List.mem_flatMap.1 hx
      obtain ⟨h1, h2⟩ := hlt i k hi hk
      obtain ⟨h3, h4⟩ := pre_ge hlt f k h2 x hx
      exact ⟨by omega, h4⟩

theorem pre_back {ch : Nat → List Nat} : ∀ (f i : Nat), ∀ x ∈ pre ch f i, x = i ∨ ∃ y ∈ pre ch f i, x ∈ ch y
  | 0, i, x, hx => by simp [pre] at hx
  | f + 1, i, x, hx => by
    unfold pre at hx
    rcases List.mem_cons.1 hx with rfl | hx
    · exact .inl rfl
    · obtain ⟨k, hk, hx⟩ := List.mem_flatMap.1 hx
      refine .inr ?_
      rcases pre_back f k x hx with rfl | ⟨y, hy, hxy⟩
      · exact ⟨i, by unfold pre; simp, hk⟩
      · exact ⟨y, by unfold pre; exact List.mem_cons_of_mem _ (List.mem_flatMap.2 ⟨k, hk, hy⟩), hxy⟩

theorem pre_apart {ch : Nat → List Nat} {n : Nat} (hlt : ∀ i k, i < n → k ∈ ch i → i < k ∧ k < n) (hun : ∀ i j k, i < n → j < n → k ∈ ch i → k ∈ ch j → i = j) {i a b : Nat} (hi : i < n) (ha : a ∈ ch i) (hb : b ∈ ch i) (hab : a ≠ b) (f : Nat) : ∀ N x, x < N → x ∈ pre ch f a → x ∈ pre ch f b → False
  | 0, x, hx, _, _ => by omega
  | N + 1, x, hx, h1, h2 => by
    have a1 := hlt i a hi ha
    have b1 := hlt i b hi hb
    rcases pre_back f a x h1 with rfl | ⟨y, hy, hxy⟩
    · rcases pre_back f b x h2 with e | ⟨z, hz, hxz⟩
      · exact hab e
      · have g := pre_ge hlt f b b1.2 z hz
        have := hun i z x hi g.2 ha hxz
        omega
    · have g1 := pre_ge hlt f a a1.2 y hy
      rcases pre_back f b x h2 with rfl | ⟨z, hz, hxz⟩
      · have := hun i y x hi g1.2 hb hxy
        omega
      · have g2 := pre_ge hlt f b b1.2 z hz
        obtain rfl := hun y z x g1.2 g2.2 hxy hxz
        have := hlt y x g1.2 hxy
        exact pre_apart hlt hun hi ha hb hab f N y (by omega) hy hz

theorem und_pre {S : List Slt} {ch : Nat → List Nat} {n : Nat} (hk : ∀ i : Nat, i < n → kidsL S i = ch i) (hnd : ∀ i, i < n → (ch i).Nodup) (hlt : ∀ i k, i < n → k ∈ ch i → i < k ∧ k < n) (hun : ∀ i j k, i < n → j < n → k ∈ ch i → k ∈ ch j → i = j) : ∀ (f i : Nat) (out : List Nat), i < n → (∀ x ∈ pre ch f i, x ∉ out) → und f S i out = out ++ pre ch f i
  | 0, i, out, _, _ => by simp [und, pre]
  | f + 1, i, out, hi, ho => by
    have hio : i ∉ out := ho i (by unfold pre; simp)
    unfold und
    rw [if_neg hio, hk i hi]
    have key : ∀ (l o : List Nat), (∀ k ∈ l, k ∈ ch i) → l.Nodup → (∀ k ∈ l, ∀ x ∈ pre ch f k, x ∉ o) → l.foldl (fun o k => und f S k o) o = o ++ l.flatMap (pre ch f) := by
      intro l
      induction l with
      | nil => intro o _ _ _; simp
      | cons k r ih =>
        intro o h1 h2 h3
        have hk1 := h1 k (by simp)
        obtain ⟨hkr, hr⟩ := List.nodup_cons.1 h2
        rw [List.foldl_cons, und_pre hk hnd hlt hun f k o (hlt i k hi hk1).2 (h3 k (by simp)), ih _ (fun x hx => h1 x (List.mem_cons_of_mem _ hx)) hr (fun y hy x hx hxo => ?_), List.flatMap_cons, List.append_assoc]
        rcases List.mem_append.1 hxo with hxo | hxo
        · exact h3 y (List.mem_cons_of_mem _ hy) x hx hxo
        · exact pre_apart hlt hun hi (h1 y (List.mem_cons_of_mem _ hy)) hk1 (fun e => hkr (e ▸ hy)) f (x + 1) x (by omega) hx hxo
    rw [key (ch i) (out ++ [i]) (fun k hk => hk) (hnd i hi) (fun k hk x hx hxo => ?_)]
    · show _ = out ++ (i :: (ch i).flatMap (pre ch f))
      simp
    · rcases List.mem_append.1 hxo with hxo | hxo
      · exact ho x (by unfold pre; exact List.mem_cons_of_mem _ (List.mem_flatMap.2 ⟨k, hk, hx⟩)) hxo
      · obtain rfl : x = i := by simpa using hxo
        have h1 := hlt x k hi hk
        have h2 := pre_ge hlt f k h1.2 x hx
        omega

theorem Hg.undL {S : List Slt} {last : Int} {n : Nat} {rt : List Nat} {ch : Nat → List Nat} (h : Hg S last n rt ch) (hlt : ∀ i k, i < n → k ∈ ch i → i < k) {i : Nat} (hi : i < n) : undL S i = pre ch 33 i := by
  have hn := h.n32
  unfold Tr.undL
  rw [if_pos (by omega), Int.toNat_natCast, und_pre (fun i hi => h.kidsL hi) (fun i hi => (h.ring i hi).nd) (fun i k hi hk => ⟨hlt i k hi hk, (h.par i hi k hk).1⟩) (fun i j k hi hj h1 h2 => ?_) 33 i [] hi (by simp), List.nil_append]
  have a := (h.par i hi k h1).2.2
  have b := (h.par j hj k h2).2.2
  omega
end Tr
end Go.Proofs.Ythabnombfbehkaa
/- What hangs, as parents were chosen. No program is named here. -/
namespace Go.Proofs.Ythabnombfbehkaa
set_option linter.ambiguousOpen false
open Go.RowKit
namespace Tr
open An Rg Lv
set_option linter.unusedSimpArgs false
set_option linter.unusedVariables false

/-- The children of a slot, without what is cut. -/
def kidsU (up : List Int) (i cut : Int) : List Nat := (List.range up.length).filter (fun k => decide (up.getD k 0 = i ∧ (k : Int) ≠ cut))

theorem mem_kidsU {up : List Int} {i cut : Int} {k : Nat} : k ∈ kidsU up i cut ↔ k < up.length ∧ up.getD k 0 = i ∧ (k : Int) ≠ cut := by
  unfold kidsU
  simp

theorem kidsU_snoc (up : List Int) (p i cut : Int) : kidsU (up ++ [p]) i cut = kidsU up i cut ++ (if p = i ∧ (up.length : Int) ≠ cut then [up.length] else []) := by
  unfold kidsU
  rw [List.length_append, List.length_singleton, List.range_succ, List.filter_append]
  congr 1
  · refine List.filter_congr (fun k hk => ?_)
    have hk' : k < up.length := by simpa using hk
    rw [List.getD_eq_getElem?_getD, List.getElem?_append_left hk', ← List.getD_eq_getElem?_getD]
  · have e : (up ++ [p]).getD up.length 0 = p := by simp [List.getD_eq_getElem?_getD]
    by_cases h : p = i ∧ (up.length : Int) ≠ cut
    · rw [if_pos h, List.filter_cons_of_pos (by rw [e]; simpa using h), List.filter_nil]
    · rw [if_neg h, List.filter_cons_of_neg (by rw [e]; simpa using h), List.filter_nil]

/-- Parents are roots, or ahead. -/
def Ups (up : List Int) : Prop := ∀ k, k < up.length → -1 ≤ up.getD k 0 ∧ up.getD k 0 < k

theorem Ups.snoc {up : List Int} (h : Ups up) {p : Int} (hp : -1 ≤ p ∧ p < up.length) : Ups (up ++ [p]) := fun k hk => by
  by_cases e : k < up.length
  · rw [List.getD_eq_getElem?_getD, List.getElem?_append_left e, ← List.getD_eq_getElem?_getD]
    exact h k e
  · have : k = up.length := by simp at hk; omega
    subst this
    simpa [List.getD_eq_getElem?_getD] using hp

theorem kidsU_none {up : List Int} (h : Ups up) {i : Nat} (hi : up.length ≤ i + 1) (cut : Int) : kidsU up i cut = [] := by
  refine List.eq_nil_iff_forall_not_mem.2 (fun k hk => ?_)
  obtain ⟨h1, h2, _⟩ := mem_kidsU.1 hk
  have := h k h1
  omega

/-- What is hung at, and its birth. -/
def linkS (p : Int) : Int := if 0 ≤ p then p else 0

def linkB (p : Int) : Int := if 0 ≤ p then p + 1 else 0

theorem hang_add {S : List Slt} {last : Int} {n : Nat} {up : List Int} (h : Hg S last n (kidsU up (-1) (-1)) (fun j => kidsU up j (-1))) (hu : Ups up) (hi : up.length < n) {p : Int} (hp : -1 ≤ p ∧ p < up.length) :
    ∃ S' last', addT S last up.length (linkS p) (linkB p) = ⟨0, -1, S', last'⟩ ∧ Hg S' last' n (kidsU (up ++ [p]) (-1) (-1)) (fun j => kidsU (up ++ [p]) j (-1)) := by
  have hno : ∀ i : Int, up.length ∉ kidsU up i (-1) := fun i hm => by
    have := (mem_kidsU.1 hm).1
    omega
  have hnn : (up.length : Int) ≠ -1 := by omega
  unfold linkS linkB
  by_cases hp0 : 0 ≤ p
  · obtain ⟨q, rfl⟩ := Int.eq_ofNat_of_zero_le hp0
    rw [if_pos hp0, if_pos hp0]
    have hq : q < up.length := by omega
    obtain ⟨S', e1, e2⟩ := h.add1 (i := up.length) (p := q) hi (by omega) (by omega) (hno _) (fun j _ => hno _)
    refine ⟨S', last, e1, ?_⟩
    have a1 : kidsU (up ++ [(q : Int)]) (-1) (-1) = kidsU up (-1) (-1) := by
      rw [kidsU_snoc, if_neg (by omega), List.append_nil]
    have a2 : (fun j : Nat => kidsU (up ++ [(q : Int)]) j (-1)) = (fun j : Nat => if j = up.length then [] else if j = q then kidsU up q (-1) ++ [up.length] else kidsU up j (-1)) := by
      funext j
      by_cases j1 : j = up.length
      · rw [if_pos j1, j1]
        exact kidsU_none (hu.snoc hp) (by simp) _
      · rw [if_neg j1, kidsU_snoc]
        by_cases j2 : j = q
        · rw [if_pos j2, if_pos ⟨by omega, hnn⟩, j2]
        · rw [if_neg j2, if_neg (by omega), List.append_nil]
    rw [a1, a2]
    exact e2
  · obtain rfl : p = -1 := by omega
    rw [if_neg hp0, if_neg hp0]
    obtain ⟨S', e1, e2⟩ := h.add0 (i := up.length) hi (hno _) (fun j _ => hno _)
    refine ⟨S', _, e1, ?_⟩
    have a1 : kidsU (up ++ [-1]) (-1) (-1) = kidsU up (-1) (-1) ++ [up.length] := by
      rw [kidsU_snoc, if_pos ⟨rfl, hnn⟩]
    have a2 : (fun j : Nat => kidsU (up ++ [(-1 : Int)]) j (-1)) = (fun j : Nat => if j = up.length then [] else kidsU up j (-1)) := by
      funext j
      by_cases j1 : j = up.length
      · rw [if_pos j1, j1]
        exact kidsU_none (hu.snoc hp) (by simp) _
      · rw [if_neg j1, kidsU_snoc, if_neg (by omega), List.append_nil]
    rw [a1, a2]
    exact e2

theorem kidsU_off {up : List Int} {i : Int} {c : Nat} (h : up.getD c 0 ≠ i) : kidsU up i c = kidsU up i (-1) := by
  unfold kidsU
  refine List.filter_congr (fun k hk => ?_)
  by_cases e : k = c
  · subst e
    rw [decide_eq_false (fun e => h e.1), decide_eq_false (fun e => h e.1)]
  · have e1 : (k : Int) ≠ c := by omega
    have e2 : (k : Int) ≠ -1 := by omega
    simp [e1, e2]

theorem filter_out {l : List Nat} (hnd : l.Nodup) {c : Nat} (hc : c ∈ l) : ∃ u v, l = u ++ c :: v ∧ l.filter (fun k => decide (k ≠ c)) = u ++ v := by
  obtain ⟨u, v, rfl⟩ := List.append_of_mem hc
  refine ⟨u, v, rfl, ?_⟩
  have hu : c ∉ u := fun e => by
    have := (List.nodup_append.1 hnd).2.2 c e c (by simp)
    exact this rfl
  have hv : c ∉ v := (List.nodup_cons.1 (List.nodup_append.1 hnd).2.1).1
  rw [List.filter_append, List.filter_cons_of_neg (by simp), List.filter_eq_self.2 (fun a ha => decide_eq_true (show a ≠ c from fun e => hu (e ▸ ha))), List.filter_eq_self.2 (fun a ha => decide_eq_true (show a ≠ c from fun e => hv (e ▸ ha)))]

theorem kidsU_cut (up : List Int) (i : Int) (c : Nat) : kidsU up i c = (kidsU up i (-1)).filter (fun k => decide (k ≠ c)) := by
  unfold kidsU
  rw [List.filter_filter]
  refine List.filter_congr (fun k hk => ?_)
  have e2 : (k : Int) ≠ -1 := by omega
  by_cases e : k = c
  · subst e
    simp
  · have e1 : (k : Int) ≠ c := by omega
    simp [e, e1, e2]

theorem kidsU_nd (up : List Int) (i cut : Int) : (kidsU up i cut).Nodup := List.Nodup.sublist List.filter_sublist List.nodup_range

theorem kidsU_split {up : List Int} {c : Nat} (hc : c < up.length) : ∃ u v, kidsU up (up.getD c 0) (-1) = u ++ c :: v ∧ kidsU up (up.getD c 0) c = u ++ v := by
  obtain ⟨u, v, h1, h2⟩ := filter_out (kidsU_nd up (up.getD c 0) (-1)) (c := c) (mem_kidsU.2 ⟨hc, rfl, by omega⟩)
  exact ⟨u, v, h1, (kidsU_cut _ _ _).trans h2⟩

theorem hang_cut {S : List Slt} {last : Int} {n : Nat} {up : List Int} (h : Hg S last n (kidsU up (-1) (-1)) (fun j => kidsU up j (-1))) (hu : Ups up) (hn : up.length = n) {c : Nat} (hc : c < n) :
    ∃ S' last', cutT S last c = ⟨0, -1, S', last'⟩ ∧ Hg S' last' n (kidsU up (-1) c) (fun j => kidsU up j c) := by
  obtain ⟨u, v, h1, h2⟩ := kidsU_split (up := up) (c := c) (by omega)
  have hb := hu c (by omega)
  by_cases hp0 : 0 ≤ up.getD c 0
  · obtain ⟨q, hq⟩ := Int.eq_ofNat_of_zero_le hp0
    have hqc : q < c := by omega
    rw [hq] at h1 h2
    obtain ⟨S', e1, e2⟩ := h.cut1 (i := c) (p := q) (u := u) (v := v) (by omega) h1
    refine ⟨S', last, e1, ?_⟩
    have a1 : kidsU up (-1) c = kidsU up (-1) (-1) := kidsU_off (by omega)
    have a2 : (fun j : Nat => kidsU up j c) = (fun j : Nat => if j = q then u ++ v else kidsU up j (-1)) := by
      funext j
      by_cases j2 : j = q
      · rw [if_pos j2, j2]
        exact h2
      · rw [if_neg j2]
        exact kidsU_off (by omega)
    rw [a1, a2]
    exact e2
  · have hq : up.getD c 0 = -1 := by omega
    rw [hq] at h1 h2
    rw [h1] at h
    obtain ⟨S', e1, e2⟩ := h.cut0
    refine ⟨S', _, e1, ?_⟩
    have a2 : (fun j : Nat => kidsU up j c) = (fun j : Nat => kidsU up j (-1)) := by
      funext j
      exact kidsU_off (by omega)
    rw [h2, a2]
    exact e2

theorem hang_again {S : List Slt} {last : Int} {n : Nat} {up : List Int} {c : Nat} (h : Hg S last n (kidsU up (-1) c) (fun j => kidsU up j c)) (hu : Ups up) (hn : up.length = n) (hc : c < n) :
    ∃ S' last', addT S last c (linkS (up.getD c 0)) (linkB (up.getD c 0)) = ⟨0, -1, S', last'⟩ ∧ kidsL S' c = [] ∧ (up.getD c 0 < 0 → last' = c ∧ allL S' last' = kidsU up (-1) c ++ [c]) ∧ (0 ≤ up.getD c 0 → kidsL S' (up.getD c 0) = kidsU up (up.getD c 0) c ++ [c]) := by
  have hno : ∀ i : Int, c ∉ kidsU up i c := fun i hm => (mem_kidsU.1 hm).2.2 rfl
  have hb := hu c (by omega)
  unfold linkS linkB
  by_cases hp0 : 0 ≤ up.getD c 0
  · obtain ⟨q, hq⟩ := Int.eq_ofNat_of_zero_le hp0
    have hqc : q < c := by omega
    rw [if_pos hp0, if_pos hp0, hq]
    obtain ⟨S', e1, e2⟩ := h.add1 (i := c) (p := q) hc (by omega) (by omega) (hno _) (fun j _ => hno _)
    refine ⟨S', last, e1, ?_, by omega, fun _ => ?_⟩
    · rw [e2.kidsL hc, if_pos rfl]
    · show Tr.kidsL S' ((q : Nat) : Int) = _
      rw [e2.kidsL (i := q) (by omega), if_neg (by omega), if_pos rfl]
  · rw [if_neg hp0, if_neg hp0]
    obtain ⟨S', e1, e2⟩ := h.add0 (i := c) hc (hno _) (fun j _ => hno _)
    refine ⟨S', _, e1, ?_, fun _ => ⟨rfl, e2.roots⟩, by omega⟩
    rw [e2.kidsL hc, if_pos rfl]

/-- All below a slot, with steps enough. -/
theorem kidsU_lt {up : List Int} (hu : Ups up) {i k : Nat} {cut : Int} (h : k ∈ kidsU up i cut) : i < k ∧ k < up.length := by
  obtain ⟨h1, h2, _⟩ := mem_kidsU.1 h
  have := hu k h1
  exact ⟨by omega, h1⟩
end Tr
end Go.Proofs.Ythabnombfbehkaa
/- Garbage, freed: plain facts. No program is named here. -/
namespace Go.Proofs.Ythabnombfbehkaa
set_option linter.ambiguousOpen false
open Go.RowKit
namespace Sw
open An Rg
set_option linter.unusedSimpArgs false
set_option linter.unusedVariables false

/-! ### Slot by slot -/

/-- The order in which slots are freed: the first one goes, what is below it comes behind. -/
inductive Bf (ch : Nat → List Nat) : List Nat → List Nat → Prop
  | nil : Bf ch [] []
  | cons {x : Nat} {Q W : List Nat} : Bf ch (Q ++ ch x) W → Bf ch (x :: Q) (x :: W)

theorem Bf.mem {ch : Nat → List Nat} {Q W : List Nat} (h : Bf ch Q W) : ∀ y ∈ Q, y ∈ W := by
  induction h with
  | nil => simp
  | cons _ ih =>
    intro y hy
    rcases List.mem_cons.1 hy with rfl | hy
    · simp
    · exact List.mem_cons_of_mem _ (ih y (by simp [hy]))

/-- Those in the ring go first. -/
theorem Bf.pre {ch : Nat → List Nat} {Q W : List Nat} (h : Bf ch Q W) : ∃ V, W = Q ++ V := by
  induction h with
  | nil => exact ⟨[], rfl⟩
  | @cons x Q W _ ih =>
    obtain ⟨V, hV⟩ := ih
    exact ⟨ch x ++ V, by rw [hV]; simp⟩

theorem Bf.closed {ch : Nat → List Nat} {Q W : List Nat} (h : Bf ch Q W) : ∀ x ∈ W, ∀ y ∈ ch x, y ∈ W := by
  induction h with
  | nil => simp
  | cons h1 ih =>
    intro x hx y hy
    rcases List.mem_cons.1 hx with rfl | hx
    · exact List.mem_cons_of_mem _ (h1.mem y (by simp [hy]))
    · exact List.mem_cons_of_mem _ (ih x hx y hy)

theorem Bf.all {ch : Nat → List Nat} {p : Nat → Prop} (hc : ∀ x, p x → ∀ y ∈ ch x, p y) {Q W : List Nat} (h : Bf ch Q W) : (∀ y ∈ Q, p y) → ∀ y ∈ W, p y := by
  induction h with
  | nil => simp
  | @cons x Q W h1 ih =>
    intro hQ y hy
    rcases List.mem_cons.1 hy with rfl | hy
    · exact hQ _ (by simp)
    · refine ih (fun z hz => ?_) y hy
      rcases List.mem_append.1 hz with hz | hz
      · exact hQ z (by simp [hz])
      · exact hc x (hQ x (by simp)) z hz

/-- There is such an order, if no slot hangs below two. -/
theorem bf_ex {ch : Nat → List Nat} {n : Nat} {Q0 : List Nat} (hnd : ∀ j, j < n → (ch j).Nodup) (hlt : ∀ j, j < n → ∀ k ∈ ch j, j < k ∧ k < n) (hun : ∀ i j, i < n → j < n → i ≠ j → ∀ k ∈ ch i, k ∉ ch j) (hq0 : ∀ x ∈ Q0, ∀ j, j < n → x ∉ ch j) :
    ∀ (m : Nat) (P Q : List Nat), n - P.length ≤ m → (P ++ Q).Nodup → (∀ y ∈ P ++ Q, y < n ∧ (y ∈ Q0 ∨ ∃ z ∈ P, y ∈ ch z)) → ∃ W, Bf ch Q W ∧ (P ++ W).Nodup ∧ ∀ y ∈ W, y < n := by
  intro m
  induction m with
  | zero =>
    intro P Q hm h1 h2
    cases Q with
    | nil => exact ⟨[], .nil, by simpa using h1, by simp⟩
    | cons x Q =>
      have := nodup_few n (P ++ x :: Q) h1 (fun y hy => (h2 y hy).1)
      simp at this
      omega
  | succ m ih =>
    intro P Q hm h1 h2
    cases Q with
    | nil => exact ⟨[], .nil, by simpa using h1, by simp⟩
    | cons x Q =>
      have hx := h2 x (by simp)
      have hxP : x ∉ P := fun e => (List.nodup_append.1 h1).2.2 x e x (by simp) rfl
      have hne : ∀ y ∈ ch x, y ∉ P ++ x :: Q := fun y hy hm' => by
        have hy2 := hlt x hx.1 y hy
        rcases (h2 y hm').2 with h3 | ⟨z, hz, h3⟩
        · exact hq0 y h3 x hx.1 hy
        · have hzn := (h2 z (by simp [hz])).1
          by_cases e : z = x
          · exact hxP (e ▸ hz)
          · exact hun z x hzn hx.1 e y h3 hy
      have e1 : P ++ x :: Q = (P ++ [x]) ++ Q := by simp
      obtain ⟨W, w1, w2, w3⟩ := ih (P ++ [x]) (Q ++ ch x) (by simp; omega) (by
        rw [← List.append_assoc, ← e1]
        exact List.nodup_append.2 ⟨h1, hnd x hx.1, fun a ha b hb e => hne b hb (e ▸ ha)⟩) (fun y hy => by
        rw [← List.append_assoc, ← e1] at hy
        rcases List.mem_append.1 hy with hy | hy
        · refine ⟨(h2 y hy).1, (h2 y hy).2.imp id (fun ⟨z, hz, h3⟩ => ⟨z, by simp [hz], h3⟩)⟩
        · exact ⟨(hlt x hx.1 y hy).2, .inr ⟨x, by simp, hy⟩⟩)
      refine ⟨x :: W, .cons w1, by simpa using w2, fun y hy => ?_⟩
      rcases List.mem_cons.1 hy with rfl | hy
      · exact hx.1
      · exact w3 y hy

theorem wit_new (m : List Nat) : ∀ l : List Nat, m.Nodup → (∀ x ∈ m, x ∉ l) → wit l m = l ++ m := by
  induction m with
  | nil => intro l _ _; simp [wit]
  | cons x m ih =>
    intro l h1 h2
    have := ih (l ++ [x]) (List.nodup_cons.1 h1).2 (fun y hy hm => by
      rcases List.mem_append.1 hm with hm | hm
      · exact h2 y (by simp [hy]) hm
      · simp at hm
        subst hm
        exact (List.nodup_cons.1 h1).1 hy)
    unfold wit at *
    rw [List.foldl_cons, if_neg (h2 x (by simp)), this]
    simp

/-- What All hands out is that order. -/
theorem goG_bf {S : List Slt} {ch : Nat → List Nat} {Q W : List Nat} (h : Bf ch Q W) : ∀ (f : Nat) (P : List Nat), W.length ≤ f → (P ++ W).Nodup → (∀ x ∈ W, allL S (slG S (x : Nat)).kids = ch x ∧ (ch x).Nodup) → goG S f P.length (P ++ Q) = P ++ W := by
  induction h with
  | nil =>
    intro f P _ _ _
    cases f with
    | zero => rfl
    | succ f =>
      unfold goG
      rw [if_neg (by simp)]
  | @cons x Q W h1 ih =>
    intro f P hf hnd hk
    obtain ⟨f, rfl⟩ : ∃ f', f = f' + 1 := ⟨f - 1, by simp at hf; omega⟩
    unfold goG
    have hx : (P ++ x :: Q).getD P.length 0 = x := by
      rw [List.getD_eq_getElem?_getD, List.getElem?_append_right (Nat.le_refl _)]
      simp
    rw [if_pos (by simp), hx, (hk x (by simp)).1]
    have e1 : P ++ x :: Q = (P ++ [x]) ++ Q := by simp
    have hQW : ∀ y ∈ Q ++ ch x, y ∈ W := h1.mem
    have hnd2 : (P ++ [x] ++ W).Nodup := by simpa using hnd
    have hap : ∀ y ∈ ch x, y ∉ P ++ x :: Q := fun y hy hm => by
      have hyW := hQW y (by simp [hy])
      rw [e1] at hm
      rcases List.mem_append.1 hm with hm | hm
      · exact (List.nodup_append.1 hnd2).2.2 y hm y hyW rfl
      · obtain ⟨V, hV⟩ := h1.pre
        have h3 := (List.nodup_append.1 hnd2).2.1
        rw [hV] at h3
        have h4 := (List.nodup_append.1 h3).1
        exact (List.nodup_append.1 h4).2.2 y hm y hy rfl
    rw [wit_new _ _ (hk x (by simp)).2 hap]
    have := ih f (P ++ [x]) (by simp at hf; omega) hnd2 (fun y hy => hk y (by simp [hy]))
    rw [List.length_append, List.length_singleton] at this
    rw [show P ++ x :: Q ++ ch x = P ++ [x] ++ (Q ++ ch x) by simp, this]
    simp

theorem allG_bf {S : List Slt} {ch : Nat → List Nat} {Q W : List Nat} (hq : Ring S Q) (h : Bf ch Q W) (hnd : W.Nodup) (hlt : ∀ x ∈ W, x < 32) (hk : ∀ x ∈ W, Ring S (ch x) ∧ (slG S (x : Nat)).kids = lastI (ch x)) : allG S (lastI Q) = W := by
  unfold allG
  rw [hq.all, wit_new _ _ hq.nd (by simp), List.nil_append]
  have := goG_bf (S := S) h 33 [] (Nat.le_trans (nodup_few 32 W hnd hlt) (by decide)) (by simpa using hnd) (fun x hx => ⟨by rw [(hk x hx).2]; exact (hk x hx).1.all, (hk x hx).1.nd⟩)
  simpa using this

/-! ### One unit -/

theorem core_splice (S : List Slt) (o t j : Int) : Tr.core (Tr.at' (splice S o t).sl j) = Tr.core (Tr.at' S j) := by
  unfold splice
  repeat' split
  all_goals first | rfl | exact (Tr.core_link _ _ _ _).trans (Tr.core_link _ _ _ _)

/-- Other rings stay. -/
theorem splice_keep {S : List Slt} (hl : S.length = 32) {l m r : List Nat} (hL : Ring S l) (hM : Ring S m) (hr : Ring S r) (h1 : ∀ x ∈ r, x ∉ l ∧ x ∉ m) : Ring (splice S (lastI l) (lastI m)).sl r := by
  unfold splice
  split
  · exact hr
  · split
    · exact hr
    · split
      · exact hr
      · split
        · exact hr
        · split
          · exact hr
          · split
            · exact hr
            · rename_i a1 a2 a3 a4 a5 a6
              obtain ⟨z, hz⟩ : ∃ z, l.getLast? = some z := by
                cases e : l.getLast? with
                | none => exact absurd (by rw [List.getLast?_eq_none_iff.1 e]; rfl) a2
                | some z => exact ⟨z, rfl⟩
              obtain ⟨y, hy⟩ : ∃ y, m.getLast? = some y := by
                cases e : m.getLast? with
                | none => exact absurd (by rw [List.getLast?_eq_none_iff.1 e]; rfl) a3
                | some z => exact ⟨z, rfl⟩
              rw [lastI_some hz, lastI_some hy]
              have zl := mem_last hz
              have ym := mem_last hy
              obtain ⟨_, a, _, al, _, ha⟩ := hL.sides zl
              obtain ⟨_, b, _, bm, _, hb⟩ := hM.sides ym
              rw [ha.1, hb.1]
              exact Ring.link_off (by rw [link_len]; exact hl) (Ring.link_off hl hr (hL.lt z zl) (hM.lt b bm) (fun e => (h1 z e).1 zl) (fun e => (h1 b e).2 bm)) (hM.lt y ym) (hL.lt a al) (fun e => (h1 y e).2 ym) (fun e => (h1 a e).1 al)

theorem ring_on {S S' : List Slt} {r : List Nat} (h : Ring S r) (hs : ∀ x ∈ r, nx S' (x : Nat) = nx S (x : Nat) ∧ pv S' (x : Nat) = pv S (x : Nat)) : Ring S' r := by
  refine ⟨h.nd, h.lt, path_of h.path (fun x y hx hy hk => ?_), fun z a hz ha => ?_⟩
  · exact ⟨(hs x (List.dropLast_subset _ hx)).1.trans hk.1, (hs y (List.mem_of_mem_tail hy)).2.trans hk.2⟩
  · have hk := h.shut z a hz ha
    exact ⟨(hs z (mem_last hz)).1.trans hk.1, (hs a (mem_head ha)).2.trans hk.2⟩

theorem at_bare {S : List Slt} (hl : S.length = 32) {f : Nat} (hf : f < 32) (j : Nat) : slG (S.set f bare) (j : Nat) = if j = f then bare else slG S (j : Nat) := by
  unfold slG
  rw [Int.toNat_natCast, get_set hl bare f j hf]

theorem ring_bare {S : List Slt} (hl : S.length = 32) {r : List Nat} (h : Ring S r) {f : Nat} (hf : f < 32) (hn : f ∉ r) : Ring (S.set f bare) r := ring_on h (fun x hx => by
  have := at_bare hl hf x
  rw [if_neg (fun e : x = f => hn (e ▸ hx))] at this
  exact ⟨congrArg Slt.next this, congrArg Slt.prev this⟩)

/-- What is still to be freed, and how it hangs. -/
structure Fq (S : List Slt) (Q : List Nat) (ch : Nat → List Nat) (W : List Nat) : Prop where
  len : S.length = 32
  rq : Ring S Q
  bf : Bf ch Q W
  nd : W.Nodup
  lt : ∀ x ∈ W, x < 32
  kid : ∀ x ∈ W, Ring S (ch x) ∧ (slG S (x : Nat)).kids = lastI (ch x)
  ap : ∀ x ∈ W, ∀ y ∈ W, x ≠ y → ∀ z ∈ ch x, z ∉ ch y
  qa : ∀ x ∈ W, ∀ z ∈ ch x, z ∉ Q

theorem Fq.all {S : List Slt} {Q : List Nat} {ch : Nat → List Nat} {W : List Nat} (h : Fq S Q ch W) : allG S (lastI Q) = W := allG_bf h.rq h.bf h.nd h.lt h.kid

theorem lastI_there {l : List Nat} {S : List Slt} (h : Ring S l) (hne : l ≠ []) : there (lastI l) := by
  obtain ⟨z, hz⟩ : ∃ z, l.getLast? = some z := by
    cases e : l.getLast? with
    | none => exact absurd (List.getLast?_eq_none_iff.1 e) hne
    | some z => exact ⟨z, rfl⟩
  rw [lastI_some hz]
  have := h.lt z (mem_last hz)
  omega

theorem Fq.unit {S : List Slt} {f : Nat} {Q : List Nat} {ch : Nat → List Nat} {W : List Nat} {fr : List Nat} (h : Fq S (f :: Q) ch (f :: W)) (hf : f ∉ fr) :
    ∃ S', unitG S fr (lastI (f :: Q)) = ⟨f, true, S', f :: fr, lastI (Q ++ ch f)⟩ ∧ Fq S' (Q ++ ch f) ch W ∧ (slG S' (f : Nat) = bare) ∧ ∀ j : Nat, j ≠ f → Tr.core (Tr.at' S' j) = Tr.core (Tr.at' S j) := by
  have hf32 : f < 32 := h.lt f (by simp)
  have hb : Bf ch (Q ++ ch f) W := by
    cases h.bf with
    | cons hb => exact hb
  obtain ⟨V, hV⟩ := hb.pre
  have hndW := (List.nodup_cons.1 h.nd).2
  have hfW := (List.nodup_cons.1 h.nd).1
  have hndQ : (Q ++ ch f).Nodup := by
    rw [hV] at hndW
    exact (List.nodup_append.1 hndW).1
  have hsubW : ∀ y ∈ Q ++ ch f, y ∈ W := hb.mem
  obtain ⟨hrf, hkf⟩ := h.kid f (by simp)
  have hdis : ∀ x ∈ f :: Q, x ∉ ch f := fun x hx hc => by
    rcases List.mem_cons.1 hx with rfl | hx
    · exact hfW (hsubW _ (by simp [hc]))
    · exact (List.nodup_append.1 hndQ).2.2 x hx x hc rfl
  obtain ⟨z, hz⟩ : ∃ z, (f :: Q).getLast? = some z := by
    cases e : (f :: Q).getLast? with
    | none => simp at e
    | some z => exact ⟨z, rfl⟩
  have hnx : nx S (lastI (f :: Q)) = f := by
    rw [lastI_some hz]
    exact (h.rq.shut z f hz rfl).1
  have hlt := lastI_there h.rq (by simp)
  obtain ⟨S1, p1, p2, p3⟩ := Ring.splice h.len h.rq hrf hdis
  have hS1 : (splice S (lastI (f :: Q)) (lastI (ch f))).sl = S1 := by rw [p1]
  obtain ⟨S2, d1, d2, d3, _, _, d4⟩ := Ring.drop (u := []) (v := Q ++ ch f) (i := f) p2 (by simpa using p3)
  have hS2 : (drop S1 (lastI (f :: (Q ++ ch f))) f).sl = S2 := by rw [show f :: (Q ++ ch f) = [] ++ f :: (Q ++ ch f) from rfl, d1]
  have hco : ∀ j : Nat, Tr.core (Tr.at' S2 j) = Tr.core (Tr.at' S j) := fun j => by
    rw [← hS2, Tr.core_drop, ← hS1, core_splice]
  have hcob : ∀ j : Nat, j ≠ f → Tr.core (Tr.at' (S2.set f bare) j) = Tr.core (Tr.at' S j) := fun j hj => by
    have := at_bare d2 hf32 j
    rw [if_neg hj] at this
    rw [← hco j]
    exact congrArg Tr.core this
  refine ⟨S2.set f bare, ?_, ⟨by rw [List.length_set]; exact d2, ring_bare d2 (by simpa using d3) hf32 (fun e => hfW (hsubW f e)), hb, hndW, fun x hx => h.lt x (by simp [hx]), fun x hx => ?_, fun x hx y hy => h.ap x (by simp [hx]) y (by simp [hy]), fun x hx z hz hm => ?_⟩, ?_, hcob⟩
  · unfold unitG
    rw [if_neg (by rw [hnx]; intro e; rcases e with e | e <;> omega), hnx]
    unfold unit1
    rw [show (slG S (f : Nat)).kids = lastI (ch f) from hkf, p1, if_neg (by simp)]
    unfold unit2
    dsimp only
    rw [show f :: Q ++ ch f = [] ++ f :: (Q ++ ch f) from rfl, d1, if_neg (by simp), Int.toNat_natCast, if_neg hf]
    simp
  · have hxf : x ≠ f := fun e => hfW (e ▸ hx)
    obtain ⟨hrx, hkx⟩ := h.kid x (by simp [hx])
    have hoff : ∀ y ∈ ch x, y ∉ f :: Q ∧ y ∉ ch f := fun y hy => by
      exact ⟨h.qa x (by simp [hx]) y hy, h.ap x (by simp [hx]) f (by simp) hxf y hy⟩
    refine ⟨ring_bare d2 (d4 _ ?_ ?_) hf32 (fun e => (hoff f e).1 (by simp)), ?_⟩
    · rw [← hS1]
      exact splice_keep h.len h.rq hrf hrx hoff
    · intro y hy hm
      rcases List.mem_append.1 (show y ∈ (f :: Q) ++ ch f by simpa using hm) with e | e
      · exact (hoff y hy).1 e
      · exact (hoff y hy).2 e
    · have := congrArg (fun c => c.2.1) (hcob x hxf)
      exact this.trans hkx
  · have hxf : x ≠ f := fun e => hfW (e ▸ hx)
    rcases List.mem_append.1 hm with e | e
    · exact h.qa x (by simp [hx]) z hz (by simp [e])
    · exact h.ap x (by simp [hx]) f (by simp) hxf z hz e
  · have := at_bare d2 hf32 f
    rw [if_pos rfl] at this
    exact this
end Sw
end Go.Proofs.Ythabnombfbehkaa
/- Slots that were hung, some of which were cut and put into the garbage: plain facts. No program is named here. -/
namespace Go.Proofs.Ythabnombfbehkaa
set_option linter.ambiguousOpen false
open Go.RowKit
namespace Sw
open An Rg
set_option linter.unusedSimpArgs false
set_option linter.unusedVariables false

/-- Those below a slot that were not cut. -/
def kidsQ (up : List Int) (i : Int) (Q : List Nat) : List Nat := (Tr.kidsU up i (-1)).filter (fun k => decide (k ∉ Q))

theorem mem_kidsQ {up : List Int} {i : Int} {Q : List Nat} {k : Nat} : k ∈ kidsQ up i Q ↔ k < up.length ∧ up.getD k 0 = i ∧ k ∉ Q := by
  unfold kidsQ
  rw [List.mem_filter, Tr.mem_kidsU]
  simp only [decide_eq_true_eq]
  constructor
  · rintro ⟨⟨a, b, _⟩, c⟩
    exact ⟨a, b, c⟩
  · rintro ⟨a, b, c⟩
    exact ⟨⟨a, b, by omega⟩, c⟩

theorem kidsQ_nd (up : List Int) (i : Int) (Q : List Nat) : (kidsQ up i Q).Nodup := List.Nodup.sublist List.filter_sublist (Tr.kidsU_nd up i (-1))

theorem kidsQ_nil (up : List Int) (i : Int) : kidsQ up i [] = Tr.kidsU up i (-1) := by
  unfold kidsQ
  exact List.filter_eq_self.2 (by simp)

theorem kidsQ_snoc (up : List Int) (i : Int) (Q : List Nat) (c : Nat) : kidsQ up i (Q ++ [c]) = (kidsQ up i Q).filter (fun k => decide (k ≠ c)) := by
  unfold kidsQ
  rw [List.filter_filter]
  refine List.filter_congr (fun k _ => ?_)
  by_cases e : k = c
  · simp [e]
  · by_cases e2 : k ∈ Q <;> simp [e, e2]

theorem kidsQ_off {up : List Int} {i : Int} {Q : List Nat} {c : Nat} (h : up.getD c 0 ≠ i) : kidsQ up i (Q ++ [c]) = kidsQ up i Q := by
  rw [kidsQ_snoc]
  exact List.filter_eq_self.2 (fun k hk => decide_eq_true (fun e => h (by rw [← e]; exact (mem_kidsQ.1 hk).2.1)))

/-- Some hang, some are garbage. -/
structure Sg (S : List Slt) (tl : Int) (up : List Int) (Q : List Nat) : Prop where
  hg : Tr.Hg S tl up.length (kidsQ up (-1) Q) (fun j => kidsQ up j Q)
  rq : Ring S Q
  qlt : ∀ x ∈ Q, x < up.length

theorem Sg.start {S : List Slt} {tl : Int} {up : List Int} (h : Tr.Hg S tl up.length (Tr.kidsU up (-1) (-1)) (fun j => Tr.kidsU up j (-1))) : Sg S tl up [] := by
  refine ⟨?_, Ring.nil S, by simp⟩
  rw [kidsQ_nil]
  have e : (fun j : Nat => kidsQ up j []) = (fun j : Nat => Tr.kidsU up j (-1)) := by
    funext j
    exact kidsQ_nil up j
  rw [e]
  exact h

/-- Other rings stay where a slot is cut. -/
theorem cut0_keep {S : List Slt} {last : Int} {n : Nat} {ch : Nat → List Nat} {u v : List Nat} {i : Nat} (h : Tr.Hg S last n (u ++ i :: v) ch) {r : List Nat} (hr : Ring S r) (ho : ∀ x ∈ r, x ∉ u ++ i :: v) : Ring (Tr.cutT S last i).sl r := by
  obtain ⟨hi, hus, hub⟩ := h.par0 i (by simp)
  obtain ⟨S1, p1, p2, p3, _, _, p4⟩ := Ring.drop h.len h.ring0
  have e : (Tr.cutT S last i).sl = S1 := by
    unfold Tr.cutT Tr.cutU
    rw [hus, hub, h.usedE hi, if_neg (by omega), if_neg (by simp)]
    unfold Tr.ringOf
    rw [if_pos rfl, if_pos rfl, h.last, p1, if_neg (by simp)]
  rw [e]
  exact p4 r hr ho

theorem cut1_keep {S : List Slt} {last : Int} {n : Nat} {rt : List Nat} {ch : Nat → List Nat} {u v : List Nat} {i p : Nat} (h : Tr.Hg S last n rt ch) (hp' : p < n) (hch : ch p = u ++ i :: v) {r : List Nat} (hr : Ring S r) (ho : ∀ x ∈ r, x ∉ u ++ i :: v) : Ring (Tr.cutT S last i).sl r := by
  have hp32 : p < 32 := Nat.lt_of_lt_of_le hp' h.n32
  obtain ⟨hi, hus, hub⟩ := h.par p hp' i (by rw [hch]; simp)
  have hrp := h.ring p hp'
  rw [hch] at hrp
  obtain ⟨S1, p1, p2, p3, _, _, p4⟩ := Ring.drop h.len hrp
  have e : (Tr.cutT S last i).sl = Tr.setK S1 p (lastI (u ++ v)) := by
    have hup := h.isUp hp'
    unfold Tr.cutT Tr.cutU
    rw [hus, hub, h.usedE hi, if_neg (by omega), if_neg (fun e => e.2 hup)]
    unfold Tr.ringOf
    rw [if_neg (show ¬ (p : Int) + 1 = 0 by omega), if_neg (show ¬ (p : Int) + 1 = 0 by omega), h.kids p hp', hch, p1, if_neg (by simp)]
  rw [e]
  refine ring_on (p4 r hr ho) (fun x _ => ?_)
  have hat := Tr.at_setK p2 hp32 (lastI (u ++ v)) x
  constructor
  · show (Tr.at' (Tr.setK S1 p (lastI (u ++ v))) x).next = (Tr.at' S1 x).next
    rw [hat]
    split
    · next e => subst e; rfl
    · rfl
  · show (Tr.at' (Tr.setK S1 p (lastI (u ++ v))) x).prev = (Tr.at' S1 x).prev
    rw [hat]
    split
    · next e => subst e; rfl
    · rfl

theorem hg_same {S S' : List Slt} {last : Int} {n : Nat} {rt : List Nat} {ch : Nat → List Nat} (h : Tr.Hg S last n rt ch) (hl : S'.length = 32) (hc : ∀ j : Nat, Tr.core (Tr.at' S' j) = Tr.core (Tr.at' S j)) (h0 : Ring S' rt) (hr : ∀ j, j < n → Ring S' (ch j)) : Tr.Hg S' last n rt ch := by
  have hu : ∀ j : Nat, (Tr.at' S' j).used = (Tr.at' S j).used := fun j => congrArg Prod.fst (hc j)
  have hk : ∀ j : Nat, (Tr.at' S' j).kids = (Tr.at' S j).kids := fun j => congrArg (fun x => x.2.1) (hc j)
  have hs : ∀ j : Nat, (Tr.at' S' j).s = (Tr.at' S j).s := fun j => congrArg (fun x => x.2.2) (hc j)
  exact ⟨hl, h.n32, fun j hj => (hu j).trans (h.used j hj), fun j hj => by rw [hs j]; exact h.birth j hj, h0, h.last, hr, fun j hj => (hk j).trans (h.kids j hj), fun j hj => by rw [hs j]; exact h.par0 j hj, fun j hj k hk' => by rw [hs k]; exact h.par j hj k hk'⟩

/-- One more is cut, and put into the garbage. -/
theorem Sg.cut {S : List Slt} {tl : Int} {up : List Int} {Q : List Nat} (h : Sg S tl up Q) (hu : Tr.Ups up) {c : Nat} (hc : c < up.length) (hcQ : c ∉ Q) :
    ∃ S' tl' S'', Tr.cutT S tl c = ⟨0, -1, S', tl'⟩ ∧ addG S' (lastI Q) c = ⟨0, -1, S'', lastI (Q ++ [c])⟩ ∧ Sg S'' tl' up (Q ++ [c]) := by
  have hb := hu c hc
  have hc32 : c < 32 := Nat.lt_of_lt_of_le hc h.hg.n32
  obtain ⟨u, v, f1, f2⟩ := Tr.filter_out (kidsQ_nd up (up.getD c 0) Q) (c := c) (mem_kidsQ.2 ⟨hc, rfl, hcQ⟩)
  rw [← kidsQ_snoc] at f2
  have hoffQ : ∀ x ∈ Q, x ∉ u ++ c :: v := fun x hx hm => by
    rw [← f1] at hm
    exact (mem_kidsQ.1 hm).2.2 hx
  have key : ∃ S' tl', Tr.cutT S tl c = ⟨0, -1, S', tl'⟩ ∧ Tr.Hg S' tl' up.length (kidsQ up (-1) (Q ++ [c])) (fun j => kidsQ up j (Q ++ [c])) ∧ Ring S' Q := by
    by_cases hp0 : 0 ≤ up.getD c 0
    · obtain ⟨q, hq⟩ := Int.eq_ofNat_of_zero_le hp0
      have hqc : q < c := by omega
      rw [hq] at f1 f2
      have hqn : q < up.length := by omega
      obtain ⟨S', e1, e2⟩ := h.hg.cut1 (i := c) (p := q) (u := u) (v := v) hqn f1
      have hk := cut1_keep h.hg hqn f1 h.rq hoffQ
      rw [e1] at hk
      refine ⟨S', tl, e1, ?_, hk⟩
      have a1 : kidsQ up (-1) (Q ++ [c]) = kidsQ up (-1) Q := kidsQ_off (by omega)
      have a2 : (fun j : Nat => kidsQ up j (Q ++ [c])) = (fun j : Nat => if j = q then u ++ v else kidsQ up j Q) := by
        funext j
        by_cases j2 : j = q
        · rw [if_pos j2, j2]
          exact f2
        · rw [if_neg j2]
          exact kidsQ_off (by omega)
      rw [a1, a2]
      exact e2
    · have hq : up.getD c 0 = -1 := by omega
      rw [hq] at f1 f2
      have hg := h.hg
      rw [f1] at hg
      obtain ⟨S', e1, e2⟩ := hg.cut0
      have hk := cut0_keep hg h.rq hoffQ
      rw [e1] at hk
      refine ⟨S', _, e1, ?_, hk⟩
      have a2 : (fun j : Nat => kidsQ up j (Q ++ [c])) = (fun j : Nat => kidsQ up j Q) := by
        funext j
        exact kidsQ_off (by omega)
      rw [f2, a2]
      exact e2
  obtain ⟨S', tl', e1, e2, e3⟩ := key
  obtain ⟨S2, p1, p2, p3, p4⟩ := Ring.push e2.len e3 hc32 hcQ
  have hS2 : (push S' (lastI Q) c).sl = S2 := by rw [p1]
  have hoff : ∀ i : Int, ∀ x ∈ kidsQ up i (Q ++ [c]), x ∉ Q ∧ x ≠ c := fun i x hx => by
    have := (mem_kidsQ.1 hx).2.2
    exact ⟨fun e => this (by simp [e]), fun e => this (by simp [e])⟩
  refine ⟨S', tl', S2, e1, ?_, ⟨hg_same e2 p2 (fun j => by rw [← hS2]; exact Tr.core_push S' (lastI Q) c j) (p4 _ e2.ring0 (hoff _)) (fun j hj => p4 _ (e2.ring j hj) (hoff _)), p3, fun x hx => ?_⟩⟩
  · unfold addG
    rw [if_neg (fun q => q (by omega)), if_neg (by rw [show (slG S' (c : Int)).used = true from e2.used c hc]; decide), p1, if_neg (by simp), Tr.lastI_snoc]
  · rcases List.mem_append.1 hx with hx | hx
    · exact h.qlt x hx
    · simp at hx
      omega

/-! ### Which are dead -/

/-- Is a slot i, or one of those above it? As one goes up. -/
def ancB (up : List Int) (i : Int) : Nat → Int → Bool
  | 0, _ => false
  | f + 1, k => if k < 0 ∨ k = i then decide (k = i) else ancB up i f (up.getD k.toNat 0)

theorem ancB_fuel {up : List Int} (hu : Tr.Ups up) (i : Int) : ∀ (f f' : Nat) (k : Int), -1 ≤ k → k + 2 ≤ f → k + 2 ≤ f' → k < up.length → ancB up i f k = ancB up i f' k
  | 0, f', k, h0, h1, h2, h3 => by omega
  | f + 1, 0, k, h0, h1, h2, h3 => by omega
  | f + 1, f' + 1, k, h0, h1, h2, h3 => by
    unfold ancB
    split
    · rfl
    · rename_i hn
      have hk : 0 ≤ k := by
        rcases Int.lt_or_le k 0 with h | h
        · exact absurd (.inl h) hn
        · exact h
      have hb := hu k.toNat (by omega)
      exact ancB_fuel hu i f f' _ hb.1 (by omega) (by omega) (by omega)

def ancL (up : List Int) (i k : Nat) : Bool := ancB up i (up.length + 1) k

theorem ancL_step {up : List Int} (hu : Tr.Ups up) {i k : Nat} (hk : k < up.length) : ancL up i k = true ↔ k = i ∨ ∃ p : Nat, up.getD k 0 = (p : Int) ∧ ancL up i p = true := by
  have hb := hu k hk
  unfold ancL
  rw [ancB]
  by_cases e : k = i
  · subst e
    simp
  · rw [if_neg (by omega), Int.toNat_natCast]
    rw [ancB_fuel hu i up.length (up.length + 1) _ hb.1 (by omega) (by omega) (by omega)]
    constructor
    · intro h
      rcases Int.lt_or_le (up.getD k 0) 0 with h2 | h2
      · rw [ancB, if_pos (.inl h2)] at h
        have := of_decide_eq_true h
        omega
      · obtain ⟨p, hp⟩ := Int.eq_ofNat_of_zero_le h2
        exact .inr ⟨p, hp, by rw [hp] at h; exact h⟩
    · rintro (h | ⟨p, hp, h⟩)
      · exact absurd h e
      · rw [hp]
        exact h

def deadB (up : List Int) (Q : List Nat) (j : Nat) : Bool := Q.any (fun k => ancL up k j)

theorem dead_iff {up : List Int} {Q : List Nat} {j : Nat} : deadB up Q j = true ↔ ∃ k ∈ Q, ancL up k j = true := by
  unfold deadB
  rw [List.any_eq_true]

theorem dead_snoc (up : List Int) (Q : List Nat) (c j : Nat) : deadB up (Q ++ [c]) j = (deadB up Q j || ancL up c j) := by
  unfold deadB
  simp

theorem dead_self {up : List Int} (hu : Tr.Ups up) {Q : List Nat} {j : Nat} (hj : j < up.length) (h : j ∈ Q) : deadB up Q j = true := dead_iff.2 ⟨j, h, (ancL_step hu hj).2 (.inl rfl)⟩

/-- All that is dead is freed, in this order. -/
theorem Sg.order {S : List Slt} {tl : Int} {up : List Int} {Q : List Nat} (h : Sg S tl up Q) (hu : Tr.Ups up) :
    ∃ W, Fq S Q (fun j => kidsQ up j Q) W ∧ (∀ j ∈ W, j < up.length) ∧ ∀ j, j < up.length → (j ∈ W ↔ deadB up Q j = true) := by
  have hlt : ∀ j, j < up.length → ∀ k ∈ kidsQ up (j : Nat) Q, j < k ∧ k < up.length := fun j hj k hk => by
    obtain ⟨a, b, _⟩ := mem_kidsQ.1 hk
    have := (hu k a).2
    omega
  have hun : ∀ i j, i < up.length → j < up.length → i ≠ j → ∀ k ∈ kidsQ up (i : Nat) Q, k ∉ kidsQ up (j : Nat) Q := fun i j _ _ hne k hk hk' => by
    have a := (mem_kidsQ.1 hk).2.1
    have b := (mem_kidsQ.1 hk').2.1
    omega
  have hq0 : ∀ x ∈ Q, ∀ j, j < up.length → x ∉ kidsQ up (j : Nat) Q := fun x hx j _ hm => (mem_kidsQ.1 hm).2.2 hx
  obtain ⟨W, w1, w2, w3⟩ := bf_ex (ch := fun j => kidsQ up (j : Nat) Q) (Q0 := Q) (fun j _ => kidsQ_nd up j Q) hlt hun hq0 up.length [] Q (by simp) (by simpa using h.rq.nd) (fun y hy => ⟨h.qlt y (by simpa using hy), .inl (by simpa using hy)⟩)
  have w4 : W.Nodup := by simpa using w2
  refine ⟨W, ⟨h.hg.len, h.rq, w1, w4, fun x hx => Nat.lt_of_lt_of_le (w3 x hx) h.hg.n32, fun x hx => ⟨h.hg.ring x (w3 x hx), h.hg.kids x (w3 x hx)⟩, fun x hx y hy hne => hun x y (w3 x hx) (w3 y hy) hne, fun x hx z hz hq => hq0 z hq x (w3 x hx) hz⟩, w3, ?_⟩
  have hsub : ∀ y ∈ W, y < up.length ∧ deadB up Q y = true := Bf.all (ch := fun j => kidsQ up (j : Nat) Q) (p := fun y => y < up.length ∧ deadB up Q y = true) (fun x hx y hy => by
    obtain ⟨a, b, _⟩ := mem_kidsQ.1 hy
    obtain ⟨k, hk, hk2⟩ := dead_iff.1 hx.2
    exact ⟨a, dead_iff.2 ⟨k, hk, (ancL_step hu a).2 (.inr ⟨x, b, hk2⟩)⟩⟩) w1 (fun y hy => ⟨h.qlt y hy, dead_self hu (h.qlt y hy) hy⟩)
  have hsup : ∀ N j, j < N → j < up.length → deadB up Q j = true → j ∈ W := by
    intro N
    induction N with
    | zero => intro j h0; omega
    | succ N ih =>
      intro j hN hj hd
      by_cases hjQ : j ∈ Q
      · exact w1.mem j hjQ
      · obtain ⟨k, hk, hk2⟩ := dead_iff.1 hd
        rcases (ancL_step hu hj).1 hk2 with e | ⟨p, hp, hp2⟩
        · exact absurd (e ▸ hk) hjQ
        · have hpj := (hu j hj).2
          have hpW := ih p (by omega) (by omega) (dead_iff.2 ⟨k, hk, hp2⟩)
          exact w1.closed p hpW j (mem_kidsQ.2 ⟨hj, hp, hjQ⟩)
  exact fun j hj => ⟨fun hm => (hsub j hm).2, fun hd => hsup (j + 1) j (by omega) hj hd⟩

/-- How many. -/
theorem order_len {up : List Int} {Q W : List Nat} (hnd : W.Nodup) (hlt : ∀ j ∈ W, j < up.length) (hm : ∀ j, j < up.length → (j ∈ W ↔ deadB up Q j = true)) : ((List.range up.length).filter (fun j => deadB up Q j)).length = W.length := by
  refine List.Perm.length_eq ((List.perm_ext_iff_of_nodup (List.Nodup.sublist List.filter_sublist List.nodup_range) hnd).2 (fun j => ?_))
  rw [List.mem_filter, List.mem_range]
  constructor
  · rintro ⟨a, b⟩
    exact (hm j a).2 b
  · intro hj
    exact ⟨hlt j hj, (hm j (hlt j hj)).1 hj⟩
end Sw
end Go.Proofs.Ythabnombfbehkaa
