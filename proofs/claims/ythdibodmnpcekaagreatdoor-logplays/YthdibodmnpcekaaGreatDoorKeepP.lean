import Derived.Test.YthdibodmnpcekaaGreatDoorLogM
import Derived.Test.YthdibodmnpcekaaGreatDoorOneK
import Derived.Test.YthdibodmnpcekaaGreatDoorLadM
/- What is opened again: plain facts on a log's blocks behind its Appends. No program is named here. -/
namespace Go.Proofs.YthdibodmnpcekaaGreatDoor
set_option linter.ambiguousOpen false
open Go.RowKit
namespace Lo
open Sm Ft Dk Rc
set_option linter.unusedSimpArgs false
set_option linter.unusedVariables false

theorem getD_mem (bs : List (List UInt8)) (k : Nat) (h : k < bs.length) : bs.getD k [] ∈ bs := by
  rw [List.getD_eq_getElem?_getD, List.getElem?_eq_getElem h]
  exact List.getElem_mem h

theorem getD_app (a b : List (List UInt8)) (i : Nat) : (a ++ b).getD i [] = if i < a.length then a.getD i [] else b.getD (i - a.length) [] := by
  rw [List.getD_eq_getElem?_getD, List.getD_eq_getElem?_getD, List.getD_eq_getElem?_getD]
  by_cases h : i < a.length
  · rw [if_pos h, List.getElem?_append_left h]
  · rw [if_neg h, List.getElem?_append_right (by omega)]

/-- Whatever the power does, a block tells what it told, or one of those that were to be written. -/
theorem dn_some (b : Int) (bs : List (List UInt8)) (k : Nat) : ∀ (d : Dsk), k ≤ bs.length → ∀ i, 0 ≤ i → i < d.n → rdT (dn b bs k d).2 i = rdT d i ∨ ∃ t ∈ bs, rdT (dn b bs k d).2 i = t := by
  induction k with
  | zero => exact fun d _ i _ _ => .inl rfl
  | succ k ih =>
    intro d hk i h0 h1
    rw [dn]
    split
    · rename_i hw
      rcases ih (wrD d (b + (k : Int)) (bs.getD k [])) (by omega) i h0 (by rw [wrD_n]; exact h1) with e | ⟨t, ht, e⟩
      · rw [rdT_wrote d _ _ i hw ⟨h0, h1⟩] at e
        by_cases hb : b + (k : Int) = i
        · rw [if_pos hb] at e
          exact .inr ⟨_, getD_mem bs k (by omega), e⟩
        · rw [if_neg hb] at e
          exact .inl e
      · exact .inr ⟨t, ht, e⟩
    · exact .inl rfl

/-- What lies below b stays. -/
theorem dn_low (b : Int) (bs : List (List UInt8)) (k : Nat) : ∀ (d : Dsk), ∀ i, 0 ≤ i → i < d.n → i < b → rdT (dn b bs k d).2 i = rdT d i := by
  induction k with
  | zero => exact fun d i _ _ _ => rfl
  | succ k ih =>
    intro d i h0 h1 h2
    rw [dn]
    split
    · rename_i hw
      rw [ih (wrD d (b + (k : Int)) (bs.getD k [])) i h0 (by rw [wrD_n]; exact h1) h2, rdT_wrote d _ _ i hw ⟨h0, h1⟩, if_neg (by omega)]
    · rfl

/-- Where all is written. -/
theorem dn_all (b : Int) (bs : List (List UInt8)) (k : Nat) : ∀ (d : Dsk), (dn b bs k d).1 = 0 → ∀ i, 0 ≤ i → i < d.n → rdT (dn b bs k d).2 i = if b ≤ i ∧ i < b + (k : Int) then bs.getD (i - b).toNat [] else rdT d i := by
  induction k with
  | zero =>
    intro d _ i _ _
    rw [if_neg (by omega)]
    rfl
  | succ k ih =>
    intro d h i h0 h1
    rw [dn] at h ⊢
    split at h
    · rename_i hw
      rw [if_pos hw, ih _ h i h0 (by rw [wrD_n]; exact h1), rdT_wrote d _ _ i hw ⟨h0, h1⟩]
      by_cases hb : b + (k : Int) = i
      · rw [if_neg (by omega), if_pos hb, if_pos (by omega), show (i - b).toNat = k by omega]
      · rw [if_neg hb]
        by_cases hc : b ≤ i ∧ i < b + (k : Int)
        · rw [if_pos hc, if_pos (by omega)]
        · rw [if_neg hc, if_neg (by omega)]
    · simp at h

/-- Where one fails, the first block is as it was: it is written last. -/
theorem dn_torn (b : Int) (bs : List (List UInt8)) (k : Nat) : ∀ (d : Dsk), 0 ≤ b → b < d.n → (dn b bs k d).1 ≠ 0 → rdT (dn b bs k d).2 b = rdT d b := by
  induction k with
  | zero => exact fun d _ _ _ => rfl
  | succ k ih =>
    intro d h0 h1 h
    rw [dn] at h ⊢
    split at h
    · rename_i hw
      rw [if_pos hw]
      have hk : k ≠ 0 := fun e => by
        subst e
        exact h rfl
      rw [ih _ h0 (by rw [wrD_n]; exact h1) h, rdT_wrote d _ _ b hw ⟨h0, h1⟩, if_neg (by omega)]
    · rename_i hw
      rw [if_neg hw]

theorem lo4_three : lo 3 4 ≠ lo 4 4 := by decide

/-- A block of a record of one epoch does not begin as one of another. -/
theorem blocks_begin (ep e : Nat) (p : List UInt8) (h : lo ep 4 ≠ lo e 4) : ∀ t ∈ blocks ep p, ¬ begins e t := by
  intro t ht hb
  unfold blocks at ht
  rw [List.mem_cons] at ht
  rcases ht with rfl | ht
  · unfold begins firstB topB headB at hb
    have : ((104 :: (lo ep 4 ++ lo p.length 2) ++ lo (crc (104 :: (lo ep 4 ++ lo p.length 2) ++ p)) 4 ++ p.take 245).take 5) = 104 :: lo ep 4 := by
      rw [List.append_assoc, List.cons_append, List.take_succ_cons, List.append_assoc, List.take_append_of_le_length (by rw [lo_len]; omega), List.take_of_length_le (by rw [lo_len]; omega)]
    rw [this] at hb
    exact h (List.cons.inj hb).2
  · generalize p.drop 245 = q at ht
    have : ∀ f : Nat, ∀ q : List UInt8, q.length ≤ f → t ∈ restB q → ¬ begins e t := by
      intro f
      induction f with
      | zero =>
        intro q hq hm
        have e0 : q = [] := List.eq_nil_of_length_eq_zero (by omega)
        rw [e0, restB_nil] at hm
        simp at hm
      | succ f ih =>
        intro q hq hm
        by_cases hn : q = []
        · rw [hn, restB_nil] at hm
          simp at hm
        · rw [restB_cons q hn, List.mem_cons] at hm
          rcases hm with rfl | hm
          · intro hb
            unfold begins at hb
            rw [List.take_succ_cons] at hb
            exact absurd (List.cons.inj hb).1 (by decide)
          · exact ih (q.drop 255) (by rw [List.length_drop]; have := List.length_pos_iff.2 hn; omega) hm
    exact this _ q (Nat.le_refl _) ht hb

/-- No block begins so. -/
def Clean (e : Nat) (d : Dsk) : Prop := ∀ i, 0 ≤ i → i < d.n → ¬ begins e (rdT d i)

theorem clean_new (e : Nat) (n left : Int) : Clean e ⟨n, left, []⟩ := fun i h0 h1 hb => by
  unfold rdT at hb
  rw [if_pos ⟨h0, h1⟩] at hb
  unfold begins lastK at hb
  simp at hb

theorem Clean.app {e : Nat} {l : Lg} {d : Dsk} (h : Clean e d) (hl : lo l.ep 4 ≠ lo e 4) (p : List UInt8) : Clean e (Lo.app l d p).2.1 := by
  unfold Lo.app
  repeat' split
  · exact h
  · exact h
  · exact h
  all_goals
    intro i h0 h1
    have hn := (dn_n (l.at_ + (l.used : Int)) (blocks l.ep p) (blocks l.ep p).length d).1
    simp only at h1 ⊢
    rw [hn] at h1
    rcases dn_some (l.at_ + (l.used : Int)) (blocks l.ep p) (blocks l.ep p).length d (Nat.le_refl _) i h0 h1 with e | ⟨t, ht, e⟩
    · rw [e]
      exact h i h0 h1
    · rw [e]
      exact blocks_begin _ _ p hl t ht

/-- A log of which ps was appended. -/
structure Kp (l : Lg) (d : Dsk) (ps : List (List UInt8)) : Prop where
  fit : Fit l d
  use : l.used = (flat l.ep ps).length
  nrec : l.recs = ps.length
  short : ∀ p ∈ ps, p.length ≤ 512
  there : ∀ i : Nat, i < l.used → rdT d (l.at_ + (i : Int)) = (flat l.ep ps).getD i []
  next : (l.used : Int) < l.n → ¬ begins l.ep (rdT d (l.at_ + (l.used : Int)))
  rest : l.dead = false → ∀ j : Nat, l.used ≤ j → (j : Int) < l.n → ¬ begins l.ep (rdT d (l.at_ + (j : Int)))

theorem Kp.new {a n : Int} {ep : Nat} {d : Dsk} (h : Fit ⟨a, n, ep, 0, 0, false⟩ d) (hc : Clean ep d) : Kp ⟨a, n, ep, 0, 0, false⟩ d [] := by
  have h0 := h.a0
  have h1 := h.an
  have h2 := h.n1
  simp only at h0 h1 h2
  exact ⟨h, rfl, rfl, fun p hp => by simp at hp, fun i hi => by simp at hi, fun hi => hc _ (by simp only; omega) (by simp only at hi ⊢; omega), fun _ j _ hj => hc _ (by simp only; omega) (by simp only at hj ⊢; omega)⟩

theorem Kp.left {l : Lg} {d : Dsk} {ps : List (List UInt8)} (h : Kp l d ps) (m : Int) (h1 : -1 ≤ m) (h2 : m ≤ 9223372036854775807) : Kp l ⟨d.n, m, d.tr⟩ ps :=
  ⟨⟨h.fit.a0, h.fit.n1, h.fit.an, h.fit.dn, h.fit.us, h.fit.ep, h1, h2⟩, h.use, h.nrec, h.short, h.there, h.next, h.rest⟩

theorem Kp.app {l : Lg} {d : Dsk} {ps : List (List UInt8)} (h : Kp l d ps) (p : List UInt8) : Kp (Lo.app l d p).2.2 (Lo.app l d p).2.1 (if (Lo.app l d p).1 = 0 then ps ++ [p] else ps) := by
  have hF := (app_fit h.fit p).1
  have fa := h.fit.a0
  have fn := h.fit.an
  by_cases h1 : l.dead = true
  · rw [Lo.app, if_pos h1, if_neg (by simp)]
    exact h
  by_cases h2 : 512 < p.length
  · rw [Lo.app, if_neg h1, if_pos h2, if_neg (by simp)]
    exact h
  by_cases h3 : l.n - (l.used : Int) < ((blocks l.ep p).length : Int)
  · rw [Lo.app, if_neg h1, if_neg h2, if_pos h3, if_neg (by simp)]
    exact h
  rw [Lo.app, if_neg h1, if_neg h2, if_neg h3] at hF ⊢
  have hd : l.dead = false := by simpa using h1
  have hb := blocks_len3 l.ep p h2
  have hnn := (dn_n (l.at_ + (l.used : Int)) (blocks l.ep p) (blocks l.ep p).length d).1
  have hu := h.use
  by_cases h4 : (dn (l.at_ + (l.used : Int)) (blocks l.ep p) (blocks l.ep p).length d).1 = 0
  · rw [if_pos h4] at hF ⊢
    rw [if_pos rfl]
    have hall := dn_all _ _ _ d h4
    have hrest : ∀ j : Nat, l.used + (blocks l.ep p).length ≤ j → (j : Int) < l.n → ¬ begins l.ep (rdT (dn (l.at_ + (l.used : Int)) (blocks l.ep p) (blocks l.ep p).length d).2 (l.at_ + (j : Int))) := fun j hj hjn => by
      rw [hall _ (by omega) (by omega), if_neg (by omega)]
      exact h.rest hd j (by omega) hjn
    refine ⟨hF, ?_, ?_, ?_, ?_, ?_, ?_⟩
    · show _ = (flat l.ep (ps ++ [p])).length
      rw [flat_snoc, List.length_append, ← hu]
    · show l.recs + 1 = _
      rw [List.length_append, h.nrec]
      rfl
    · intro q hq
      rw [List.mem_append, List.mem_singleton] at hq
      rcases hq with hq | rfl
      · exact h.short q hq
      · omega
    · intro i hi
      have hi' : i < l.used + (blocks l.ep p).length := hi
      show rdT _ (l.at_ + (i : Int)) = (flat l.ep (ps ++ [p])).getD i []
      rw [hall _ (by omega) (by omega), flat_snoc, getD_app]
      by_cases hc : i < l.used
      · rw [if_neg (by omega), if_pos (by omega)]
        exact h.there i hc
      · rw [if_pos (by omega), if_neg (by omega), show (l.at_ + (i : Int) - (l.at_ + (l.used : Int))).toNat = i - (flat l.ep ps).length by omega]
    · intro hi
      exact hrest (l.used + (blocks l.ep p).length) (Nat.le_refl _) hi
    · intro _ j hj hjn
      exact hrest j hj hjn
  · rw [if_neg h4] at hF ⊢
    rw [if_neg (by simp)]
    refine ⟨hF, h.use, h.nrec, h.short, ?_, ?_, fun e => by simp at e⟩
    · intro i hi
      have hi' : i < l.used := hi
      show rdT _ (l.at_ + (i : Int)) = _
      rw [dn_low _ _ _ d _ (by omega) (by omega) (by omega)]
      exact h.there i hi
    · intro hi
      have hi' : (l.used : Int) < l.n := hi
      show ¬ begins l.ep (rdT _ (l.at_ + (l.used : Int)))
      rw [dn_torn _ _ _ d (by omega) (by omega) h4]
      exact h.next hi

/-- What Open tells of it. -/
theorem Kp.opened {l : Lg} {d : Dsk} {ps : List (List UInt8)} (h : Kp l d ps) : (scan l.ep (texts d l.at_ l.n.toNat)).1 = ps := by
  have f1 := h.fit.n1
  have f2 := h.fit.us
  have hu := h.use
  have e : texts d l.at_ l.n.toNat = flat l.ep ps ++ (texts d l.at_ l.n.toNat).drop l.used := by
    apply List.ext_getElem?
    intro i
    by_cases hi : i < l.used
    · rw [texts_at _ _ _ _ (by omega), List.getElem?_append_left (by omega), h.there i hi, List.getD_eq_getElem?_getD, List.getElem?_eq_getElem (by omega)]
      rfl
    · rw [List.getElem?_append_right (by omega), List.getElem?_drop, show l.used + (i - (flat l.ep ps).length) = i by omega]
  rw [e]
  refine (scan_whole l.ep ps _ h.short (fun b r hb => ?_)).1
  have h0 : ((texts d l.at_ l.n.toNat).drop l.used)[0]? = some b := by rw [hb]; rfl
  rw [List.getElem?_drop, Nat.add_zero] at h0
  have hlt : l.used < l.n.toNat := by
    have := (List.getElem?_eq_some_iff.1 h0).1
    rw [texts_len] at this
    exact this
  rw [texts_at _ _ _ _ hlt] at h0
  rw [← Option.some.inj h0]
  exact h.next (by omega)
end Lo
end Go.Proofs.YthdibodmnpcekaaGreatDoor
