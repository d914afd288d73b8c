/- Records: their blocks, which record stands at a block, and what blocks begin with, as plain functions. No program is named here. -/
import Derived.Test.YtlgjnefieflmbaaDoorPoly
namespace Go.Proofs.YtlgjnefieflmbaaDoor
namespace Rc
open Sm
set_option linter.unusedVariables false
set_option linter.unusedSimpArgs false

/-- The lowest n bytes of a number, the lowest one first. -/
def lo (v : Nat) : Nat → List UInt8
  | 0 => []
  | n + 1 => UInt8.ofNat (v % 256) :: lo (v / 256) n

theorem lo_len (v n : Nat) : (lo v n).length = n := by
  induction n generalizing v with
  | zero => rfl
  | succ n ih => simp [lo, ih]

/-- An 'h', the epoch, the length. -/
def headB (ep n : Nat) : List UInt8 := 104 :: (lo ep 4 ++ lo n 2)

theorem headB_len (ep n : Nat) : (headB ep n).length = 7 := by simp [headB, lo_len]

/-- The first block's head: with the sum. -/
def topB (ep : Nat) (p : List UInt8) : List UInt8 := headB ep p.length ++ lo (crc (headB ep p.length ++ p)) 4

theorem topB_len (ep : Nat) (p : List UInt8) : (topB ep p).length = 11 := by simp [topB, headB_len, lo_len]

def firstB (ep : Nat) (p : List UInt8) : List UInt8 := topB ep p ++ p.take 245

/-- The blocks that follow. -/
def restB (p : List UInt8) : List (List UInt8) := if h : p = [] then [] else (99 :: p.take 255) :: restB (p.drop 255)
termination_by p.length
decreasing_by
  have : 0 < p.length := by
    rcases p with _ | _
    · exact absurd rfl h
    · simp
  simp
  omega

theorem restB_nil : restB [] = [] := by rw [restB, dif_pos rfl]

theorem restB_cons (p : List UInt8) (h : p ≠ []) : restB p = (99 :: p.take 255) :: restB (p.drop 255) := by rw [restB, dif_neg h]

def blocks (ep : Nat) (p : List UInt8) : List (List UInt8) := firstB ep p :: restB (p.drop 245)

theorem blocks_ne (ep : Nat) (p : List UInt8) : blocks ep p ≠ [] := by simp [blocks]

/-- How many blocks follow. -/
theorem restB_len (f : Nat) (p : List UInt8) (h : p.length ≤ 255 * f) : (restB p).length = (p.length + 254) / 255 := by
  induction f generalizing p with
  | zero =>
    have : p = [] := List.length_eq_zero_iff.1 (by omega)
    rw [this, restB_nil]
    rfl
  | succ f ih =>
    by_cases hp : p = []
    · rw [hp, restB_nil]
      rfl
    · have h0 : 0 < p.length := List.length_pos_iff.2 hp
      rw [restB_cons p hp, List.length_cons, ih _ (by rw [List.length_drop]; omega), List.length_drop]
      omega

theorem blocks_len (ep : Nat) (p : List UInt8) : (blocks ep p).length = 1 + (p.length - 245 + 254) / 255 := by
  rw [blocks, List.length_cons, restB_len (p.length) _ (by rw [List.length_drop]; omega), List.length_drop]
  omega

/-- No block is too long. -/
theorem blocks_short (ep : Nat) (p b : List UInt8) (h : b ∈ blocks ep p) : b.length ≤ 256 := by
  have hr : ∀ (f : Nat) (p b : List UInt8), p.length ≤ f → b ∈ restB p → b.length ≤ 256 := by
    intro f
    induction f with
    | zero =>
      intro p b hp hb
      rw [List.length_eq_zero_iff.1 (by omega : p.length = 0), restB_nil] at hb
      simp at hb
    | succ f ih =>
      intro p b hp hb
      by_cases h0 : p = []
      · rw [h0, restB_nil] at hb
        simp at hb
      · have h1 : 0 < p.length := List.length_pos_iff.2 h0
        rw [restB_cons p h0, List.mem_cons] at hb
        rcases hb with rfl | hb
        · simp
          omega
        · exact ih _ _ (by rw [List.length_drop]; omega) hb
  rw [blocks, List.mem_cons] at h
  rcases h with rfl | h
  · rw [firstB, List.length_append, topB_len, List.length_take]
    omega
  · exact hr _ _ _ (Nat.le_refl _) h

/-! ### Which record stands there -/

def num2 (a b : UInt8) : Nat := a.toNat + 256 * b.toNat

/-- What the blocks behind the first one add, at most three of them. -/
def gath (n : Nat) : Nat → List UInt8 → Nat → List (List UInt8) → Option (List UInt8 × Nat)
  | 0, p, k, _ => some (p, k)
  | f + 1, p, k, l =>
    if p.length < n then
      match l with
      | [] => some (p, k)
      | c :: l => if c = [] then none else gath n f (p ++ c.drop 1) (k + 1) l
    else some (p, k)

def sizeB (b : List UInt8) : Nat := num2 (b.getD 5 0) (b.getD 6 0)

/-- The payload of the record with which blocks begin, and how many blocks it has. -/
def one (ep : Nat) (l : List (List UInt8)) : Option (List UInt8 × Nat) :=
  match l with
  | [] => none
  | b :: r =>
    if b.length < 11 then none
    else if 512 < sizeB b then none
    else match gath (sizeB b) 3 (b.drop 11) 1 r with
      | none => none
      | some (p, k) => if p.length ≠ sizeB b then none else if blocks ep p = (b :: r).take k then some (p, k) else none

theorem lo_two (n : Nat) (h : n < 65536) : lo n 2 = [UInt8.ofNat (n % 256), UInt8.ofNat (n / 256)] := by
  have : n / 256 % 256 = n / 256 := by omega
  simp [lo, this]

theorem size_first (ep : Nat) (p : List UInt8) (h : p.length ≤ 512) : sizeB (firstB ep p) = p.length := by
  have h1 : lo ep 4 = [UInt8.ofNat (ep % 256), UInt8.ofNat (ep / 256 % 256), UInt8.ofNat (ep / 256 / 256 % 256), UInt8.ofNat (ep / 256 / 256 / 256 % 256)] := by simp [lo]
  have h2 := lo_two p.length (by omega)
  unfold sizeB firstB topB headB
  rw [h1, h2]
  simp only [List.cons_append, List.nil_append, List.getD_cons_succ, List.getD_cons_zero, num2]
  have a1 : (UInt8.ofNat (p.length % 256)).toNat = p.length % 256 := by simp
  have a2 : (UInt8.ofNat (p.length / 256)).toNat = p.length / 256 := by simp; omega
  rw [a1, a2]
  omega

/-- The blocks of a payload, gathered, are the payload. -/
theorem gath_rest (f : Nat) (p q : List UInt8) (k : Nat) (l : List (List UInt8)) (hq : q.length ≤ 255 * f) : gath (p.length + q.length) f p k (restB q ++ l) = some (p ++ q, k + (restB q).length) := by
  induction f generalizing p q k with
  | zero =>
    have : q = [] := List.length_eq_zero_iff.1 (by omega)
    subst this
    simp [gath, restB_nil]
  | succ f ih =>
    by_cases hp : q = []
    · subst hp
      simp [gath, restB_nil]
    · have h0 : 0 < q.length := List.length_pos_iff.2 hp
      rw [restB_cons q hp]
      simp only [gath, List.cons_append]
      rw [if_pos (by omega), if_neg (by simp)]
      simp only [List.drop_succ_cons, List.drop_zero]
      have := ih (p ++ q.take 255) (q.drop 255) (k + 1) (by rw [List.length_drop]; omega)
      rw [List.length_append, List.length_take, List.length_drop] at this
      rw [show p.length + min 255 q.length + (q.length - 255) = p.length + q.length by omega, List.append_assoc, List.take_append_drop] at this
      rw [this, List.length_cons]
      congr 2
      omega

/-- The blocks of a record, and any behind them: that record stands there. -/
theorem one_blocks (ep : Nat) (p : List UInt8) (l : List (List UInt8)) (h : p.length ≤ 512) : one ep (blocks ep p ++ l) = some (p, (blocks ep p).length) := by
  have hs := size_first ep p h
  have hg := gath_rest 3 (p.take 245) (p.drop 245) 1 l (by rw [List.length_drop]; omega)
  rw [List.length_take, List.length_drop, show min 245 p.length + (p.length - 245) = p.length by omega, List.take_append_drop] at hg
  have hd : (firstB ep p).drop 11 = p.take 245 := by
    rw [firstB, ← topB_len ep p, List.drop_left]
  have hl : 11 ≤ (firstB ep p).length := by
    rw [firstB, List.length_append, topB_len]
    omega
  have he : blocks ep p ++ l = firstB ep p :: (restB (p.drop 245) ++ l) := rfl
  rw [he]
  unfold one
  simp only
  rw [hs, if_neg (by omega), if_neg (by omega), hd, hg]
  simp only
  rw [if_neg (by simp), if_pos]
  · rw [blocks, List.length_cons, Nat.add_comm]
  · rw [blocks, show 1 + (restB (p.drop 245)).length = (restB (p.drop 245)).length + 1 by omega, List.take_succ_cons, List.take_left]

theorem one_some (ep : Nat) (l : List (List UInt8)) (p : List UInt8) (k : Nat) (h : one ep l = some (p, k)) : p.length ≤ 512 ∧ k = (blocks ep p).length ∧ k ≤ l.length ∧ blocks ep p = l.take k := by
  unfold one at h
  match l with
  | [] => simp at h
  | b :: r =>
    simp only at h
    by_cases h1 : b.length < 11
    · rw [if_pos h1] at h
      simp at h
    · rw [if_neg h1] at h
      by_cases h2 : 512 < sizeB b
      · rw [if_pos h2] at h
        simp at h
      · rw [if_neg h2] at h
        cases hg : gath (sizeB b) 3 (b.drop 11) 1 r with
        | none =>
          rw [hg] at h
          simp at h
        | some x =>
          obtain ⟨q, j⟩ := x
          rw [hg] at h
          simp only at h
          by_cases h3 : q.length ≠ sizeB b
          · rw [if_pos h3] at h
            simp at h
          · rw [if_neg h3] at h
            by_cases h4 : blocks ep q = (b :: r).take j
            · rw [if_pos h4] at h
              obtain ⟨rfl, rfl⟩ := Prod.mk.inj (Option.some.inj h)
              have hk : ∀ (f : Nat) (p q : List UInt8) (k j : Nat) (r : List (List UInt8)) (n : Nat), gath n f p k r = some (q, j) → j ≤ k + r.length := by
                intro f
                induction f with
                | zero =>
                  intro p q k j r n hh
                  obtain ⟨_, rfl⟩ := Prod.mk.inj (Option.some.inj hh)
                  omega
                | succ f ih =>
                  intro p q k j r n hh
                  unfold gath at hh
                  by_cases hn : p.length < n
                  · rw [if_pos hn] at hh
                    match r with
                    | [] =>
                      obtain ⟨_, rfl⟩ := Prod.mk.inj (Option.some.inj hh)
                      simp
                    | c :: r =>
                      simp only at hh
                      by_cases hc : c = []
                      · rw [if_pos hc] at hh
                        simp at hh
                      · rw [if_neg hc] at hh
                        have := ih _ _ _ _ _ _ hh
                        simp
                        omega
                  · rw [if_neg hn] at hh
                    obtain ⟨_, rfl⟩ := Prod.mk.inj (Option.some.inj hh)
                    omega
              have hj := hk _ _ _ _ _ _ _ hg
              have hlen : j ≤ (b :: r).length := by
                rw [List.length_cons]
                omega
              refine ⟨by omega, ?_, hlen, h4⟩
              have := congrArg List.length h4
              rw [List.length_take] at this
              omega
            · rw [if_neg h4] at h
              simp at h

/-! ### What blocks begin with -/

/-- The payloads, where their records begin, how many blocks they have. -/
def scanG (ep : Nat) : Nat → Nat → List (List UInt8) → List (List UInt8) × List Nat × Nat
  | 0, at_, _ => ([], [], at_)
  | f + 1, at_, l =>
    match one ep l with
    | none => ([], [], at_)
    | some (p, k) => (p :: (scanG ep f (at_ + k) (l.drop k)).1, at_ :: (scanG ep f (at_ + k) (l.drop k)).2.1, (scanG ep f (at_ + k) (l.drop k)).2.2)

def scan (ep : Nat) (l : List (List UInt8)) : List (List UInt8) × List Nat × Nat := scanG ep l.length 0 l

/-- Is a block a first block of an epoch? -/
def begins (ep : Nat) (b : List UInt8) : Prop := b.take 5 = 104 :: lo ep 4

def flat (ep : Nat) (ps : List (List UInt8)) : List (List UInt8) := ps.flatMap (blocks ep)

theorem one_none (ep : Nat) (l : List (List UInt8)) (h : ∀ b r, l = b :: r → ¬ begins ep b) : one ep l = none := by
  cases ho : one ep l with
  | none => rfl
  | some x =>
    obtain ⟨p, k⟩ := x
    obtain ⟨h1, h2, h3, h4⟩ := one_some ep l p k ho
    exfalso
    match l with
    | [] => simp [one] at ho
    | b :: r =>
      refine h b r rfl ?_
      have hb : b = firstB ep p := by
        have hk : 0 < k := by
          rw [h2]
          exact List.length_pos_iff.2 (blocks_ne ep p)
        obtain ⟨k, rfl⟩ := Nat.exists_eq_succ_of_ne_zero (by omega : k ≠ 0)
        rw [blocks, List.take_succ_cons] at h4
        exact (List.cons.inj h4).1.symm
      rw [hb]
      unfold begins firstB topB headB
      have : lo ep 4 = [UInt8.ofNat (ep % 256), UInt8.ofNat (ep / 256 % 256), UInt8.ofNat (ep / 256 / 256 % 256), UInt8.ofNat (ep / 256 / 256 / 256 % 256)] := by simp [lo]
      rw [this]
      simp

theorem scanG_whole (ep : Nat) (ps : List (List UInt8)) (behind : List (List UInt8)) (f at_ : Nat) (hp : ∀ p ∈ ps, p.length ≤ 512) (hb : one ep behind = none) (hf : ps.length ≤ f) : (scanG ep f at_ (flat ep ps ++ behind)).1 = ps ∧ (scanG ep f at_ (flat ep ps ++ behind)).2.2 = at_ + (flat ep ps).length := by
  induction ps generalizing f at_ with
  | nil =>
    cases f with
    | zero => exact ⟨rfl, rfl⟩
    | succ f =>
      unfold scanG
      simp [flat, hb]
  | cons p ps ih =>
    cases f with
    | zero => simp at hf
    | succ f =>
      have ho := one_blocks ep p (flat ep ps ++ behind) (hp p (by simp))
      have hi := ih f (at_ + (blocks ep p).length) (fun q hq => hp q (by simp [hq])) (by simpa using hf)
      have he : flat ep (p :: ps) ++ behind = blocks ep p ++ (flat ep ps ++ behind) := by simp [flat]
      rw [he]
      unfold scanG
      rw [ho]
      simp only [List.drop_left]
      refine ⟨by rw [hi.1], ?_⟩
      rw [hi.2]
      simp [flat]
      omega

theorem flat_len (ep : Nat) (ps : List (List UInt8)) : ps.length ≤ (flat ep ps).length := by
  induction ps with
  | nil => simp
  | cons p ps ih =>
    have : 0 < (blocks ep p).length := List.length_pos_iff.2 (blocks_ne ep p)
    simp only [flat, List.flatMap_cons, List.length_append, List.length_cons] at ih ⊢
    omega

/-- P12.3, P12.4: records one behind the other, and what doesn't begin as one behind them. -/
theorem scan_whole (ep : Nat) (ps : List (List UInt8)) (behind : List (List UInt8)) (hp : ∀ p ∈ ps, p.length ≤ 512) (hb : ∀ b r, behind = b :: r → ¬ begins ep b) : (scan ep (flat ep ps ++ behind)).1 = ps ∧ (scan ep (flat ep ps ++ behind)).2.2 = (flat ep ps).length := by
  have := scanG_whole ep ps behind (flat ep ps ++ behind).length 0 hp (one_none ep behind hb) (by have := flat_len ep ps; rw [List.length_append]; omega)
  rw [Nat.zero_add] at this
  exact this

/-- P12.5: what is told, framed again, is the blocks that were gone over. -/
theorem scanG_again (ep : Nat) (f at_ : Nat) (l : List (List UInt8)) : at_ ≤ (scanG ep f at_ l).2.2 ∧ (scanG ep f at_ l).2.2 - at_ ≤ l.length ∧ flat ep (scanG ep f at_ l).1 = l.take ((scanG ep f at_ l).2.2 - at_) ∧ (∀ p ∈ (scanG ep f at_ l).1, p.length ≤ 512) ∧ (scanG ep f at_ l).2.1.length = (scanG ep f at_ l).1.length := by
  induction f generalizing at_ l with
  | zero => simp [scanG, flat]
  | succ f ih =>
    unfold scanG
    cases ho : one ep l with
    | none => simp [flat]
    | some x =>
      obtain ⟨p, k⟩ := x
      obtain ⟨h1, h2, h3, h4⟩ := one_some ep l p k ho
      obtain ⟨i1, i2, i3, i4, i5⟩ := ih (at_ + k) (l.drop k)
      simp only
      rw [List.length_drop] at i2
      refine ⟨by omega, by omega, ?_, ?_, by simp [i5]⟩
      · have : flat ep (p :: (scanG ep f (at_ + k) (l.drop k)).1) = blocks ep p ++ flat ep (scanG ep f (at_ + k) (l.drop k)).1 := by simp [flat]
        rw [this, i3, h4]
        rw [show (scanG ep f (at_ + k) (l.drop k)).2.2 - at_ = k + ((scanG ep f (at_ + k) (l.drop k)).2.2 - (at_ + k)) by omega, List.take_add]
      · intro q hq
        rw [List.mem_cons] at hq
        rcases hq with rfl | hq
        · exact h1
        · exact i4 q hq

theorem scan_again (ep : Nat) (l : List (List UInt8)) : (scan ep l).2.2 ≤ l.length ∧ flat ep (scan ep l).1 = l.take (scan ep l).2.2 ∧ (∀ p ∈ (scan ep l).1, p.length ≤ 512) ∧ (scan ep l).2.1.length = (scan ep l).1.length := by
  have := scanG_again ep l.length 0 l
  simp only [Nat.sub_zero] at this
  exact ⟨this.2.1, this.2.2.1, this.2.2.2.1, this.2.2.2.2⟩
end Rc
end Go.Proofs.YtlgjnefieflmbaaDoor
