import Derived.Test.YtnllplholfhbdaaDoorSev
import Derived.Test.YtnllplholfhbdaaDoorPlain
/- Events: which may be, their bytes, and what bytes tell, as plain functions; there and back. No program is named here. -/
namespace Go.Proofs.YtnllplholfhbdaaDoor
open Go.RowKit
namespace Ev
open Pk
set_option linter.unusedVariables false
set_option linter.unusedSimpArgs false

/-- A session. -/
structure Sn where
  slot : Int
  birth : Int
  us : Int
  ub : Int
  kind : Int
  user : List UInt8
  label : List UInt8
  scopes : Int
  level : Int
  born : Int
  deadline : Int
  depth : Int

def Sn.zero : Sn := ⟨0, 0, 0, 0, 0, [], [], 0, 0, 0, 0, 0⟩

/-- An event. -/
structure Evt where
  kind : Int
  s : Sn
  birth : Int
  ticks : Int

def Evt.zero : Evt := ⟨0, Sn.zero, 0, 0⟩

def inI (n low high : Int) : Bool := decide (low ≤ n) && decide (n ≤ high)

theorem inI_iff (n low high : Int) : inI n low high = true ↔ low ≤ n ∧ n ≤ high := by simp [inI]

/-- May a session be born? First what all have, then what hangs on its kind. -/
def mayA (s : Sn) : Bool := inI s.slot 0 31 && inI s.birth 1 1048576 && Nm.nameB s.user && inI s.level 0 2 && inI s.born 0 1099511627776 && inI s.deadline (s.born + 1) 1099511627776

def mayC (s : Sn) : Bool := inI s.us 0 31 && inI s.ub 1 (s.birth - 1) && Nm.nameB s.label && inI s.depth 1 6

def mayK (s : Sn) : Bool :=
  if s.kind = 0 then s.us == 0 && s.ub == 0 && s.label.isEmpty && s.depth == 0
  else if s.kind = 1 then mayC s
  else if s.kind = 2 then mayC s && decide (s.deadline ≤ s.born + 300)
  else false

def mayS (s : Sn) : Bool := mayA s && mayK s

def Sn.isZero (s : Sn) : Bool := s.slot == 0 && s.birth == 0 && s.us == 0 && s.ub == 0 && s.kind == 0 && s.user.isEmpty && s.label.isEmpty && s.scopes == 0 && s.level == 0 && s.born == 0 && s.deadline == 0 && s.depth == 0

theorem Sn.isZero_iff (s : Sn) : s.isZero = true ↔ s = Sn.zero := by
  obtain ⟨a, b, c, d, e, f, g, h, i, j, k, l⟩ := s
  simp [Sn.isZero, Sn.zero, and_assoc]

def mayE (e : Evt) : Bool :=
  if e.kind = 0 then e.birth == 0 && e.ticks == 0 && mayS e.s
  else if e.kind = 1 then e.s.isZero && e.ticks == 0 && inI e.birth 1 1048576
  else if e.kind = 2 then e.s.isZero && e.birth == 0 && inI e.ticks 1 1073741824
  else false

/-- A number that is not below 0. -/
def sv (n : Int) : List UInt8 := sev n.toNat

def encS (s : Sn) : List UInt8 :=
  sv s.slot ++ (sv s.birth ++ (sv s.us ++ (sv s.ub ++ (sv s.kind ++ (txt s.user ++ (txt s.label ++ (sv s.scopes ++ (sv s.level ++ (sv s.born ++ (sv s.deadline ++ sv s.depth))))))))))

def encE (e : Evt) : List UInt8 :=
  sv e.kind ++ (if e.kind = 1 then sv e.birth else if e.kind = 2 then sv e.ticks else encS e.s)

/-- The bytes that are told: none, where it may not be. -/
def bytesE (e : Evt) : List UInt8 := if mayE e then encE e else []

/-- What was taken so far. -/
structure Tkn where
  left : List UInt8
  no : Nat
  big : Bool

def numT (t : Tkn) : Nat × Tkn :=
  if t.no ≠ 0 then (0, t)
  else if (num t.left).2.2 ≠ 0 then (0, ⟨t.left, (num t.left).2.2, t.big⟩)
  else ((num t.left).1, ⟨t.left.drop (num t.left).2.1, 0, t.big⟩)

def intT (t : Tkn) : Int × Tkn :=
  if 9223372036854775807 < (numT t).1 then (0, ⟨(numT t).2.left, (numT t).2.no, true⟩) else (((numT t).1 : Nat), (numT t).2)

def txtT (t : Tkn) : List UInt8 × Tkn :=
  if t.no ≠ 0 then ([], t)
  else if (taken t.left 32).2.2 ≠ 0 then ([], ⟨t.left, (taken t.left 32).2.2, t.big⟩)
  else ((taken t.left 32).1, ⟨t.left.drop (taken t.left 32).2.1, 0, t.big⟩)

def bornT (t0 : Tkn) : Sn × Tkn :=
  let (slot, t1) := intT t0
  let (birth, t2) := intT t1
  let (us, t3) := intT t2
  let (ub, t4) := intT t3
  let (kind, t5) := intT t4
  let (user, t6) := txtT t5
  let (label, t7) := txtT t6
  let (scopes, t8) := numT t7
  let (level, t9) := intT t8
  let (born, t10) := intT t9
  let (deadline, t11) := intT t10
  let (depth, t12) := intT t11
  (⟨slot, birth, us, ub, kind, user, label, (scopes : Nat), level, born, deadline, depth⟩, t12)

/-- What stands behind the kind. -/
def restT (k : Nat) (t : Tkn) : Evt × Tkn :=
  if k = 0 then (⟨0, (bornT t).1, 0, 0⟩, (bornT t).2)
  else if k = 1 then (⟨1, Sn.zero, (intT t).1, 0⟩, (intT t).2)
  else (⟨2, Sn.zero, 0, (intT t).1⟩, (intT t).2)

/-- What is told at the end. -/
def endT (x : Evt × Tkn) : Evt × Nat :=
  if x.2.no ≠ 0 then (Evt.zero, x.2.no)
  else if x.2.left ≠ [] then (Evt.zero, 3)
  else if x.2.big || !mayE x.1 then (Evt.zero, 1)
  else (x.1, 0)

def decE (b : List UInt8) : Evt × Nat :=
  let (k, t) := numT ⟨b, 0, false⟩
  if t.no ≠ 0 then (Evt.zero, t.no)
  else if 2 < k then (Evt.zero, 1)
  else endT (restT k t)

/-! ### Step by step -/

theorem numT_stuck (l : List UInt8) (no : Nat) (g : Bool) (h : no ≠ 0) : numT ⟨l, no, g⟩ = (0, ⟨l, no, g⟩) := by
  rw [numT, if_pos h]

theorem intT_stuck (l : List UInt8) (no : Nat) (g : Bool) (h : no ≠ 0) : intT ⟨l, no, g⟩ = (0, ⟨l, no, g⟩) := by
  rw [intT, numT_stuck l no g h, if_neg (by show ¬ 9223372036854775807 < 0; decide)]
  rfl

theorem txtT_stuck (l : List UInt8) (no : Nat) (g : Bool) (h : no ≠ 0) : txtT ⟨l, no, g⟩ = ([], ⟨l, no, g⟩) := by
  rw [txtT, if_pos h]

theorem numT_sev (v : Nat) (r : List UInt8) (g : Bool) (hv : v < 18446744073709551616) : numT ⟨sev v ++ r, 0, g⟩ = (v, ⟨r, 0, g⟩) := by
  have h := num_sev v r hv
  unfold numT
  rw [if_neg (by simp)]
  simp only [h]
  simp

theorem intT_sv (v : Int) (r : List UInt8) (g : Bool) (h0 : 0 ≤ v) (hv : v ≤ 9223372036854775807) : intT ⟨sv v ++ r, 0, g⟩ = (v, ⟨r, 0, g⟩) := by
  unfold intT sv
  rw [numT_sev v.toNat r g (by omega), if_neg (by show ¬ 9223372036854775807 < v.toNat; omega)]
  simp only [Prod.mk.injEq, and_true]
  omega

theorem numT_sv (v : Int) (r : List UInt8) (g : Bool) (h0 : 0 ≤ v) (hv : v < 18446744073709551616) : numT ⟨sv v ++ r, 0, g⟩ = (v.toNat, ⟨r, 0, g⟩) := numT_sev _ _ _ (by omega)

theorem txtT_txt (s r : List UInt8) (g : Bool) (hs : s.length ≤ 32) : txtT ⟨txt s ++ r, 0, g⟩ = (s, ⟨r, 0, g⟩) := by
  have h := taken_txt s r 32 (by omega) hs
  unfold txtT
  rw [if_neg (by simp)]
  simp only [h]
  simp

/-! ### What may be fits -/

structure Sn.ok (s : Sn) : Prop where
  slot : 0 ≤ s.slot ∧ s.slot ≤ 31
  birth : 0 ≤ s.birth ∧ s.birth ≤ 1048576
  us : 0 ≤ s.us ∧ s.us ≤ 31
  ub : 0 ≤ s.ub ∧ s.ub ≤ 1048576
  kind : 0 ≤ s.kind ∧ s.kind ≤ 2
  user : s.user.length ≤ 32
  label : s.label.length ≤ 32
  scopes : 0 ≤ s.scopes ∧ s.scopes < 18446744073709551616
  level : 0 ≤ s.level ∧ s.level ≤ 2
  born : 0 ≤ s.born ∧ s.born ≤ 1099511627776
  deadline : 0 ≤ s.deadline ∧ s.deadline ≤ 1099511627776
  depth : 0 ≤ s.depth ∧ s.depth ≤ 6

theorem name_len {l : List UInt8} (h : Nm.nameB l = true) : l.length ≤ 32 := by
  simp [Nm.nameB] at h
  exact h.1.2

theorem mayC_iff (s : Sn) : mayC s = true ↔ (0 ≤ s.us ∧ s.us ≤ 31) ∧ (1 ≤ s.ub ∧ s.ub ≤ s.birth - 1) ∧ Nm.nameB s.label = true ∧ (1 ≤ s.depth ∧ s.depth ≤ 6) := by
  simp [mayC, inI_iff, and_assoc]

theorem mayA_iff (s : Sn) : mayA s = true ↔ (0 ≤ s.slot ∧ s.slot ≤ 31) ∧ (1 ≤ s.birth ∧ s.birth ≤ 1048576) ∧ Nm.nameB s.user = true ∧ (0 ≤ s.level ∧ s.level ≤ 2) ∧ (0 ≤ s.born ∧ s.born ≤ 1099511627776) ∧ (s.born + 1 ≤ s.deadline ∧ s.deadline ≤ 1099511627776) := by
  simp [mayA, inI_iff, and_assoc]

theorem mayS_ok (s : Sn) (h : mayS s = true) (hsc : 0 ≤ s.scopes ∧ s.scopes < 18446744073709551616) : s.ok := by
  unfold mayS at h
  rw [Bool.and_eq_true, mayA_iff] at h
  obtain ⟨⟨h1, h2, h3, h4, h5, h6⟩, hk⟩ := h
  have hc : (mayC s = true ∧ 1 ≤ s.kind ∧ s.kind ≤ 2) ∨ (s.kind = 0 ∧ s.us = 0 ∧ s.ub = 0 ∧ s.label = [] ∧ s.depth = 0) := by
    unfold mayK at hk
    by_cases k0 : s.kind = 0
    · rw [if_pos k0] at hk
      simp [and_assoc] at hk
      exact .inr ⟨k0, hk⟩
    · rw [if_neg k0] at hk
      by_cases k1 : s.kind = 1
      · rw [if_pos k1] at hk
        exact .inl ⟨hk, by omega, by omega⟩
      · rw [if_neg k1] at hk
        by_cases k2 : s.kind = 2
        · rw [if_pos k2, Bool.and_eq_true] at hk
          exact .inl ⟨hk.1, by omega, by omega⟩
        · rw [if_neg k2] at hk
          simp at hk
  have hu := name_len h3
  rcases hc with ⟨hc, k1, k2⟩ | ⟨k0, hus, hub, hl, hd⟩
  · rw [mayC_iff] at hc
    obtain ⟨c1, c2, c3, c4⟩ := hc
    exact ⟨h1, by omega, c1, by omega, by omega, hu, name_len c3, hsc, h4, h5, by omega, by omega⟩
  · exact ⟨h1, by omega, by omega, by omega, by omega, hu, by rw [hl]; simp, hsc, h4, h5, by omega, by omega⟩

/-- What may be, by its kind. -/
theorem mayE_cases (e : Evt) (h : mayE e = true) : (e = ⟨0, e.s, 0, 0⟩ ∧ mayS e.s = true) ∨ (e = ⟨1, Sn.zero, e.birth, 0⟩ ∧ 1 ≤ e.birth ∧ e.birth ≤ 1048576) ∨ (e = ⟨2, Sn.zero, 0, e.ticks⟩ ∧ 1 ≤ e.ticks ∧ e.ticks ≤ 1073741824) := by
  obtain ⟨k, s, b, t⟩ := e
  unfold mayE at h
  simp only at h
  by_cases k0 : k = 0
  · rw [if_pos k0] at h
    simp at h
    obtain ⟨⟨h1, h2⟩, h3⟩ := h
    subst k0 h1 h2
    exact .inl ⟨rfl, h3⟩
  · rw [if_neg k0] at h
    by_cases k1 : k = 1
    · rw [if_pos k1, Bool.and_eq_true, Bool.and_eq_true, Sn.isZero_iff, inI_iff] at h
      obtain ⟨⟨h1, h2⟩, h3⟩ := h
      simp at h2
      subst k1 h1 h2
      exact .inr (.inl ⟨rfl, h3⟩)
    · rw [if_neg k1] at h
      by_cases k2 : k = 2
      · rw [if_pos k2, Bool.and_eq_true, Bool.and_eq_true, Sn.isZero_iff, inI_iff] at h
        obtain ⟨⟨h1, h2⟩, h3⟩ := h
        simp at h2
        subst k2 h1 h2
        exact .inr (.inr ⟨rfl, h3⟩)
      · rw [if_neg k2] at h
        simp at h

/-! ### There -/

theorem born_enc (s : Sn) (h : s.ok) (r : List UInt8) (g : Bool) : bornT ⟨encS s ++ r, 0, g⟩ = (s, ⟨r, 0, g⟩) := by
  have a1 := fun r => intT_sv s.slot r g h.slot.1 (by have := h.slot; omega)
  have a2 := fun r => intT_sv s.birth r g h.birth.1 (by have := h.birth; omega)
  have a3 := fun r => intT_sv s.us r g h.us.1 (by have := h.us; omega)
  have a4 := fun r => intT_sv s.ub r g h.ub.1 (by have := h.ub; omega)
  have a5 := fun r => intT_sv s.kind r g h.kind.1 (by have := h.kind; omega)
  have a6 := fun r => txtT_txt s.user r g h.user
  have a7 := fun r => txtT_txt s.label r g h.label
  have a8 := fun r => numT_sv s.scopes r g h.scopes.1 h.scopes.2
  have a9 := fun r => intT_sv s.level r g h.level.1 (by have := h.level; omega)
  have a10 := fun r => intT_sv s.born r g h.born.1 (by have := h.born; omega)
  have a11 := fun r => intT_sv s.deadline r g h.deadline.1 (by have := h.deadline; omega)
  have a12 := fun r => intT_sv s.depth r g h.depth.1 (by have := h.depth; omega)
  unfold bornT encS
  simp only [List.append_assoc, a1, a2, a3, a4, a5, a6, a7, a8, a9, a10, a11, a12]
  rw [Int.toNat_of_nonneg h.scopes.1]

theorem enc0 (s : Sn) : encE ⟨0, s, 0, 0⟩ = sev 0 ++ encS s := by
  unfold encE
  simp only
  rw [if_neg (by decide), if_neg (by decide)]
  rfl

theorem enc1 (n : Int) : encE ⟨1, Sn.zero, n, 0⟩ = sev 1 ++ sv n := by
  unfold encE
  simp only
  rw [if_pos trivial]
  rfl

theorem enc2 (n : Int) : encE ⟨2, Sn.zero, 0, n⟩ = sev 2 ++ sv n := by
  unfold encE
  simp only
  rw [if_neg (by decide), if_pos trivial]
  rfl

theorem dec_go (b r : List UInt8) (k : Nat) (g : Bool) (h : numT ⟨b, 0, false⟩ = (k, ⟨r, 0, g⟩)) (hk : k ≤ 2) : decE b = endT (restT k ⟨r, 0, g⟩) := by
  unfold decE
  rw [h]
  simp only
  rw [if_neg (by simp), if_neg (by omega)]

theorem dec_stuck (b l : List UInt8) (k : Nat) (g : Bool) (h : numT ⟨b, 0, false⟩ = (k, ⟨l, 2, g⟩)) : decE b = (Evt.zero, 2) := by
  unfold decE
  rw [h]
  simp only
  rw [if_pos (by simp)]

theorem rest0 (t : Tkn) : restT 0 t = (⟨0, (bornT t).1, 0, 0⟩, (bornT t).2) := by rw [restT, if_pos rfl]

theorem rest1 (t : Tkn) : restT 1 t = (⟨1, Sn.zero, (intT t).1, 0⟩, (intT t).2) := by rw [restT, if_neg (by decide), if_pos rfl]

theorem rest2 (t : Tkn) : restT 2 t = (⟨2, Sn.zero, 0, (intT t).1⟩, (intT t).2) := by rw [restT, if_neg (by decide), if_neg (by decide)]

theorem dec_app (e : Evt) (h : mayE e = true) (hsc : 0 ≤ e.s.scopes ∧ e.s.scopes < 18446744073709551616) (r : List UInt8) : decE (encE e ++ r) = if r = [] then (e, 0) else (Evt.zero, 3) := by
  have hend : ∀ x : Evt, mayE x = true → endT (x, ⟨r, 0, false⟩) = if r = [] then (x, 0) else (Evt.zero, 3) := fun x hx => by
    unfold endT
    simp only [hx, ne_eq, not_true_eq_false, if_false, Bool.not_true, Bool.or_false]
    by_cases hr : r = []
    · simp [hr]
    · simp [hr]
  rcases mayE_cases e h with ⟨he, hs⟩ | ⟨he, h1, h2⟩ | ⟨he, h1, h2⟩
  · rw [he] at h hsc ⊢
    generalize e.s = s at *
    rw [enc0, List.append_assoc, dec_go _ _ 0 false (numT_sev 0 _ false (by decide)) (by decide), rest0, born_enc s (mayS_ok s hs hsc)]
    exact hend _ h
  · rw [he] at h ⊢
    generalize e.birth = n at *
    rw [enc1, List.append_assoc, dec_go _ _ 1 false (numT_sev 1 _ false (by decide)) (by decide), rest1, intT_sv n r false (by omega) (by omega)]
    exact hend _ h
  · rw [he] at h ⊢
    generalize e.ticks = n at *
    rw [enc2, List.append_assoc, dec_go _ _ 2 false (numT_sev 2 _ false (by decide)) (by decide), rest2, intT_sv n r false (by omega) (by omega)]
    exact hend _ h

theorem dec_enc (e : Evt) (h : mayE e = true) (hsc : 0 ≤ e.s.scopes ∧ e.s.scopes < 18446744073709551616) : decE (encE e) = (e, 0) := by
  have := dec_app e h hsc []
  rwa [List.append_nil, if_pos rfl] at this

theorem dec_more (e : Evt) (h : mayE e = true) (hsc : 0 ≤ e.s.scopes ∧ e.s.scopes < 18446744073709551616) (x : UInt8) : decE (encE e ++ [x]) = (Evt.zero, 3) := by
  rw [dec_app e h hsc [x], if_neg (by simp)]

/-! ### Cut off -/

theorem numG_cut (f i v u k : Nat) (hf : f + i = 10) (hf0 : 0 < f) (hv : v < 128 ^ f) (hi : 0 < i → 0 < v) (h64 : f = 1 → v ≤ 1) (h9 : v * 128 ^ i < 18446744073709551616) (hk : k < (sev v).length) : numG f i u ((sev v).take k) = (0, 0, 2) := by
  induction f generalizing i v u k with
  | zero => omega
  | succ f ih =>
    cases k with
    | zero => rfl
    | succ k =>
      by_cases h : v < 128
      · rw [sev_lt v h] at hk
        simp at hk
      · have hf1 : 0 < f := by
          rcases Nat.eq_zero_or_pos f with rfl | h0
          · have := h64 rfl; omega
          · exact h0
        rw [sev_ge v (by omega)] at hk ⊢
        rw [List.take_succ_cons, numG, ofNat_toNat _ (by omega), if_neg (by omega), if_neg (by omega), show v % 128 + 128 - 128 = v % 128 by omega]
        have hd : v / 128 * 128 ^ (i + 1) + v % 128 * 128 ^ i = v * 128 ^ i := by
          rw [pow7, ← Nat.mul_assoc, Nat.mul_right_comm, ← Nat.add_mul]
          congr 1
          omega
        have hq : v / 128 < 128 ^ f := by
          rw [Nat.div_lt_iff_lt_mul (by decide)]
          rw [pow7] at hv
          exact hv
        refine ih (i + 1) (v / 128) _ k (by omega) hf1 hq (fun _ => by omega) (fun e => ?_) (by omega) (by simpa using hk)
        have hi9 : i + 1 = 9 := by omega
        rw [hi9] at hd
        have hp : (128 : Nat) ^ 9 = 9223372036854775808 := by decide
        rw [hp] at hd
        omega

theorem num_cut (v k : Nat) (hv : v < 18446744073709551616) (hk : k < (sev v).length) : num ((sev v).take k) = (0, 0, 2) :=
  numG_cut 10 0 v 0 k rfl (by decide) (Nat.lt_of_lt_of_le hv (by decide)) (fun h => by omega) (fun h => by omega) (by omega) hk

theorem take_app (a b : List UInt8) (k : Nat) : (k < a.length ∧ (a ++ b).take k = a.take k) ∨ (a.length ≤ k ∧ (a ++ b).take k = a ++ b.take (k - a.length)) := by
  rcases Nat.lt_or_ge k a.length with h | h
  · left
    refine ⟨h, ?_⟩
    rw [List.take_append, show k - a.length = 0 by omega]
    simp
  · right
    refine ⟨h, ?_⟩
    rw [List.take_append, List.take_of_length_le h]

theorem numT_cut (v : Nat) (r : List UInt8) (k : Nat) (g : Bool) (hv : v < 18446744073709551616) : (∃ l, numT ⟨(sev v ++ r).take k, 0, g⟩ = (0, ⟨l, 2, g⟩)) ∨ ((sev v).length ≤ k ∧ numT ⟨(sev v ++ r).take k, 0, g⟩ = (v, ⟨r.take (k - (sev v).length), 0, g⟩)) := by
  rcases take_app (sev v) r k with ⟨h, e⟩ | ⟨h, e⟩
  · left
    rw [e]
    refine ⟨(sev v).take k, ?_⟩
    unfold numT
    simp only [num_cut v k hv h, ne_eq, not_true_eq_false, if_false]
    rw [if_pos (by decide)]
  · exact .inr ⟨h, by rw [e, numT_sev v _ g hv]⟩

theorem intT_cut (v : Int) (r : List UInt8) (k : Nat) (g : Bool) (h0 : 0 ≤ v) (hv : v ≤ 9223372036854775807) : (∃ l, intT ⟨(sv v ++ r).take k, 0, g⟩ = (0, ⟨l, 2, g⟩)) ∨ ((sv v).length ≤ k ∧ intT ⟨(sv v ++ r).take k, 0, g⟩ = (v, ⟨r.take (k - (sv v).length), 0, g⟩)) := by
  rcases numT_cut v.toNat r k g (by omega) with ⟨l, h⟩ | ⟨h, e⟩
  · left
    refine ⟨l, ?_⟩
    unfold intT sv
    rw [h, if_neg (by show ¬ 9223372036854775807 < 0; decide)]
    rfl
  · right
    refine ⟨h, ?_⟩
    unfold intT sv
    rw [e, if_neg (by show ¬ 9223372036854775807 < v.toNat; omega)]
    simp only [Prod.mk.injEq, and_true]
    omega

theorem txtT_cut (s r : List UInt8) (k : Nat) (g : Bool) (hs : s.length ≤ 32) : (∃ l, txtT ⟨(txt s ++ r).take k, 0, g⟩ = ([], ⟨l, 2, g⟩)) ∨ ((txt s).length ≤ k ∧ txtT ⟨(txt s ++ r).take k, 0, g⟩ = (s, ⟨r.take (k - (txt s).length), 0, g⟩)) := by
  rcases take_app (txt s) r k with ⟨h, e⟩ | ⟨h, e⟩
  · left
    rw [e]
    refine ⟨(txt s).take k, ?_⟩
    have ht : taken ((txt s).take k) 32 = ([], 0, 2) := by
      rcases take_app (sev s.length) s k with ⟨h2, e2⟩ | ⟨h2, e2⟩
      · unfold taken
        rw [txt, e2, num_cut s.length k (by omega) h2]
        rfl
      · have h3 : k - (sev s.length).length < s.length := by
          rw [txt, List.length_append] at h
          omega
        unfold taken
        rw [txt, e2, num_sev s.length _ (by omega)]
        simp only
        rw [if_neg (by simp), if_neg (by omega), if_pos (by rw [List.length_append, List.length_take]; omega)]
    unfold txtT
    simp only [ht, ne_eq, not_true_eq_false, if_false]
    rw [if_pos (by decide)]
  · exact .inr ⟨h, by rw [e, txtT_txt s _ g hs]⟩

theorem born_stuck (t : Tkn) (h : t.no ≠ 0) : (bornT t).2 = t := by
  obtain ⟨l, no, g⟩ := t
  have a := intT_stuck l no g h
  have b := txtT_stuck l no g h
  have c := numT_stuck l no g h
  unfold bornT
  simp only [a, b, c]

theorem two_ne : (2 : Nat) ≠ 0 := by decide

theorem born_cut (s : Sn) (h : s.ok) (k0 : Nat) (g : Bool) (hk : k0 < (encS s).length) : (bornT ⟨(encS s).take k0, 0, g⟩).2.no = 2 := by
  obtain ⟨r12, q12⟩ : ∃ r : List UInt8, r = [] := ⟨_, rfl⟩
  obtain ⟨r11, q11⟩ : ∃ r : List UInt8, r = sv s.depth ++ r12 := ⟨_, rfl⟩
  obtain ⟨r10, q10⟩ : ∃ r : List UInt8, r = sv s.deadline ++ r11 := ⟨_, rfl⟩
  obtain ⟨r9, q9⟩ : ∃ r : List UInt8, r = sv s.born ++ r10 := ⟨_, rfl⟩
  obtain ⟨r8, q8⟩ : ∃ r : List UInt8, r = sv s.level ++ r9 := ⟨_, rfl⟩
  obtain ⟨r7, q7⟩ : ∃ r : List UInt8, r = sev s.scopes.toNat ++ r8 := ⟨_, rfl⟩
  obtain ⟨r6, q6⟩ : ∃ r : List UInt8, r = txt s.label ++ r7 := ⟨_, rfl⟩
  obtain ⟨r5, q5⟩ : ∃ r : List UInt8, r = txt s.user ++ r6 := ⟨_, rfl⟩
  obtain ⟨r4, q4⟩ : ∃ r : List UInt8, r = sv s.kind ++ r5 := ⟨_, rfl⟩
  obtain ⟨r3, q3⟩ : ∃ r : List UInt8, r = sv s.ub ++ r4 := ⟨_, rfl⟩
  obtain ⟨r2, q2⟩ : ∃ r : List UInt8, r = sv s.us ++ r3 := ⟨_, rfl⟩
  obtain ⟨r1, q1⟩ : ∃ r : List UInt8, r = sv s.birth ++ r2 := ⟨_, rfl⟩
  obtain ⟨r0, q0⟩ : ∃ r : List UInt8, r = sv s.slot ++ r1 := ⟨_, rfl⟩
  have hE : encS s = r0 := by
    rw [q0, q1, q2, q3, q4, q5, q6, q7, q8, q9, q10, q11, q12, List.append_nil]
    rfl
  rw [hE] at hk ⊢
  have l0 : r0.length = (sv s.slot).length + r1.length := by rw [q0, List.length_append]
  have l1 : r1.length = (sv s.birth).length + r2.length := by rw [q1, List.length_append]
  have l2 : r2.length = (sv s.us).length + r3.length := by rw [q2, List.length_append]
  have l3 : r3.length = (sv s.ub).length + r4.length := by rw [q3, List.length_append]
  have l4 : r4.length = (sv s.kind).length + r5.length := by rw [q4, List.length_append]
  have l5 : r5.length = (txt s.user).length + r6.length := by rw [q5, List.length_append]
  have l6 : r6.length = (txt s.label).length + r7.length := by rw [q6, List.length_append]
  have l7 : r7.length = (sev s.scopes.toNat).length + r8.length := by rw [q7, List.length_append]
  have l8 : r8.length = (sv s.level).length + r9.length := by rw [q8, List.length_append]
  have l9 : r9.length = (sv s.born).length + r10.length := by rw [q9, List.length_append]
  have l10 : r10.length = (sv s.deadline).length + r11.length := by rw [q10, List.length_append]
  have l11 : r11.length = (sv s.depth).length + r12.length := by rw [q11, List.length_append]
  have l12 : r12.length = 0 := by rw [q12]; rfl
  unfold bornT
  rw [q0]
  rcases intT_cut s.slot r1 k0 g h.slot.1 (by have := h.slot; omega) with ⟨l, e⟩ | ⟨c0, e⟩
  · simp only [e, intT_stuck _ _ _ two_ne, txtT_stuck _ _ _ two_ne, numT_stuck _ _ _ two_ne]
  simp only [e]
  obtain ⟨k1, d0⟩ : ∃ k, k0 - (sv s.slot).length = k := ⟨_, rfl⟩
  rw [d0]
  clear e
  rw [q1]
  rcases intT_cut s.birth r2 k1 g h.birth.1 (by have := h.birth; omega) with ⟨l, e⟩ | ⟨c1, e⟩
  · simp only [e, intT_stuck _ _ _ two_ne, txtT_stuck _ _ _ two_ne, numT_stuck _ _ _ two_ne]
  simp only [e]
  obtain ⟨k2, d1⟩ : ∃ k, k1 - (sv s.birth).length = k := ⟨_, rfl⟩
  rw [d1]
  clear e
  rw [q2]
  rcases intT_cut s.us r3 k2 g h.us.1 (by have := h.us; omega) with ⟨l, e⟩ | ⟨c2, e⟩
  · simp only [e, intT_stuck _ _ _ two_ne, txtT_stuck _ _ _ two_ne, numT_stuck _ _ _ two_ne]
  simp only [e]
  obtain ⟨k3, d2⟩ : ∃ k, k2 - (sv s.us).length = k := ⟨_, rfl⟩
  rw [d2]
  clear e
  rw [q3]
  rcases intT_cut s.ub r4 k3 g h.ub.1 (by have := h.ub; omega) with ⟨l, e⟩ | ⟨c3, e⟩
  · simp only [e, intT_stuck _ _ _ two_ne, txtT_stuck _ _ _ two_ne, numT_stuck _ _ _ two_ne]
  simp only [e]
  obtain ⟨k4, d3⟩ : ∃ k, k3 - (sv s.ub).length = k := ⟨_, rfl⟩
  rw [d3]
  clear e
  rw [q4]
  rcases intT_cut s.kind r5 k4 g h.kind.1 (by have := h.kind; omega) with ⟨l, e⟩ | ⟨c4, e⟩
  · simp only [e, intT_stuck _ _ _ two_ne, txtT_stuck _ _ _ two_ne, numT_stuck _ _ _ two_ne]
  simp only [e]
  obtain ⟨k5, d4⟩ : ∃ k, k4 - (sv s.kind).length = k := ⟨_, rfl⟩
  rw [d4]
  clear e
  rw [q5]
  rcases txtT_cut s.user r6 k5 g h.user with ⟨l, e⟩ | ⟨c5, e⟩
  · simp only [e, intT_stuck _ _ _ two_ne, txtT_stuck _ _ _ two_ne, numT_stuck _ _ _ two_ne]
  simp only [e]
  obtain ⟨k6, d5⟩ : ∃ k, k5 - (txt s.user).length = k := ⟨_, rfl⟩
  rw [d5]
  clear e
  rw [q6]
  rcases txtT_cut s.label r7 k6 g h.label with ⟨l, e⟩ | ⟨c6, e⟩
  · simp only [e, intT_stuck _ _ _ two_ne, txtT_stuck _ _ _ two_ne, numT_stuck _ _ _ two_ne]
  simp only [e]
  obtain ⟨k7, d6⟩ : ∃ k, k6 - (txt s.label).length = k := ⟨_, rfl⟩
  rw [d6]
  clear e
  rw [q7]
  rcases numT_cut s.scopes.toNat r8 k7 g (by have := h.scopes; omega) with ⟨l, e⟩ | ⟨c7, e⟩
  · simp only [e, intT_stuck _ _ _ two_ne, txtT_stuck _ _ _ two_ne, numT_stuck _ _ _ two_ne]
  simp only [e]
  obtain ⟨k8, d7⟩ : ∃ k, k7 - (sev s.scopes.toNat).length = k := ⟨_, rfl⟩
  rw [d7]
  clear e
  rw [q8]
  rcases intT_cut s.level r9 k8 g h.level.1 (by have := h.level; omega) with ⟨l, e⟩ | ⟨c8, e⟩
  · simp only [e, intT_stuck _ _ _ two_ne, txtT_stuck _ _ _ two_ne, numT_stuck _ _ _ two_ne]
  simp only [e]
  obtain ⟨k9, d8⟩ : ∃ k, k8 - (sv s.level).length = k := ⟨_, rfl⟩
  rw [d8]
  clear e
  rw [q9]
  rcases intT_cut s.born r10 k9 g h.born.1 (by have := h.born; omega) with ⟨l, e⟩ | ⟨c9, e⟩
  · simp only [e, intT_stuck _ _ _ two_ne, txtT_stuck _ _ _ two_ne, numT_stuck _ _ _ two_ne]
  simp only [e]
  obtain ⟨k10, d9⟩ : ∃ k, k9 - (sv s.born).length = k := ⟨_, rfl⟩
  rw [d9]
  clear e
  rw [q10]
  rcases intT_cut s.deadline r11 k10 g h.deadline.1 (by have := h.deadline; omega) with ⟨l, e⟩ | ⟨c10, e⟩
  · simp only [e, intT_stuck _ _ _ two_ne, txtT_stuck _ _ _ two_ne, numT_stuck _ _ _ two_ne]
  simp only [e]
  obtain ⟨k11, d10⟩ : ∃ k, k10 - (sv s.deadline).length = k := ⟨_, rfl⟩
  rw [d10]
  clear e
  rw [q11]
  rcases intT_cut s.depth r12 k11 g h.depth.1 (by have := h.depth; omega) with ⟨l, e⟩ | ⟨c11, e⟩
  · simp only [e]
  omega

theorem endT_no (x : Evt) (t : Tkn) (h : t.no = 2) : endT (x, t) = (Evt.zero, 2) := by
  unfold endT
  simp only
  rw [h, if_pos (by decide)]

theorem dec_cut (e : Evt) (h : mayE e = true) (hsc : 0 ≤ e.s.scopes ∧ e.s.scopes < 18446744073709551616) (k : Nat) (hk : k < (encE e).length) : decE ((encE e).take k) = (Evt.zero, 2) := by
  rcases mayE_cases e h with ⟨he, hs⟩ | ⟨he, h1, h2⟩ | ⟨he, h1, h2⟩
  · rw [he] at hsc hk ⊢
    generalize e.s = s at *
    rw [enc0] at hk ⊢
    rw [List.length_append] at hk
    rcases numT_cut 0 (encS s) k false (by decide) with ⟨l, e1⟩ | ⟨h3, e1⟩
    · exact dec_stuck _ _ _ _ e1
    · rw [dec_go _ _ _ _ e1 (by decide), rest0]
      have hb := born_cut s (mayS_ok s hs hsc) (k - (sev 0).length) false (by omega)
      exact endT_no _ _ hb
  · rw [he] at hk ⊢
    generalize e.birth = n at *
    rw [enc1] at hk ⊢
    rw [List.length_append] at hk
    rcases numT_cut 1 (sv n) k false (by decide) with ⟨l, e1⟩ | ⟨h3, e1⟩
    · exact dec_stuck _ _ _ _ e1
    · rw [dec_go _ _ _ _ e1 (by decide), rest1]
      rcases intT_cut n [] (k - (sev 1).length) false (by omega) (by omega) with ⟨l, e2⟩ | ⟨h4, e2⟩
      · rw [List.append_nil] at e2
        rw [e2]
        exact endT_no _ _ rfl
      · omega
  · rw [he] at hk ⊢
    generalize e.ticks = n at *
    rw [enc2] at hk ⊢
    rw [List.length_append] at hk
    rcases numT_cut 2 (sv n) k false (by decide) with ⟨l, e1⟩ | ⟨h3, e1⟩
    · exact dec_stuck _ _ _ _ e1
    · rw [dec_go _ _ _ _ e1 (by decide), rest2]
      rcases intT_cut n [] (k - (sev 2).length) false (by omega) (by omega) with ⟨l, e2⟩ | ⟨h4, e2⟩
      · rw [List.append_nil] at e2
        rw [e2]
        exact endT_no _ _ rfl
      · omega

/-! ### Back -/

theorem numT_back (t t' : Tkn) (v : Nat) (h : numT t = (v, t')) (hno : t'.no = 0) : t.no = 0 ∧ t'.big = t.big ∧ v < 18446744073709551616 ∧ t.left = sev v ++ t'.left := by
  unfold numT at h
  by_cases h0 : t.no ≠ 0
  · rw [if_pos h0] at h
    simp only [Prod.mk.injEq] at h
    obtain ⟨_, rfl⟩ := h
    exact absurd hno h0
  · rw [if_neg h0] at h
    obtain ⟨x, n, no, hn⟩ : ∃ x n no, num t.left = (x, n, no) := ⟨_, _, _, rfl⟩
    rw [hn] at h
    simp only at h
    by_cases h1 : no ≠ 0
    · rw [if_pos h1] at h
      simp only [Prod.mk.injEq] at h
      obtain ⟨_, rfl⟩ := h
      exact absurd hno h1
    · rw [if_neg h1] at h
      simp only [Prod.mk.injEq] at h
      obtain ⟨rfl, rfl⟩ := h
      obtain rfl : no = 0 := by omega
      obtain ⟨a, _, b, c⟩ := num_back t.left x n hn
      refine ⟨by omega, rfl, a, ?_⟩
      rw [c]
      exact (List.take_append_drop n t.left).symm

theorem intT_back (t t' : Tkn) (v : Int) (h : intT t = (v, t')) (hno : t'.no = 0) (hbig : t'.big = false) : t.no = 0 ∧ t.big = false ∧ 0 ≤ v ∧ v ≤ 9223372036854775807 ∧ t.left = sv v ++ t'.left := by
  unfold intT at h
  obtain ⟨x, t1, hn⟩ : ∃ x t1, numT t = (x, t1) := ⟨_, _, rfl⟩
  rw [hn] at h
  simp only at h
  by_cases h1 : 9223372036854775807 < x
  · rw [if_pos h1] at h
    simp only [Prod.mk.injEq] at h
    obtain ⟨_, rfl⟩ := h
    simp at hbig
  · rw [if_neg h1] at h
    simp only [Prod.mk.injEq] at h
    obtain ⟨rfl, rfl⟩ := h
    obtain ⟨a, b, c, d⟩ := numT_back t t1 x hn hno
    exact ⟨a, by rw [← b]; exact hbig, by omega, by omega, by rw [d, sv, Int.toNat_natCast]⟩

theorem txtT_back (t t' : Tkn) (s : List UInt8) (h : txtT t = (s, t')) (hno : t'.no = 0) : t.no = 0 ∧ t'.big = t.big ∧ s.length ≤ 32 ∧ t.left = txt s ++ t'.left := by
  unfold txtT at h
  by_cases h0 : t.no ≠ 0
  · rw [if_pos h0] at h
    simp only [Prod.mk.injEq] at h
    obtain ⟨_, rfl⟩ := h
    exact absurd hno h0
  · rw [if_neg h0] at h
    obtain ⟨x, n, no, hn⟩ : ∃ x n no, taken t.left 32 = (x, n, no) := ⟨_, _, _, rfl⟩
    rw [hn] at h
    simp only at h
    by_cases h1 : no ≠ 0
    · rw [if_pos h1] at h
      simp only [Prod.mk.injEq] at h
      obtain ⟨_, rfl⟩ := h
      exact absurd hno h1
    · rw [if_neg h1] at h
      simp only [Prod.mk.injEq] at h
      obtain ⟨rfl, rfl⟩ := h
      obtain rfl : no = 0 := by omega
      obtain ⟨a, b, c⟩ := taken_back t.left 32 x n hn
      refine ⟨by omega, rfl, c, ?_⟩
      rw [b]
      exact (List.take_append_drop n t.left).symm

theorem born_back (t t' : Tkn) (s : Sn) (h : bornT t = (s, t')) (hno : t'.no = 0) (hbig : t'.big = false) : t.no = 0 ∧ t.big = false ∧ (0 ≤ s.scopes ∧ s.scopes < 18446744073709551616) ∧ t.left = encS s ++ t'.left := by
  obtain ⟨v1, t1, h1⟩ : ∃ v t', intT t = (v, t') := ⟨_, _, rfl⟩
  obtain ⟨v2, t2, h2⟩ : ∃ v t', intT t1 = (v, t') := ⟨_, _, rfl⟩
  obtain ⟨v3, t3, h3⟩ : ∃ v t', intT t2 = (v, t') := ⟨_, _, rfl⟩
  obtain ⟨v4, t4, h4⟩ : ∃ v t', intT t3 = (v, t') := ⟨_, _, rfl⟩
  obtain ⟨v5, t5, h5⟩ : ∃ v t', intT t4 = (v, t') := ⟨_, _, rfl⟩
  obtain ⟨v6, t6, h6⟩ : ∃ v t', txtT t5 = (v, t') := ⟨_, _, rfl⟩
  obtain ⟨v7, t7, h7⟩ : ∃ v t', txtT t6 = (v, t') := ⟨_, _, rfl⟩
  obtain ⟨v8, t8, h8⟩ : ∃ v t', numT t7 = (v, t') := ⟨_, _, rfl⟩
  obtain ⟨v9, t9, h9⟩ : ∃ v t', intT t8 = (v, t') := ⟨_, _, rfl⟩
  obtain ⟨v10, t10, h10⟩ : ∃ v t', intT t9 = (v, t') := ⟨_, _, rfl⟩
  obtain ⟨v11, t11, h11⟩ : ∃ v t', intT t10 = (v, t') := ⟨_, _, rfl⟩
  obtain ⟨v12, t12, h12⟩ : ∃ v t', intT t11 = (v, t') := ⟨_, _, rfl⟩
  unfold bornT at h
  simp only [h1, h2, h3, h4, h5, h6, h7, h8, h9, h10, h11, h12, Prod.mk.injEq] at h
  obtain ⟨rfl, rfl⟩ := h
  obtain ⟨n11, b11, _, _, e12⟩ := intT_back _ _ _ h12 hno hbig
  obtain ⟨n10, b10, _, _, e11⟩ := intT_back _ _ _ h11 n11 b11
  obtain ⟨n9, b9, _, _, e10⟩ := intT_back _ _ _ h10 n10 b10
  obtain ⟨n8, b8, _, _, e9⟩ := intT_back _ _ _ h9 n9 b9
  obtain ⟨n7, b7, s8, e8⟩ := numT_back _ _ _ h8 n8
  rw [b8] at b7
  obtain ⟨n6, b6, _, e7⟩ := txtT_back _ _ _ h7 n7
  rw [← b7] at b6
  obtain ⟨n5, b5, _, e6⟩ := txtT_back _ _ _ h6 n6
  rw [← b6] at b5
  obtain ⟨n4, b4, _, _, e5⟩ := intT_back _ _ _ h5 n5 b5.symm
  obtain ⟨n3, b3, _, _, e4⟩ := intT_back _ _ _ h4 n4 b4
  obtain ⟨n2, b2, _, _, e3⟩ := intT_back _ _ _ h3 n3 b3
  obtain ⟨n1, b1, _, _, e2⟩ := intT_back _ _ _ h2 n2 b2
  obtain ⟨n0, b0, _, _, e1⟩ := intT_back _ _ _ h1 n1 b1
  refine ⟨n0, b0, ⟨by show (0 : Int) ≤ (v8 : Int); omega, by show (v8 : Int) < _; omega⟩, ?_⟩
  rw [e1, e2, e3, e4, e5, e6, e7, e8, e9, e10, e11, e12]
  simp only [encS, List.append_assoc, sv, Int.toNat_natCast]

theorem dec_back (b : List UInt8) (e : Evt) (h : decE b = (e, 0)) : mayE e = true ∧ (0 ≤ e.s.scopes ∧ e.s.scopes < 18446744073709551616) ∧ encE e = b := by
  obtain ⟨k, t, hk⟩ : ∃ k t, numT ⟨b, 0, false⟩ = (k, t) := ⟨_, _, rfl⟩
  unfold decE at h
  rw [hk] at h
  simp only at h
  by_cases h0 : t.no ≠ 0
  · rw [if_pos h0] at h
    simp only [Prod.mk.injEq] at h
    exact absurd h.2 h0
  · rw [if_neg h0] at h
    by_cases h2 : 2 < k
    · rw [if_pos h2] at h
      simp at h
    · rw [if_neg h2] at h
      obtain ⟨_, hb, _, hl⟩ := numT_back _ _ _ hk (by omega)
      simp only at hb hl
      obtain ⟨x, u, hx⟩ : ∃ x u, restT k t = (x, u) := ⟨_, _, rfl⟩
      rw [hx] at h
      unfold endT at h
      simp only at h
      by_cases u0 : u.no ≠ 0
      · rw [if_pos u0] at h
        simp only [Prod.mk.injEq] at h
        exact absurd h.2 u0
      · rw [if_neg u0] at h
        by_cases u1 : u.left ≠ []
        · rw [if_pos u1] at h
          simp at h
        · rw [if_neg u1] at h
          by_cases u2 : (u.big || !mayE x) = true
          · rw [if_pos u2] at h
            simp at h
          · rw [if_neg u2] at h
            simp only [Prod.mk.injEq, and_true] at h
            subst h
            have hm : u.big = false ∧ mayE x = true := by simpa using u2
            have hl0 : u.left = [] := by simpa using u1
            have un : u.no = 0 := Decidable.not_not.mp u0
            refine ⟨hm.2, ?_⟩
            by_cases k0 : k = 0
            · subst k0
              obtain ⟨sx, ux, hbt⟩ : ∃ sx ux, bornT t = (sx, ux) := ⟨(bornT t).1, (bornT t).2, (Prod.eta _).symm⟩
              rw [rest0, hbt] at hx
              simp only [Prod.mk.injEq] at hx
              obtain ⟨rfl, rfl⟩ := hx
              obtain ⟨_, _, hs, hle⟩ := born_back t ux sx hbt un hm.1
              refine ⟨hs, ?_⟩
              rw [enc0, hl, hle, hl0, List.append_nil]
            · by_cases k1 : k = 1
              · subst k1
                obtain ⟨sx, ux, hbt⟩ : ∃ sx ux, intT t = (sx, ux) := ⟨_, _, rfl⟩
                rw [rest1, hbt] at hx
                simp only [Prod.mk.injEq] at hx
                obtain ⟨rfl, rfl⟩ := hx
                obtain ⟨_, _, _, _, hle⟩ := intT_back t ux sx hbt un hm.1
                refine ⟨by simp [Sn.zero], ?_⟩
                rw [enc1, hl, hle, hl0, List.append_nil]
              · obtain rfl : k = 2 := by omega
                obtain ⟨sx, ux, hbt⟩ : ∃ sx ux, intT t = (sx, ux) := ⟨_, _, rfl⟩
                rw [rest2, hbt] at hx
                simp only [Prod.mk.injEq] at hx
                obtain ⟨rfl, rfl⟩ := hx
                obtain ⟨_, _, _, _, hle⟩ := intT_back t ux sx hbt un hm.1
                refine ⟨by simp [Sn.zero], ?_⟩
                rw [enc2, hl, hle, hl0, List.append_nil]

theorem dec_no (b : List UInt8) (h : (decE b).2 ≠ 0) : (decE b).1 = Evt.zero := by
  obtain ⟨k, t, hk⟩ : ∃ k t, numT ⟨b, 0, false⟩ = (k, t) := ⟨_, _, rfl⟩
  unfold decE at h ⊢
  rw [hk] at h ⊢
  simp only at h ⊢
  by_cases h0 : t.no ≠ 0
  · rw [if_pos h0]
  · rw [if_neg h0] at h ⊢
    by_cases h2 : 2 < k
    · rw [if_pos h2]
    · rw [if_neg h2] at h ⊢
      unfold endT at h ⊢
      by_cases u0 : (restT k t).2.no ≠ 0
      · rw [if_pos u0]
      · rw [if_neg u0] at h ⊢
        by_cases u1 : (restT k t).2.left ≠ []
        · rw [if_pos u1]
        · rw [if_neg u1] at h ⊢
          by_cases u2 : ((restT k t).2.big || !mayE (restT k t).1) = true
          · rw [if_pos u2]
          · rw [if_neg u2] at h
            simp at h

/-! ### How long -/

theorem sv_len (f : Nat) (v : Int) (h : v.toNat < 128 ^ (f + 1)) : (sv v).length ≤ f + 1 := sev_len f v.toNat h

theorem txt_len (s : List UInt8) (h : s.length ≤ 32) : (txt s).length ≤ 33 := by
  have := sev_len 0 s.length (by omega)
  rw [txt, List.length_append]
  omega

theorem enc_len (e : Evt) (h : mayE e = true) (hsc : 0 ≤ e.s.scopes ∧ e.s.scopes < 18446744073709551616) : (encE e).length ≤ 100 := by
  have p1 : (128 : Nat) ^ (0 + 1) = 128 := by decide
  have p3 : (128 : Nat) ^ (2 + 1) = 2097152 := by decide
  have p5 : (128 : Nat) ^ (4 + 1) = 34359738368 := by decide
  have p6 : (128 : Nat) ^ (5 + 1) = 4398046511104 := by decide
  have p10 : (18446744073709551616 : Nat) ≤ 128 ^ (9 + 1) := by decide
  rcases mayE_cases e h with ⟨he, hs⟩ | ⟨he, h1, h2⟩ | ⟨he, h1, h2⟩
  · rw [he] at hsc ⊢
    generalize e.s = s at *
    have ok := mayS_ok s hs hsc
    have a0 := sv_len 0 0 (by decide)
    have a1 := sv_len 0 s.slot (by have := ok.slot; omega)
    have a2 := sv_len 2 s.birth (by have := ok.birth; omega)
    have a3 := sv_len 0 s.us (by have := ok.us; omega)
    have a4 := sv_len 2 s.ub (by have := ok.ub; omega)
    have a5 := sv_len 0 s.kind (by have := ok.kind; omega)
    have a6 := txt_len s.user ok.user
    have a7 := txt_len s.label ok.label
    have a8 := sv_len 9 s.scopes (by have := ok.scopes; omega)
    have a9 := sv_len 0 s.level (by have := ok.level; omega)
    have a10 := sv_len 5 s.born (by have := ok.born; omega)
    have a11 := sv_len 5 s.deadline (by have := ok.deadline; omega)
    have a12 := sv_len 0 s.depth (by have := ok.depth; omega)
    unfold encE
    simp only
    rw [if_neg (by decide), if_neg (by decide), encS]
    simp only [List.length_append]
    omega
  · rw [he]
    have a0 := sv_len 0 1 (by decide)
    have a1 := sv_len 2 e.birth (by omega)
    unfold encE
    simp only
    rw [if_pos trivial, List.length_append]
    omega
  · rw [he]
    have a0 := sv_len 0 2 (by decide)
    have a1 := sv_len 4 e.ticks (by omega)
    unfold encE
    simp only
    rw [if_neg (by decide), if_pos trivial, List.length_append]
    omega

theorem bytes_len (e : Evt) (hsc : 0 ≤ e.s.scopes ∧ e.s.scopes < 18446744073709551616) : (bytesE e).length ≤ 100 := by
  unfold bytesE
  by_cases h : mayE e = true
  · rw [if_pos h]
    exact enc_len e h hsc
  · rw [if_neg h]
    simp

theorem enc_pos (e : Evt) : 0 < (encE e).length := by
  have h2 : 0 < (sev e.kind.toNat).length := by
    rw [sev]
    split <;> simp
  unfold encE sv
  rw [List.length_append]
  omega
end Ev
end Go.Proofs.YtnllplholfhbdaaDoor
