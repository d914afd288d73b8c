/- Plain facts on the forms of times: digits, parts, the document's way of reading against the program's, there and back. No program is named here. -/
import Derived.Lib.ItoaNum
namespace Go.Proofs.YtfibcbnhjajdlabDoor
namespace Ck

def tk : Nat → Nat
  | 0 => 86400
  | 1 => 3600
  | 2 => 60
  | _ => 1
def lt' : Nat → UInt8
  | 0 => 100
  | 1 => 104
  | 2 => 109
  | _ => 115
def ms : Nat → Nat
  | 0 => 1099511627777
  | 1 => 23
  | _ => 59

/-- One part of a form. -/
def part (k c : Nat) : List UInt8 := if c = 0 then [] else Lib.decDigits c ++ [lt' k]
def re : Nat → Nat → Nat
  | 0, n => n
  | k + 1, n => re k n % tk k
def fo : Nat → Nat → List UInt8
  | 0, _ => []
  | k + 1, n => fo k n ++ part k (re k n / tk k)
/-- The form of a time. -/
def formL (n : Nat) : List UInt8 := if fo 4 n = [] then [48, 115] else fo 4 n

def isD (c : UInt8) : Bool := decide (48 ≤ c.toNat) && decide (c.toNat ≤ 57)
def valS (a : Nat) (c : UInt8) : Nat := 10 * a + (c.toNat - 48)
def capS (a : Nat) (c : UInt8) : Nat := min (10 * a + (c.toNat - 48)) 1099511627777
def val (l : List UInt8) : Nat := l.foldl valS 0
def capV (l : List UInt8) : Nat := l.foldl capS 0
def dg (l : List UInt8) : List UInt8 := l.takeWhile isD
def be (l : List UInt8) : List UInt8 := l.dropWhile isD
def numN (l : List UInt8) : Nat := capV (dg l)
def badH (r : List UInt8) : Bool := decide ((r.headD 0).toNat < 49) || decide (57 < (r.headD 0).toNat)

/-- The program's way: unit by unit. -/
def partsG : Nat → Nat → Nat → List UInt8 → Nat × List UInt8
  | 0, _, t, r => (t, r)
  | j + 1, k, t, r =>
    if be r = [] then (t, r)
    else if (be r).headD 0 ≠ lt' k then partsG j (k + 1) t r
    else if badH r = true ∨ ms k < numN r then (t, r)
    else partsG j (k + 1) (t + numN r * tk k) (be r).tail
def finP (x : Nat × List UInt8) : Nat × Nat := if x.1 = 0 ∨ x.2 ≠ [] then (0, 4) else if 1099511627776 < x.1 then (0, 12) else (x.1, 0)
def parseG (l : List UInt8) : Nat × Nat := if l = [48, 115] then (0, 0) else finP (partsG 4 0 0 l)

/-- The document's way: part by part. -/
def findK (c : UInt8) : Nat → Nat → Nat
  | 0, k => k
  | j + 1, k => if lt' k = c then k else findK c j (k + 1)
def fin (s : Nat) (r : List UInt8) : Nat × Nat := if r ≠ [] ∨ s = 0 then (0, 4) else if 1099511627776 < s then (0, 12) else (s, 0)
def refG : Nat → Nat → Nat → List UInt8 → Nat × Nat
  | 0, _, s, r => fin s r
  | i + 1, k, s, r =>
    if r = [] then fin s r
    else if badH r = true ∨ be r = [] then (0, 4)
    else
      if findK ((be r).headD 0) (4 - k) k = 4 ∨ (0 < findK ((be r).headD 0) (4 - k) k ∧ tk (findK ((be r).headD 0) (4 - k) k - 1) ≤ numN r * tk (findK ((be r).headD 0) (4 - k) k)) then (0, 4)
      else refG i (findK ((be r).headD 0) (4 - k) k + 1) (min (s + numN r * tk (findK ((be r).headD 0) (4 - k) k)) 1099511627777) (be r).tail

theorem capV_min (l : List UInt8) : capV l = min (val l) 1099511627777 := by
  have key : ∀ (l : List UInt8) (a b : Nat), b = min a 1099511627777 → l.foldl capS b = min (l.foldl valS a) 1099511627777 := by
    intro l
    induction l with
    | nil => intro a b h; simpa using h
    | cons c l ih =>
      intro a b h
      rw [List.foldl_cons, List.foldl_cons]
      refine ih _ _ ?_
      unfold capS valS
      omega
  exact key l 0 0 (by simp)

theorem capV_le (l : List UInt8) : capV l ≤ 1099511627777 := by rw [capV_min]; omega

theorem numN_le (r : List UInt8) : numN r ≤ 1099511627777 := capV_le _

theorem ge_iff {k n : Nat} (h0 : 0 < k) (h4 : k < 4) : (tk (k - 1) ≤ n * tk k) ↔ ms k < n := by
  obtain rfl | rfl | rfl : k = 1 ∨ k = 2 ∨ k = 3 := by omega
  · simp only [tk, ms]; omega
  · simp only [tk, ms]; omega
  · simp only [tk, ms]; omega

theorem fin_min (t : Nat) (r : List UInt8) : fin (min t 1099511627777) r = finP (t, r) := by
  unfold fin finP
  by_cases hr : r = []
  · subst hr
    by_cases ht : t = 0
    · subst ht; simp
    · by_cases h2 : 1099511627776 < t
      · have e : min t 1099511627777 = 1099511627777 := by omega
        rw [e]
        simp [ht, h2]
      · have e : min t 1099511627777 = t := by omega
        rw [e]
        simp [ht, h2]
  · simp [hr]

theorem finP_bad {t : Nat} {r : List UInt8} (h : r ≠ []) : finP (t, r) = (0, 4) := by simp [finP, h]

theorem be_nil {r : List UInt8} (h : be r ≠ []) : r ≠ [] := by rintro rfl; exact h rfl

theorem ref_parts : ∀ (j k : Nat), j + k = 4 → ∀ (i t : Nat) (r : List UInt8), j < i → finP (partsG j k t r) = refG i k (min t 1099511627777) r := by
  intro j
  induction j with
  | zero =>
    intro k hk i t r hi
    obtain rfl : k = 4 := by omega
    obtain ⟨i, rfl⟩ := Nat.exists_eq_add_of_lt hi
    rw [show 0 + i + 1 = i + 1 by omega]
    unfold partsG refG
    by_cases hr : r = []
    · subst hr; rw [if_pos rfl, fin_min]
    · rw [if_neg hr, finP_bad hr]
      simp [findK]
  | succ j ih =>
    intro k hk i t r hi
    obtain ⟨i, rfl⟩ : ∃ i', i = i' + 1 := ⟨i - 1, by omega⟩
    have hk4 : k < 4 := by omega
    have e4 : 4 - k = j + 1 := by omega
    by_cases hr : r = []
    · subst hr
      unfold partsG refG
      rw [if_pos rfl, if_pos (show be [] = [] from rfl), fin_min]
    unfold partsG refG
    rw [if_neg hr, e4]
    by_cases hb : be r = []
    · rw [if_pos hb, if_pos (.inr hb), finP_bad hr]
    rw [if_neg hb]
    by_cases hl : (be r).headD 0 = lt' k
    · rw [if_neg (fun h => h hl)]
      have ef : findK ((be r).headD 0) (j + 1) k = k := by unfold findK; rw [if_pos hl.symm]
      rw [ef]
      by_cases hbad : badH r = true
      · rw [if_pos (.inl hbad), if_pos (.inl hbad), finP_bad hr]
      · rw [if_neg (fun h : badH r = true ∨ be r = [] => h.elim hbad hb)]
        by_cases hm : ms k < numN r
        · rw [if_pos (.inr hm), finP_bad hr]
          have hk0 : 0 < k := by
            rcases Nat.eq_zero_or_pos k with h | h
            · subst h
              have := numN_le r
              simp only [ms] at hm
              omega
            · exact h
          rw [if_pos (.inr ⟨hk0, (ge_iff hk0 hk4).2 hm⟩)]
        · rw [if_neg (fun h : badH r = true ∨ ms k < numN r => h.elim hbad hm)]
          rw [if_neg (fun h => by
            rcases h with h | ⟨h0, h⟩
            · omega
            · exact hm ((ge_iff h0 hk4).1 h))]
          rw [ih (k + 1) (by omega) i _ _ (by omega)]
          congr 1
          omega
    · rw [if_pos hl]
      have ef : findK ((be r).headD 0) (j + 1) k = findK ((be r).headD 0) j (k + 1) := by rw [findK, if_neg (fun h => hl h.symm)]
      rw [ih (k + 1) (by omega) (i + 1) t r (by omega), refG, if_neg hr, show 4 - (k + 1) = j by omega, ef]

theorem parse_ref (l : List UInt8) : parseG l = if l = [48, 115] then (0, 0) else refG 5 0 0 l := by
  unfold parseG
  by_cases h : l = [48, 115]
  · rw [if_pos h, if_pos h]
  · rw [if_neg h, if_neg h]
    exact ref_parts 4 0 rfl 5 0 l (by omega)

/-! Digits -/

theorem dec_small {n : Nat} (h : n < 10) : Lib.decDigits n = [UInt8.ofNat (48 + n)] := Lib.decDigits_one h

theorem dec_big {n : Nat} (h : 10 ≤ n) : Lib.decDigits n = Lib.decDigits (n / 10) ++ [UInt8.ofNat (48 + n % 10)] := by rw [Lib.decDigits, dif_neg (by omega)]

theorem dig_nat {d : Nat} (h : d < 10) : (UInt8.ofNat (48 + d)).toNat = 48 + d := by
  rw [UInt8.toNat_ofNat']; omega

theorem dig_isD {d : Nat} (h : d < 10) : isD (UInt8.ofNat (48 + d)) = true := by
  unfold isD; rw [dig_nat h]; simp; omega

theorem dec_all : ∀ n : Nat, ∀ c ∈ Lib.decDigits n, isD c = true := by
  intro n
  induction n using Nat.strongRecOn with
  | _ n ih =>
    intro c hc
    by_cases h : n < 10
    · rw [dec_small h] at hc
      simp only [List.mem_singleton] at hc
      subst hc; exact dig_isD h
    · rw [dec_big (by omega)] at hc
      rcases List.mem_append.1 hc with hc | hc
      · exact ih (n / 10) (by omega) c hc
      · simp only [List.mem_singleton] at hc
        subst hc; exact dig_isD (by omega)

theorem val_snoc (l : List UInt8) (c : UInt8) : val (l ++ [c]) = 10 * val l + (c.toNat - 48) := by simp [val, valS]

theorem dec_val : ∀ n : Nat, val (Lib.decDigits n) = n := by
  intro n
  induction n using Nat.strongRecOn with
  | _ n ih =>
    by_cases h : n < 10
    · rw [dec_small h]
      have := dig_nat h
      simp only [val, List.foldl_cons, List.foldl_nil, valS, this]
      omega
    · rw [dec_big (by omega), val_snoc, ih (n / 10) (by omega), dig_nat (by omega)]
      omega

theorem dec_ne (n : Nat) : Lib.decDigits n ≠ [] := by
  by_cases h : n < 10
  · rw [dec_small h]; simp
  · rw [dec_big (by omega)]; simp

theorem headD_app {l m : List UInt8} (h : l ≠ []) : (l ++ m).headD 0 = l.headD 0 := by
  cases l with
  | nil => exact absurd rfl h
  | cons a l => rfl

theorem dec_head : ∀ n : Nat, 0 < n → badH (Lib.decDigits n) = false := by
  intro n
  induction n using Nat.strongRecOn with
  | _ n ih =>
    intro hn
    by_cases h : n < 10
    · rw [dec_small h]
      have := dig_nat h
      simp only [badH, List.headD_cons, this]
      simp; omega
    · have := ih (n / 10) (by omega) (by omega)
      rw [dec_big (by omega)]
      unfold badH at this ⊢
      rw [headD_app (dec_ne _)]
      exact this

theorem dec_of_val : ∀ (n : Nat) (ds : List UInt8), ds.length = n → ds ≠ [] → (∀ c ∈ ds, isD c = true) → badH ds = false → Lib.decDigits (val ds) = ds ∧ 1 ≤ val ds := by
  intro n
  induction n with
  | zero => intro ds h0 h; exact absurd (List.eq_nil_of_length_eq_zero h0) h
  | succ n ihn =>
    intro ds0 hlen hne ha hb
    obtain h | ⟨ds, c, rfl⟩ := List.eq_nil_or_concat ds0
    · exact absurd h hne
    rw [List.concat_eq_append] at hlen hne ha hb ⊢
    have ih := ihn ds (by simpa using hlen)
    have hc := ha c (by simp)
    unfold isD at hc
    simp only [Bool.and_eq_true, decide_eq_true_eq] at hc
    rw [val_snoc]
    by_cases h : ds = []
    · subst h
      have hb' : ¬ c.toNat < 49 := fun q => by simp [badH, q] at hb
      have e0 : val [] = 0 := rfl
      rw [e0, dec_small (by omega)]
      refine ⟨?_, by omega⟩
      simp only [List.nil_append, List.cons.injEq, and_true]
      apply UInt8.toNat_inj.1
      rw [dig_nat (by omega)]
      omega
    · obtain ⟨h1, h2⟩ := ih h (fun x hx => ha x (by simp [hx])) (by unfold badH at hb ⊢; rw [headD_app h] at hb; exact hb)
      refine ⟨?_, by omega⟩
      rw [dec_big (by omega), show (10 * val ds + (c.toNat - 48)) / 10 = val ds by omega, show (10 * val ds + (c.toNat - 48)) % 10 = c.toNat - 48 by omega, h1]
      congr 1
      simp only [List.cons.injEq, and_true]
      apply UInt8.toNat_inj.1
      rw [dig_nat (by omega)]
      omega

theorem lt_notD (k : Nat) : isD (lt' k) = false := by
  unfold lt'; split <;> decide

theorem dg_be (l : List UInt8) : dg l ++ be l = l := List.takeWhile_append_dropWhile

theorem dg_cut {a : List UInt8} {c : UInt8} {x : List UInt8} (ha : ∀ y ∈ a, isD y = true) (hc : isD c = false) : dg (a ++ c :: x) = a := by
  unfold dg
  rw [List.takeWhile_append_of_pos ha, List.takeWhile_cons, hc]
  simp

theorem be_cut {a : List UInt8} {c : UInt8} {x : List UInt8} (ha : ∀ y ∈ a, isD y = true) (hc : isD c = false) : be (a ++ c :: x) = c :: x := by
  unfold be
  rw [List.dropWhile_append_of_pos ha, List.dropWhile_cons, hc]
  simp

/-! There -/

/-- The parts from the k-th on. -/
def tf : Nat → Nat → Nat → List UInt8
  | 0, _, _ => []
  | j + 1, k, m => part k (m / tk k) ++ tf j (k + 1) (m % tk k)

theorem fo_tf (n : Nat) : fo 4 n = tf 4 0 n := by
  simp [fo, tf, re]

theorem tk_pos (k : Nat) : 0 < tk k := by unfold tk; split <;> omega

theorem part_ne {k c : Nat} (h : c ≠ 0) : part k c ≠ [] := by unfold part; rw [if_neg h]; simp

theorem tf_zero : ∀ (j k : Nat), tf j k 0 = [] := by
  intro j
  induction j with
  | zero => intro k; rfl
  | succ j ih => intro k; simp [tf, part, ih]

theorem tf_nil : ∀ (j k m : Nat), j + k = 4 → (j = 0 → m = 0) → tf j k m = [] → m = 0 := by
  intro j
  induction j with
  | zero => intro k m _ h _; exact h rfl
  | succ j ih =>
    intro k m hk _ h
    unfold tf at h
    obtain ⟨h1, h2⟩ := List.append_eq_nil_iff.1 h
    have hq : m / tk k = 0 := by
      rcases Nat.eq_zero_or_pos (m / tk k) with q | q
      · exact q
      · exact absurd h1 (part_ne (by omega))
    have hr := ih (k + 1) (m % tk k) (by omega) (fun e => by
      subst e
      obtain rfl : k = 3 := by omega
      simp [tk, Nat.mod_one]) h2
    have := Nat.div_add_mod m (tk k)
    rw [hq, hr] at this
    omega

theorem tf_first : ∀ (j k m : Nat), j + k = 4 → tf j k m ≠ [] → ∃ k', k ≤ k' ∧ k' < 4 ∧ (be (tf j k m)).headD 0 = lt' k' ∧ be (tf j k m) ≠ [] := by
  intro j
  induction j with
  | zero => intro k m _ h; exact absurd rfl h
  | succ j ih =>
    intro k m hk h
    by_cases hq : m / tk k = 0
    · have e : tf (j + 1) k m = tf j (k + 1) (m % tk k) := by simp [tf, part, hq]
      rw [e] at h ⊢
      obtain ⟨k', h1, h2, h3⟩ := ih (k + 1) _ (by omega) h
      exact ⟨k', by omega, h2, h3⟩
    · have e : tf (j + 1) k m = Lib.decDigits (m / tk k) ++ lt' k :: tf j (k + 1) (m % tk k) := by simp [tf, part, hq]
      rw [e, be_cut (dec_all _) (lt_notD k)]
      exact ⟨k, Nat.le_refl _, by omega, rfl, by simp⟩

theorem lt_inj {a b : Nat} (ha : a < 4) (hb : b < 4) (h : lt' a = lt' b) : a = b := by
  revert h
  have : ∀ a : Fin 4, ∀ b : Fin 4, lt' a.val = lt' b.val → a.val = b.val := by decide
  exact this ⟨a, ha⟩ ⟨b, hb⟩

theorem badH_app {l m : List UInt8} (h : l ≠ []) : badH (l ++ m) = badH l := by unfold badH; rw [headD_app h]

theorem there : ∀ (j k m t : Nat), j + k = 4 → (j = 0 → m = 0) → m / tk k ≤ ms k → partsG j k t (tf j k m) = (t + m, []) := by
  intro j
  induction j with
  | zero => intro k m t _ h _; simp [partsG, tf, h rfl]
  | succ j ih =>
    intro k m t hk _ hm
    have hnext : (m % tk k) / tk (k + 1) ≤ ms (k + 1) := by
      obtain rfl | rfl | rfl | rfl : k = 0 ∨ k = 1 ∨ k = 2 ∨ k = 3 := by omega
      · simp only [tk, ms]; omega
      · simp only [tk, ms]; omega
      · simp only [tk, ms]; omega
      · simp only [tk, ms]; omega
    have hlast : j = 0 → m % tk k = 0 := fun e => by
      subst e
      obtain rfl : k = 3 := by omega
      simp [tk, Nat.mod_one]
    by_cases hq : m / tk k = 0
    · have hmm : m % tk k = m := by have := Nat.div_add_mod m (tk k); rw [hq] at this; omega
      have e : tf (j + 1) k m = tf j (k + 1) m := by simp [tf, part, hq, hmm]
      rw [hmm] at hnext hlast
      rw [e]
      by_cases hn : tf j (k + 1) m = []
      · have hz := tf_nil j (k + 1) m (by omega) hlast hn
        subst hz
        rw [hn]
        simp [partsG, be]
      · obtain ⟨k', h1, h2, h3, h4⟩ := tf_first j (k + 1) m (by omega) hn
        unfold partsG
        rw [if_neg h4, if_pos (fun e => by have := lt_inj h2 (by omega) (h3.symm.trans e); omega)]
        exact ih (k + 1) m t (by omega) hlast hnext
    · have e : tf (j + 1) k m = Lib.decDigits (m / tk k) ++ lt' k :: tf j (k + 1) (m % tk k) := by simp [tf, part, hq]
      have hbe := be_cut (x := tf j (k + 1) (m % tk k)) (dec_all (m / tk k)) (lt_notD k)
      have hdg := dg_cut (x := tf j (k + 1) (m % tk k)) (dec_all (m / tk k)) (lt_notD k)
      have hcap : ms k ≤ 1099511627777 := by unfold ms; split <;> omega
      have hnum : numN (Lib.decDigits (m / tk k) ++ lt' k :: tf j (k + 1) (m % tk k)) = m / tk k := by
        unfold numN; rw [hdg, capV_min, dec_val]; omega
      have hbad : badH (Lib.decDigits (m / tk k) ++ lt' k :: tf j (k + 1) (m % tk k)) = false := by
        rw [badH_app (dec_ne _)]; exact dec_head _ (by omega)
      rw [e]
      unfold partsG
      rw [hbe, if_neg (by simp), if_neg (by simp), hbad, hnum, if_neg (by simp; omega)]
      simp only [List.tail_cons]
      rw [ih (k + 1) (m % tk k) _ (by omega) hlast hnext]
      have := Nat.div_add_mod m (tk k)
      rw [Nat.mul_comm] at this
      rw [Nat.add_assoc, this]

theorem fo_ne {n : Nat} (h : n ≠ 0) : fo 4 n ≠ [] := by
  rw [fo_tf]
  intro e
  exact h (tf_nil 4 0 n rfl (by omega) e)

theorem form_zero : formL 0 = [48, 115] := by
  unfold formL; rw [fo_tf, tf_zero]; rfl

theorem form_pos {n : Nat} (h : n ≠ 0) : formL n = fo 4 n := by unfold formL; rw [if_neg (fo_ne h)]

theorem parse_form (n : Nat) (h : n ≤ 1099511627776) : parseG (formL n) = (n, 0) := by
  by_cases h0 : n = 0
  · subst h0; rw [form_zero]; rfl
  · have ht := there 4 0 n 0 rfl (by omega) (by simp only [tk, ms]; omega)
    rw [form_pos h0, fo_tf]
    unfold parseG
    rw [if_neg, ht]
    · simp [finP, h0]; omega
    · intro e
      rw [e] at ht
      have : partsG 4 0 0 [48, 115] = (0, [48, 115]) := by decide
      rw [this] at ht
      simp at ht

/-! Back -/

theorem back : ∀ (j k t : Nat) (r : List UInt8) (t' : Nat), j + k = 4 → t' ≤ 1099511627776 → partsG j k t r = (t', []) →
    ∃ m, t' = t + m ∧ (k ≠ 0 → m < tk (k - 1)) ∧ tf j k m = r := by
  intro j
  induction j with
  | zero =>
    intro k t r t' hk _ h
    simp only [partsG, Prod.mk.injEq] at h
    obtain ⟨rfl, rfl⟩ := h
    exact ⟨0, rfl, fun _ => tk_pos _, rfl⟩
  | succ j ih =>
    intro k t r t' hk ht h
    unfold partsG at h
    by_cases hb : be r = []
    · rw [if_pos hb] at h
      simp only [Prod.mk.injEq] at h
      obtain ⟨rfl, rfl⟩ := h
      exact ⟨0, rfl, fun _ => tk_pos _, tf_zero _ _⟩
    rw [if_neg hb] at h
    have hr := be_nil hb
    have hstep : k ≠ 0 → tk k ≤ tk (k - 1) := fun h0 => by
      obtain rfl | rfl | rfl : k = 1 ∨ k = 2 ∨ k = 3 := by omega
      all_goals simp [tk]
    by_cases hl : (be r).headD 0 ≠ lt' k
    · rw [if_pos hl] at h
      obtain ⟨m, e1, e2, e3⟩ := ih (k + 1) t r t' (by omega) ht h
      have e2' : m < tk k := e2 (by omega)
      refine ⟨m, e1, fun h0 => Nat.lt_of_lt_of_le e2' (hstep h0), ?_⟩
      unfold tf
      rw [Nat.div_eq_of_lt e2', Nat.mod_eq_of_lt e2', e3]
      simp [part]
    · rw [if_neg hl] at h
      have hl' : (be r).headD 0 = lt' k := by
        by_cases q : (be r).headD 0 = lt' k
        · exact q
        · exact absurd q hl
      by_cases hbad : badH r = true ∨ ms k < numN r
      · rw [if_pos hbad] at h
        simp only [Prod.mk.injEq] at h
        exact absurd h.2 hr
      · rw [if_neg hbad] at h
        have hb1 : badH r = false := by
          cases q : badH r with
          | false => rfl
          | true => exact absurd (.inl q) hbad
        have hb2 : numN r ≤ ms k := by
          rcases Nat.lt_or_ge (ms k) (numN r) with q | q
          · exact absurd (.inr q) hbad
          · exact q
        obtain ⟨m', e1, e2, e3⟩ := ih (k + 1) _ _ t' (by omega) ht h
        have e2' : m' < tk k := e2 (by omega)
        have hp := tk_pos k
        have hnle : numN r ≤ numN r * tk k := Nat.le_mul_of_pos_right _ hp
        have hdg0 : dg r ≠ [] := by
          intro q
          have hq := dg_be r
          rw [q, List.nil_append] at hq
          unfold badH at hb1
          rw [← hq, hl'] at hb1
          revert hb1
          unfold lt'
          split <;> decide
        have hdgb : badH (dg r) = false := by rw [← badH_app hdg0 (m := be r), dg_be]; exact hb1
        have hdga : ∀ c ∈ dg r, isD c = true := fun c hc => List.all_eq_true.1 (List.all_takeWhile (p := isD) (l := r)) c hc
        obtain ⟨hd1, hd2⟩ := dec_of_val _ (dg r) rfl hdg0 hdga hdgb
        have hval : numN r = val (dg r) := by
          have := capV_min (dg r)
          have h3 : numN r = capV (dg r) := rfl
          omega
        rw [← hval] at hd1 hd2
        refine ⟨numN r * tk k + m', by omega, fun h0 => ?_, ?_⟩
        · obtain rfl | rfl | rfl : k = 1 ∨ k = 2 ∨ k = 3 := by omega
          all_goals
            simp only [tk, ms] at *
            omega
        · have q1 : (numN r * tk k + m') / tk k = numN r := by
            rw [Nat.mul_comm, Nat.mul_add_div hp, Nat.div_eq_of_lt e2']; omega
          have q2 : (numN r * tk k + m') % tk k = m' := by
            rw [Nat.mul_comm, Nat.mul_add_mod, Nat.mod_eq_of_lt e2']
          unfold tf
          rw [q1, q2, e3]
          unfold part
          rw [if_neg (by omega), hd1, List.append_assoc]
          have hbe : be r = lt' k :: (be r).tail := by
            cases hq : be r with
            | nil => exact absurd hq hb
            | cons a l => rw [hq] at hl'; simp only [List.headD_cons] at hl'; rw [hl']; rfl
          have e4 : [lt' k] ++ (be r).tail = be r := by rw [List.singleton_append]; exact hbe.symm
          rw [e4, dg_be]

theorem form_parse (l : List UInt8) (n : Nat) (h : parseG l = (n, 0)) : formL n = l ∧ n ≤ 1099511627776 := by
  unfold parseG at h
  by_cases h0 : l = [48, 115]
  · rw [if_pos h0] at h
    simp only [Prod.mk.injEq, and_true] at h
    subst h; rw [h0, form_zero]; exact ⟨rfl, by omega⟩
  · rw [if_neg h0] at h
    obtain ⟨t', r⟩ : Nat × List UInt8 := partsG 4 0 0 l
    unfold finP at h
    split at h
    · simp at h
    · rename_i hx
      split at h
      · simp at h
      · rename_i hy
        simp only [Prod.mk.injEq, and_true] at h
        have hr : (partsG 4 0 0 l).2 = [] := by
          by_cases q : (partsG 4 0 0 l).2 = []
          · exact q
          · exact absurd (.inr q) hx
        have hn : (partsG 4 0 0 l).1 ≠ 0 := fun q => hx (.inl q)
        obtain ⟨m, e1, _, e3⟩ := back 4 0 0 l _ rfl (by omega) (show partsG 4 0 0 l = ((partsG 4 0 0 l).1, []) by rw [← hr])
        rw [← h]
        refine ⟨?_, by omega⟩
        rw [form_pos hn, fo_tf, e1, Nat.zero_add]
        exact e3

theorem parse_zero (l : List UInt8) (h : (parseG l).2 ≠ 0) : (parseG l).1 = 0 := by
  unfold parseG at h ⊢
  by_cases h0 : l = [48, 115]
  · rw [if_pos h0]
  · rw [if_neg h0] at h ⊢
    unfold finP at h ⊢
    by_cases h1 : (partsG 4 0 0 l).1 = 0 ∨ (partsG 4 0 0 l).2 ≠ []
    · rw [if_pos h1]
    · rw [if_neg h1] at h ⊢
      by_cases h2 : 1099511627776 < (partsG 4 0 0 l).1
      · rw [if_pos h2]
      · rw [if_neg h2] at h; exact absurd rfl h
end Ck
end Go.Proofs.YtfibcbnhjajdlabDoor
