/- A book's sets: All, and the scope of a name, and the scopes below a name. -/
import Derived.Test.YtmgddocninihoabDoorNew
import Derived.Test.YtmgddocninihoabDoorBase2
import Derived.Sort.MapsRangeIn
namespace Go.Proofs.YtmgddocninihoabDoor
set_option linter.ambiguousOpen false
open Go.RowKit Go.Maps Nm
namespace Sc
set_option linter.unusedSimpArgs false
set_option linter.unusedVariables false

theorem u64_shl_one (n : Nat) (h : n ≤ 64) : IntKind.u64.wrap ((IntKind.u64.wrap (2 ^ n)) - 1) = ((2 ^ n - 1 : Nat) : Int) := by
  rcases Nat.lt_or_ge n 64 with h1 | h1
  · have e1 := Bt.pow_wrap n h1
    rw [e1]
    have h2 := Bt.pow_lt n h1
    have h3 : 0 < Bt.pw n := Nat.pow_pos (by decide)
    have e2 : ((Bt.pw n : Nat) : Int) - 1 = ((Bt.pw n - 1 : Nat) : Int) := by omega
    rw [e2]
    show _ = ((Bt.pw n - 1 : Nat) : Int)
    simp only [IntKind.wrap, IntKind.signed, IntKind.bits]
    generalize Bt.pw n = x at *
    simp
    omega
  · obtain rfl : n = 64 := by omega
    decide

theorem single_s (i : Nat) (w : World) (h : i < 64) :
    Calls Tryd.prog 48 #[.int .i64 (i : Int)] w fun e w' => e = .returned (Bt.st (Bt.pw i)) ∧ w' = w := by
  have k := Bt.pow_wrap i h
  go_enter Tryd.func48, Tryd.ntmps48
  go_wp2_with (simp only [k])
  go_ret
  exact ⟨rfl, rfl⟩

/-- The set of the first n numbers. -/
def allS (n : Nat) : Nat := 2 ^ n - 1

theorem all_s (pb mb : Nat) (l : List (List UInt8)) (w : World) (hM : Mp w pb mb l) :
    Calls Tryd.prog 18 #[.pointer (some ⟨pb, 0, none⟩)] w fun e w' => e = .returned (Bt.st (allS l.length)) ∧ w' = w := by
  obtain ⟨hc, ⟨D, hD, ho⟩, hne⟩ := hM
  have h64 := hD.most
  have k := u64_shl_one l.length h64
  go_enter Tryd.func18, Tryd.ntmps18
  go_wp2_with (first | (at_len; refine wpList_len_own _ rfl _ 68 rfl 9 3 Tryd.underlying68 _ mb _ D rfl ho ?_; rw [hD.size]) | (simp only [k]))
  go_ret
  exact ⟨rfl, rfl⟩

/-- The numbers below n for which f holds, as a set. -/
def mask (f : Nat → Bool) : Nat → Nat
  | 0 => 0
  | n + 1 => mask f n ||| (if f n then Bt.pw n else 0)

theorem mask_lt (f : Nat → Bool) : ∀ n, n ≤ 64 → mask f n < 18446744073709551616
  | 0, _ => by show 0 < _; decide
  | n + 1, h => by
    simp only [mask]
    refine Nat.or_lt_two_pow (n := 64) (mask_lt f n (by omega)) ?_
    split
    · exact Bt.pow_lt n (by omega)
    · decide

theorem mask_bit (f : Nat → Bool) (i : Nat) : ∀ n, (mask f n).testBit i = (decide (i < n) && f i)
  | 0 => by simp [mask]
  | n + 1 => by
    simp only [mask, Nat.testBit_or, mask_bit f i n]
    by_cases hin : i = n
    · subst hin
      cases hf : f i <;> simp [hf, Bt.pw, Nat.testBit_two_pow_self]
    · have : (if f n then Bt.pw n else 0).testBit i = false := by
        split
        · simp only [Bt.pw]; exact Nat.testBit_two_pow_of_ne (by omega)
        · simp
      rw [this]
      rcases Nat.lt_or_ge i n with h | h
      · simp [h, Nat.lt_succ_of_lt h]
      · have h2 : ¬ i < n + 1 := by omega
        have h3 : ¬ i < n := by omega
        simp [h2, h3]

theorem mask_congr {f g : Nat → Bool} {n : Nat} (h : ∀ i, i < n → f i = g i) : mask f n = mask g n :=
  Nat.eq_of_testBit_eq fun i => by
    rw [mask_bit, mask_bit]
    rcases Nat.lt_or_ge i n with h1 | h1
    · rw [h i h1]
    · have : ¬ i < n := by omega
      simp [this]

theorem mask_add {f g : Nat → Bool} {n k : Nat} (hk : k < n) (h : ∀ i, i < n → g i = (f i || decide (i = k))) : mask f n ||| Bt.pw k = mask g n :=
  Nat.eq_of_testBit_eq fun i => by
    rw [Nat.testBit_or, mask_bit, mask_bit]
    simp only [Bt.pw, Nat.testBit_two_pow]
    rcases Nat.lt_or_ge i n with h1 | h1
    · rw [h i h1]
      simp [h1, eq_comm]
    · have : ¬ i < n := by omega
      have h3 : ¬ k = i := by omega
      simp [this, h3]

/-- The set of the scope of a name. -/
def namedS (l : List (List UInt8)) (p : List UInt8) : Nat := mask (fun i => decide (l.getD i [] = p)) l.length
/-- The set of the scopes below a name. -/
def belowS (l : List (List UInt8)) (p : List UInt8) : Nat := mask (fun i => decide (l.getD i [] ≠ p) && underB (l.getD i []) p) l.length

theorem getD_at (l : List (List UInt8)) (i : Nat) (h : i < l.length) : l.getD i [] = l[i] := by
  simp [List.getD_eq_getElem?_getD, List.getElem?_eq_getElem h]

theorem nodup_ne {l : List (List UInt8)} (hn : l.Nodup) {i j : Nat} (hi : i < l.length) (hj : j < l.length) (hne : i ≠ j) : l[i] ≠ l[j] := by
  have h := List.pairwise_iff_getElem.1 hn
  rcases Nat.lt_or_gt_of_ne hne with h1 | h1
  · exact h i j hi hj h1
  · exact (h j i hj hi h1).symm

theorem named_in {l : List (List UInt8)} (hn : l.Nodup) {i : Nat} (h : i < l.length) : namedS l l[i] = Bt.pw i := by
  refine Nat.eq_of_testBit_eq fun j => ?_
  rw [namedS, mask_bit]
  simp only [Bt.pw, Nat.testBit_two_pow]
  rcases Nat.lt_or_ge j l.length with h1 | h1
  · rw [getD_at l j h1]
    by_cases hij : i = j
    · subst hij; simp [h1]
    · have : l[j] ≠ l[i] := nodup_ne hn h1 h (fun e => hij e.symm)
      simp [hij, this]
  · have h2 : ¬ j < l.length := by omega
    have h3 : ¬ i = j := by omega
    simp [h2, h3]

theorem named_out {l : List (List UInt8)} {p : List UInt8} (h : p ∉ l) : namedS l p = 0 := by
  refine Nat.eq_of_testBit_eq fun j => ?_
  rw [namedS, mask_bit, Nat.zero_testBit]
  rcases Nat.lt_or_ge j l.length with h1 | h1
  · rw [getD_at l j h1]
    have : l[j] ≠ p := fun e => h (e ▸ List.getElem_mem h1)
    simp [this]
  · have h2 : ¬ j < l.length := by omega
    simp [h2]

set_option maxRecDepth 100000 in
set_option maxHeartbeats 1000000 in
theorem named_s (pb mb : Nat) (l : List (List UInt8)) (p : List UInt8) (w : World) (hM : Mp w pb mb l) (hp : p.length ≤ maxLen) :
    Calls Tryd.prog 32 #[.pointer (some ⟨pb, 0, none⟩), .string (B p)] w fun e w' => e = .returned (Bt.st (namedS l p)) ∧ w' = w := by
  obtain ⟨hc, ⟨D, hD, ho⟩, hne⟩ := hM
  have HP : Hid (p.length ≤ maxLen) := hp
  have h64 := hD.most
  clear hp
  have hhas := hD.has_eq p
  by_cases hin : p ∈ l
  · rw [decide_eq_true hin] at hhas
    obtain ⟨i, hi, rfl⟩ := List.getElem_of_mem hin
    rw [named_in hD.nodup hi]
    have hat := hD.atD i hi (.lit (.int .i64 0))
    have cs : Hid (∀ w1, Calls Tryd.prog 48 #[.int .i64 (i : Int)] w1 fun e w' => e = .returned (Bt.st (Bt.pw i)) ∧ w' = w1) := fun w1 => single_s i w1 (by omega)
    go_enter Tryd.func32, Tryd.ntmps32
    go_wp2_with (first | (at_lookup; refine wpList_lookup_own_ok_int _ rfl _ _ 68 rfl 9 3 .i64 law Tryd.underlying68 Tryd.underlying3 (zeroE _) mb _ D rfl ho _ _ rfl (key_l _ HP.out) ?_; rw [hhas]; intro c hc2 _; obtain rfl : c = i := by (rw [hat] at hc2; cases hc2; rfl)) | (go_at_call 48; refine (cs.out _).mono ?_; rintro e w1 ⟨rfl, rfl⟩))
    go_ret
    exact ⟨rfl, rfl⟩
  · rw [decide_eq_false hin] at hhas
    rw [named_out hin]
    go_enter Tryd.func32, Tryd.ntmps32
    go_wp2_with (first | (at_lookup; refine wpList_lookup_own_ok_int _ rfl _ _ 68 rfl 9 3 .i64 law Tryd.underlying68 Tryd.underlying3 (zeroE _) mb _ D rfl ho _ _ rfl (key_l _ HP.out) ?_; rw [hhas]; intro c hc2 _))
    go_ret
    exact ⟨rfl, rfl⟩
/-- What a key of the map is, and what stands there. -/
theorem entry_inv (key : Value) (kl : Lit) (h : keyOf Tryd.prog 9 key = some kl) : ∃ p : List UInt8, key = .string (B p) := by
  obtain ⟨s, rfl⟩ := Maps.keyOf_string_inv Tryd.underlying9 h
  exact ⟨s.data.toList, by simp [B]⟩

theorem key_len {p : List UInt8} {kl : Lit} (h : keyOf Tryd.prog 9 (.string (B p)) = some kl) : kl = .string p ∧ p.length ≤ maxLen := by
  simp only [keyOf, Tryd.underlying9, mapKey] at h
  by_cases hp : (B p).size ≤ maxLen
  · simp [hp] at h
    exact ⟨h.symm, hp⟩
  · simp [hp] at h

theorem val_inv (v : Value) (y : DataW Unit × List MemPlace) (h : plainElem Tryd.prog 3 v = some y) : ∃ c : Int, v = .int .i64 c := by
  obtain ⟨c, rfl, _⟩ := plainElem_int_inv Tryd.underlying3 h
  exact ⟨c, rfl⟩

/-- An entry that comes: its key is a name of the list, its element the name's number. -/
theorem entry_at {D : DataW Unit} {l : List (List UInt8)} (hD : Bd D l) {p : List UInt8} {c : Int} {kl : Lit} {y : DataW Unit × List MemPlace} (hk : keyOf Tryd.prog 9 (.string (B p)) = some kl)
    (hv : plainElem Tryd.prog 3 (.int .i64 c) = some y) (hat : ∀ zd, D.atKey kl zd = y.1) : ∃ i, ∃ h : i < l.length, l[i] = p ∧ c = (i : Int) ∧ kl = .string p := by
  obtain ⟨rfl, _⟩ := key_len hk
  have hh := has_true_of_atKey hat
  obtain ⟨q, hq, e⟩ := (hD.hasD _).1 hh
  cases e
  obtain ⟨i, hi, rfl⟩ := List.getElem_of_mem hq
  obtain ⟨c', e1, e2, _⟩ := plainElem_int_inv Tryd.underlying3 hv
  cases e1
  have h1 := hD.atD i hi (.lit (.int .i64 0))
  rw [hat, e2] at h1
  refine ⟨i, hi, rfl, ?_, rfl⟩
  simpa using h1

/-- What is struck when the entry of a name has come. -/
theorem struck (l : List (List UInt8)) (hn : l.Nodup) (left : Lit → Bool) {i j : Nat} (hi : i < l.length) (hj : j < l.length) :
    (left (.string l[j]) && !(Lit.string l[j]).sameKey (.string l[i])) = (left (.string l[j]) && !decide (j = i)) := by
  by_cases h : j = i
  · subst h; simp [Lit.sameKey]
  · have h1 : l[j] ≠ l[i] := nodup_ne hn hj hi h
    have : (Lit.string l[j]).sameKey (.string l[i]) = false := by simp [Lit.sameKey, h1]
    rw [this]; simp [h]

/-- Of the scopes below a name those whose entries have come. -/
def bl (l : List (List UInt8)) (p : List UInt8) (left : Lit → Bool) : Nat := mask (fun i => (decide (l.getD i [] ≠ p) && underB (l.getD i []) p) && !left (.string (l.getD i []))) l.length

set_option maxRecDepth 100000 in
set_option maxHeartbeats 2000000 in
theorem below_s (pb mb : Nat) (l : List (List UInt8)) (p : List UInt8) (w : World) (hM : Mp w pb mb l) (hp : p.length ≤ maxLen) :
    Calls Tryd.prog 33 #[.pointer (some ⟨pb, 0, none⟩), .string (B p)] w fun e w' => e = .returned (Bt.st (belowS l p)) ∧ Below w.heap.size w w' := by
  obtain ⟨hc, ⟨D, hD, ho⟩, hne⟩ := hM
  have HP : Hid (p.length ≤ maxLen) := hp
  have h64 := hD.most
  clear hp
  have hlt := ho.lt
  go_enter Tryd.func33, Tryd.ntmps33
  go_wp2_with (at_range; refine wpList_range_own _ rfl _ 68 rfl 9 3 law Tryd.underlying68 _ mb _ D rfl ho ?_; intro w0 hrg0 hg0 hs0)
  go_frame
  go_loopw [5] (fun s wr => ∃ left cnt, wr.ranges Tryd.prog 9 (plainElem Tryd.prog 3) mb w.heap.size l.length D left cnt ∧ Below w.heap.size w wr ∧ s = Bt.st (bl l p left)) (fun _ wr => wr.rangeLeft mb w.heap.size)
  case atStart =>
    refine ⟨_, _, hrg0, ⟨hg0.os, hg0.tape, hg0.output, hg0.size, fun k hk => hg0.block k hk (by simp)⟩, ?_⟩
    have : bl l p (Maps.has D) = mask (fun _ => false) l.length := mask_congr fun i hi => by
      rw [hD.has_eq, getD_at l i hi, decide_eq_true (List.getElem_mem hi)]; simp
    rw [this]
    have : mask (fun _ => false) l.length = 0 := Nat.eq_of_testBit_eq fun i => by rw [mask_bit]; simp
    rw [this]; rfl
  case round =>
    obtain ⟨left, cnt, hrg, hb, rfl⟩ := hrel
    go_wp2_with (at_next; refine wpList_next_ranges _ rfl _ rfl 9 law _ (fun q : List UInt8 => Value.string (B q)) (Value.int .i64) entry_inv val_inv mb w.heap.size _ D left cnt rfl hrg ?_ ?_)
    · intro _ hl0
      go_wp2
      go_ret
      exact ⟨Bt.ret_st (congrArg Nat.cast (mask_congr fun i hi => by rw [hl0]; simp)), hb⟩
    · intro q c kl y yp w1 cnt1 hkey hlx hv hat hrg1 hlt1 hg1 hs1 hen
      obtain ⟨i, hi, hq, rfl, rfl⟩ := entry_at hD hkey hv hat
      have hql := (key_len hkey).2
      have hb1 : Below w.heap.size w w1 := hb.trans ⟨hg1.os, hg1.tape, hg1.output, hg1.size, fun k hk => hg1.block k (by have := hb.size; omega) (by simp; omega)⟩
      have h1 : cnt1 < cnt := hlt1
      have hst : ∀ f : Nat → Bool, (∀ j (hj : j < l.length), f j = ((decide (l.getD j [] ≠ p) && underB (l.getD j []) p) && !left (.string (l.getD j [])) || (decide (j = i) && (decide (q ≠ p) && underB q p)))) → ∀ j, j < l.length → ((decide (l.getD j [] ≠ p) && underB (l.getD j []) p) && !(left (.string (l.getD j [])) && !(Lit.string (l.getD j [])).sameKey (.string q))) = f j := fun f hf j hj => by
        rw [hf j hj, getD_at l j hj, ← hq, struck l hD.nodup left hi hj]
        by_cases hji : j = i
        · subst hji; rw [hq, hlx]; simp
        · simp [hji]
      have HST : Hid (∀ f : Nat → Bool, (∀ j (hj : j < l.length), f j = ((decide (l.getD j [] ≠ p) && underB (l.getD j []) p) && !left (.string (l.getD j [])) || (decide (j = i) && (decide (q ≠ p) && underB q p)))) → ∀ j, j < l.length → ((decide (l.getD j [] ≠ p) && underB (l.getD j []) p) && !(left (.string (l.getD j [])) && !(Lit.string (l.getD j [])).sameKey (.string q))) = f j) := hst
      have HQ : Hid (l[i] = q) := hq
      have HAT : Hid (∀ zd, D.atKey (.string q) zd = y) := hat
      clear hst hq hat hv hkey
      have hmsk : bl l p left < 18446744073709551616 := mask_lt _ l.length h64
      by_cases he : q = p
      · have HE : Hid (q = p) := he
        subst he
        generalize hgm : bl l q left = m at *
        go_wp2
        go_roundw
        case rel =>
          refine ⟨_, _, hrg1, hb1, ?_⟩
          rw [← hgm]
          exact congrArg (fun x : Nat => Bt.st x) (mask_congr (HST.out _ fun j hj => by simp)).symm
        case measure => rw [hrg1.left_eq, hrg.left_eq]; exact h1
      · have hne : ((B q).toList == (B p).toList) = false := by
          rw [beq_eq_false_iff_ne, ByteArray.toList_eq, ByteArray.toList_eq]; exact he
        have HE : Hid (q ≠ p) := he
        clear he
        have cu := under_l q p w1 hql HP.out
        cases hu : underB q p with
        | false =>
          rw [hu] at cu
          have HU : Hid (underB q p = false) := hu
          clear hu
          generalize hgm : bl l p left = m at *
          go_wp2_with (go_at_call 49; refine cu.mono ?_; rintro e w2 ⟨rfl, hb2⟩)
          go_roundw
          case rel =>
            refine ⟨_, _, hrg1.kept (grown_of_below hb2) (by simp) (by simp), hb1.trans (hb2.mono hb1.size), ?_⟩
            rw [← hgm]
            exact congrArg (fun x : Nat => Bt.st x) (mask_congr (HST.out _ fun j hj => by rw [HU.out]; simp)).symm
          case measure => rw [(hrg1.kept (grown_of_below hb2) (by simp) (by simp)).left_eq, hrg.left_eq]; exact h1
        | true =>
          rw [hu] at cu
          have HU : Hid (underB q p = true) := hu
          clear hu
          have cs : Hid (∀ w1, Calls Tryd.prog 48 #[.int .i64 (i : Int)] w1 fun e w' => e = .returned (Bt.st (Bt.pw i)) ∧ w' = w1) := fun w1 => single_s i w1 (by omega)
          have HM : Hid (bl l p left ||| Bt.pw i = bl l p (fun z => left z && !z.sameKey (.string q))) :=
            mask_add hi (fun j hj => by rw [HST.out (fun j => (decide (l.getD j [] ≠ p) && underB (l.getD j []) p) && !left (.string (l.getD j [])) || decide (j = i)) (fun j hj => by rw [HU.out]; simp [HE.out]) j hj])
          generalize hgm : bl l p left = m at *
          have cj : Hid (∀ w1, Calls Tryd.prog 14 #[Bt.st m, Bt.st (Bt.pw i)] w1 fun e w' => e = .returned (Bt.st (m ||| Bt.pw i)) ∧ w' = w1) := fun w1 => Bt.join_any _ _ w1 hmsk (Bt.pow_lt i (by omega))
          go_wp2_with (first | (go_at_call 49; refine cu.mono ?_; rintro e w2 ⟨rfl, hb2⟩) | (go_at_call 48; refine (cs.out _).mono ?_; rintro e w3 ⟨rfl, rfl⟩) | (go_at_call 14; refine (cj.out _).mono ?_; rintro e w3 ⟨rfl, rfl⟩))
          go_roundw
          case rel =>
            refine ⟨_, _, hrg1.kept (grown_of_below hb2) (by simp) (by simp), hb1.trans (hb2.mono hb1.size), ?_⟩
            exact congrArg (fun x : Nat => Bt.st x) HM.out
          case measure => rw [(hrg1.kept (grown_of_below hb2) (by simp) (by simp)).left_eq, hrg.left_eq]; exact h1
end Sc
end Go.Proofs.YtmgddocninihoabDoor
