import Derived.Test.YtnllplholfhbdaaDoorEncE11
import Derived.Test.YtnllplholfhbdaaDoorEncF11
import Derived.Test.YtnllplholfhbdaaDoorDcdE11
/- The program's event answers as 'Says' asks. -/
namespace Go.Proofs.YtnllplholfhbdaaDoor
set_option linter.ambiguousOpen false
open Go.RowKit
namespace Ev
namespace Pe
open Pk Sm Ft
open Pk.Pp (RW RR)
set_option linter.unusedSimpArgs false
set_option linter.unusedVariables false

/-- What may be is what its happening tells. -/
theorem may_self (e : Evt) (h : mayE e = true) : (e.kind = 0 ∧ Evt.mk 0 e.s 0 0 = e) ∨ (e.kind = 1 ∧ Evt.mk 1 Sn.zero e.birth 0 = e) ∨ (e.kind = 2 ∧ Evt.mk 2 Sn.zero 0 e.ticks = e) := by
  rcases mayE_cases e h with ⟨he, _⟩ | ⟨he, _⟩ | ⟨he, _⟩
  · exact .inl ⟨by rw [he], he.symm⟩
  · exact .inr (.inl ⟨by rw [he], he.symm⟩)
  · exact .inr (.inr ⟨by rw [he], he.symm⟩)

theorem may_of (e : Evt) (k : Int) (hk : e.kind = k) (h : ¬ ((k = 0 ∧ Evt.mk 0 e.s 0 0 = e) ∨ (k = 1 ∧ Evt.mk 1 Sn.zero e.birth 0 = e) ∨ (k = 2 ∧ Evt.mk 2 Sn.zero 0 e.ticks = e))) : mayE e = false := by
  rw [Bool.eq_false_iff]
  intro hm
  refine h ?_
  rw [← hk]
  exact may_self e hm

theorem may0 (s : Sn) : mayE ⟨0, s, 0, 0⟩ = mayS s := by simp [mayE]

theorem may1 (n : Int) : mayE ⟨1, Sn.zero, n, 0⟩ = inI n 1 1048576 := by
  have : Sn.zero.isZero = true := by decide
  simp [mayE, this]

theorem may2 (n : Int) : mayE ⟨2, Sn.zero, 0, n⟩ = inI n 1 1073741824 := by
  have : Sn.zero.isZero = true := by decide
  simp [mayE, this]

theorem wants_yes (w : World) (e : Evt) (h : mayE e = true) (L : List UInt8) (hL : encE e = L) (c : Calls Tryd.prog 8 #[.agg e.arr] w fun x w' => ∃ v, x = .returned (.tuple #[v, .nilIface]) ∧ w'.ownsRow w.heap.size 5 1 v L.length (L.map by1) ∧ Below w.heap.size w w') : Wants w e := by
  unfold Wants
  rw [h, bytes_yes e h, hL]
  exact c

theorem encode_any (w : World) (e : Evt) (hf : e.fit) (hr : e.rng) : Wants w e := by
  by_cases k0 : e.kind = 0
  · by_cases he : Evt.mk 0 e.s 0 0 = e
    · rw [← he]
      have hu : e.s.user.length ≤ 65536 := hf.1
      have hl : e.s.label.length ≤ 65536 := hf.2.1
      cases hm : mayS e.s with
      | false => exact wants_no w _ (by rw [may0, hm]) (enc0_false e.s w hu hl hm)
      | true => exact wants_yes w _ (by rw [may0, hm]) _ (enc0 e.s) (enc0_true e.s w hu hl hm (mayS_ok e.s hm hf.2.2))
    · exact wants_no w e (may_of e 0 k0 (by simp [he])) (other_0 e w k0 he)
  · by_cases k1 : e.kind = 1
    · by_cases he : Evt.mk 1 Sn.zero e.birth 0 = e
      · rw [← he]
        cases hm : inI e.birth 1 1048576 with
        | false => exact wants_no w _ (by rw [may1, hm]) (enc1_false e.birth w hm)
        | true => exact wants_yes w _ (by rw [may1, hm]) _ (enc1 e.birth) (enc1_true e.birth w hm)
      · exact wants_no w e (may_of e 1 k1 (by simp [he])) (other_1 e w k1 he)
    · by_cases k2 : e.kind = 2
      · by_cases he : Evt.mk 2 Sn.zero 0 e.ticks = e
        · rw [← he]
          cases hm : inI e.ticks 1 1073741824 with
          | false => exact wants_no w _ (by rw [may2, hm]) (enc2_false e.ticks w hm)
          | true => exact wants_yes w _ (by rw [may2, hm]) _ (enc2 e.ticks) (enc2_true e.ticks w hm)
        · exact wants_no w e (may_of e 2 k2 (by simp [he])) (other_2 e w k2 he)
      · exact wants_no w e (may_of e e.kind rfl (by simp [k0, k1, k2])) (other_3 e w k0 k1 k2)

theorem X_len (s : List UInt8 × Nat) : (X s).length ≤ 65536 := by
  obtain ⟨x, n, no, hn⟩ : ∃ x n no, taken s.1 32 = (x, n, no) := ⟨_, _, _, rfl⟩
  unfold X txtT
  simp only
  rw [hn]
  simp only
  split
  · simp
  · split
    · simp
    · rename_i h1 h2
      obtain rfl : no = 0 := by omega
      have := (taken_back s.1 32 x n hn).2.2
      simp only
      omega

seal M N X Y asI

theorem wild_len (s : List UInt8 × Nat) : (wildS s).user.length ≤ 65536 ∧ (wildS s).label.length ≤ 65536 := by
  unfold wildS
  exact ⟨X_len _, X_len _⟩

/-- What is left to be told, once the happening is taken. -/
theorem dec_fin (w : World) (v : Value) (b : List UInt8) (hR : RdB w v b) (hl : b.length ≤ 65537) (tid : TypeId) (x : Value) (s : List UInt8 × Nat) (cH : ∀ wx q F p, Tg wx q F (b, 0) p → Calls Tryd.prog 37 #[ptr q] wx fun e w' => e = .returned (.iface tid x) ∧ ∃ F', Tg w' q F' s p ∧ Keep (fun k => F k ∨ k = q) wx w' ∧ Goes wx F F')
    (ev : Evt) (hD : decE b = tell ev s)
    (hno : s = ([], 0) → mayE ev = false → Calls Tryd.prog 14 #[v] w fun e w' => e = .returned (.tuple #[.agg Evt.zero.arr, noE 1]) ∧ Below w.heap.size w w')
    (hyes : s = ([], 0) → mayE ev = true → Calls Tryd.prog 14 #[v] w fun e w' => e = .returned (.tuple #[.agg ev.arr, .nilIface]) ∧ Below w.heap.size w w') :
    Calls Tryd.prog 14 #[v] w fun e w' => e = .returned (.tuple #[.agg (decE b).1.arr, errE (decE b).2]) ∧ Below w.heap.size w w' := by
  rw [hD]
  unfold tell
  by_cases h1 : s.2 ≠ 0
  · rw [if_pos h1]
    obtain ⟨n, hn⟩ := Nat.exists_eq_succ_of_ne_zero h1
    simp only
    rw [hn]
    exact dec_err w v b hR hl tid x s cH n hn
  · rw [if_neg h1]
    have h0 : s.2 = 0 := by omega
    by_cases h2 : s.1 ≠ []
    · rw [if_pos h2]
      exact dec_long w v b hR hl tid x s cH h0 h2
    · rw [if_neg h2]
      have hs : s = ([], 0) := by
        obtain ⟨s1, s2⟩ := s
        simp only [ne_eq, Decidable.not_not] at h2 h0
        rw [h2, h0]
      cases hm : mayE ev with
      | false => exact hno hs hm
      | true => exact hyes hs hm

theorem decode_any (w : World) (v : Value) (b : List UInt8) (hR : RdB w v b) (hl : b.length ≤ 65537) : Calls Tryd.prog 14 #[v] w fun x w' => x = .returned (.tuple #[.agg (decE b).1.arr, errE (decE b).2]) ∧ Below w.heap.size w w' := by
  have hD := dec_wild b
  by_cases k0 : N (b, 0) = 0
  · have hh : happT b = (⟨0, wildS (M (b, 0)), 0, 0⟩, wildM (M (b, 0))) := by rw [happT, if_pos k0]
    rw [hh] at hD
    have cH := fun wx q F p h => hap_birth wx q F (b, 0) p h k0
    have hwl := wild_len (M (b, 0))
    obtain ⟨ws, hws⟩ : ∃ ws, wildS (M (b, 0)) = ws := ⟨_, rfl⟩
    obtain ⟨wm, hwm⟩ : ∃ wm, wildM (M (b, 0)) = wm := ⟨_, rfl⟩
    rw [hws, hwm] at hD cH
    rw [hws] at hwl
    clear hws hwm hh
    refine dec_fin w v b hR hl _ _ _ cH _ hD (fun hs hm => ?_) (fun hs hm => ?_)
    · rw [may0] at hm
      exact dec_no_b w v b hR hl _ _ cH hs (fun wx => by have := birth_may ws wx hwl.1 hwl.2; rw [hm] at this; exact this)
    · rw [may0] at hm
      exact dec_yes_b w v b hR hl _ _ cH hs (fun wx => by have := birth_may ws wx hwl.1 hwl.2; rw [hm] at this; exact this) _ (fun wx => told_birth _ wx)
  · by_cases k1 : N (b, 0) = 1
    · have hh : happT b = (⟨1, Sn.zero, asI (N (M (b, 0))), 0⟩, M (M (b, 0))) := by rw [happT, if_neg k0, if_pos k1]
      rw [hh] at hD
      have cH := fun wx q F p h => hap_rev wx q F (b, 0) p h k1
      refine dec_fin w v b hR hl _ _ _ cH _ hD (fun hs hm => ?_) (fun hs hm => ?_)
      · rw [may1] at hm
        exact dec_no_r w v b hR hl _ _ cH hs (fun wx => by have := rev_may (asI (N (M (b, 0)))) wx; rw [hm] at this; exact this)
      · rw [may1] at hm
        exact dec_yes_r w v b hR hl _ _ cH hs (fun wx => by have := rev_may (asI (N (M (b, 0)))) wx; rw [hm] at this; exact this) _ (fun wx => told_rev _ wx)
    · by_cases k2 : N (b, 0) = 2
      · have hh : happT b = (⟨2, Sn.zero, 0, asI (N (M (b, 0)))⟩, M (M (b, 0))) := by rw [happT, if_neg k0, if_neg k1, if_pos k2]
        rw [hh] at hD
        have cH := fun wx q F p h => hap_tick wx q F (b, 0) p h k2
        refine dec_fin w v b hR hl _ _ _ cH _ hD (fun hs hm => ?_) (fun hs hm => ?_)
        · rw [may2] at hm
          exact dec_no_t w v b hR hl _ _ cH hs (fun wx => by have := tick_may (asI (N (M (b, 0)))) wx; rw [hm] at this; exact this)
        · rw [may2] at hm
          exact dec_yes_t w v b hR hl _ _ cH hs (fun wx => by have := tick_may (asI (N (M (b, 0)))) wx; rw [hm] at this; exact this) _ (fun wx => told_tick _ wx)
      · have hh : happT b = (Evt.zero, ((M (b, 0)).1, 1)) := by rw [happT, if_neg k0, if_neg k1, if_neg k2]
        rw [hh] at hD
        have cH := fun wx q F p h => hap_none wx q F (b, 0) p h k0 k1 k2
        exact dec_fin w v b hR hl _ _ _ cH _ hD (fun hs hm => absurd (show (1 : Nat) = 0 from congrArg Prod.snd hs) (by decide)) (fun hs hm => absurd (show (1 : Nat) = 0 from congrArg Prod.snd hs) (by decide))

theorem says : Says where
  encode := fun w e hf hr => encode_any w e hf hr
  decode := fun w v b hR hl => decode_any w v b hR hl
end Pe
end Ev
end Go.Proofs.YtnllplholfhbdaaDoor
