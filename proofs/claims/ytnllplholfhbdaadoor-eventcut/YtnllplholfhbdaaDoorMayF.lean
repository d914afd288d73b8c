/- The document's answer whether an event may be: all kinds. -/
import Derived.Test.YtnllplholfhbdaaDoorMayE
namespace Go.Proofs.YtnllplholfhbdaaDoor
set_option linter.ambiguousOpen false
open Go.RowKit
namespace Ev
open Pk Sm
set_option linter.unusedSimpArgs false
set_option linter.unusedVariables false

theorem ses_zero (s : Sn) (w : World) : (binOp .eql 27 (.agg s.arr) (.agg Sn.zero.arr)).run Tryd.prog w = .ok (.bool s.isZero) w := by
  by_cases h : s = Sn.zero
  · rw [(Sn.isZero_iff s).2 h, h]
    exact ses_same _ w
  · have : s.isZero = false := by
      rw [← Bool.not_eq_true, Sn.isZero_iff]
      exact h
    rw [this]
    exact ses_ne h w

set_option maxRecDepth 100000 in
set_option maxHeartbeats 8000000 in
theorem may_ref (e : Evt) (w : World) (hf : e.fit) :
    Calls Tryd.prog 22 #[.agg e.arr] w fun x w' => x = .returned (.bool (mayE e)) ∧ Below w.heap.size w w' := by
  obtain ⟨ek, ⟨slot, birth, us, ub, kind, user, label, scopes, level, born, deadline, depth⟩, eb, et⟩ := e
  obtain ⟨hu, hl, _⟩ := hf
  simp only at hu hl
  have cS : Hid (∀ wx, Calls Tryd.prog 40 #[.agg (Sn.arr ⟨slot, birth, us, ub, kind, user, label, scopes, level, born, deadline, depth⟩)] wx fun e w' => e = .returned (.bool (mayS ⟨slot, birth, us, ub, kind, user, label, scopes, level, born, deadline, depth⟩)) ∧ Below wx.heap.size wx w') := fun wx => session_ref _ wx hu hl
  have hz := fun wx => ses_zero ⟨slot, birth, us, ub, kind, user, label, scopes, level, born, deadline, depth⟩ wx
  have hM : Hid (mayE ⟨ek, ⟨slot, birth, us, ub, kind, user, label, scopes, level, born, deadline, depth⟩, eb, et⟩ = if ek = 0 then eb == 0 && et == 0 && mayS ⟨slot, birth, us, ub, kind, user, label, scopes, level, born, deadline, depth⟩ else if ek = 1 then Sn.isZero ⟨slot, birth, us, ub, kind, user, label, scopes, level, born, deadline, depth⟩ && et == 0 && inI eb 1 1048576 else if ek = 2 then Sn.isZero ⟨slot, birth, us, ub, kind, user, label, scopes, level, born, deadline, depth⟩ && eb == 0 && inI et 1 1073741824 else false) := rfl
  have c1 : Hid (∀ wx, Calls Tryd.prog 41 #[nu eb, nu 1, nu 1048576] wx fun e w' => e = .returned (.bool (inI eb 1 1048576)) ∧ w' = wx) := fun wx => from_any _ _ _ _
  have c2 : Hid (∀ wx, Calls Tryd.prog 41 #[nu et, nu 1, nu 1073741824] wx fun e w' => e = .returned (.bool (inI et 1 1073741824)) ∧ w' = wx) := fun wx => from_any _ _ _ _
  obtain ⟨mz, hmz⟩ : ∃ b, Sn.isZero ⟨slot, birth, us, ub, kind, user, label, scopes, level, born, deadline, depth⟩ = b := ⟨_, rfl⟩
  obtain ⟨ms, hms⟩ : ∃ b, mayS ⟨slot, birth, us, ub, kind, user, label, scopes, level, born, deadline, depth⟩ = b := ⟨_, rfl⟩
  obtain ⟨m1, hm1⟩ : ∃ b, inI eb 1 1048576 = b := ⟨_, rfl⟩
  obtain ⟨m2, hm2⟩ : ∃ b, inI et 1 1073741824 = b := ⟨_, rfl⟩
  obtain ⟨mv, hmv⟩ : ∃ b, mayE ⟨ek, ⟨slot, birth, us, ub, kind, user, label, scopes, level, born, deadline, depth⟩, eb, et⟩ = b := ⟨_, rfl⟩
  rw [hm1] at c1
  rw [hm2] at c2
  rw [hmz, hms, hm1, hm2, hmv] at hM
  rw [hms] at cS
  rw [hmv]
  simp only [hmz] at hz
  clear hmz hms hm1 hm2 hmv hu hl
  have hb : Hid (Below w.heap.size w ((w.alloc (.cells (Evt.arr ⟨ek, ⟨slot, birth, us, ub, kind, user, label, scopes, level, born, deadline, depth⟩, eb, et⟩) 29)).alloc (.cells Sn.zero.arr 27))) := ((Below.refl _ w).alloc (Nat.le_refl _) _).alloc (by simp) _
  unfold Sn.arr Sn.zero at hz
  unfold Sn.arr at cS
  unfold Evt.arr Sn.arr Sn.zero at hb
  unfold Evt.arr
  simp only at hz cS hb ⊢
  have ht0 : tx [] = ⟨#[]⟩ := rfl
  rw [ht0] at hb
  simp only [ht0] at hz
  obtain ⟨fu, hfu⟩ : ∃ f, tx user = f := ⟨_, rfl⟩
  obtain ⟨fl, hfl⟩ : ∃ f, tx label = f := ⟨_, rfl⟩
  simp only [hfu, hfl] at hz cS hb ⊢
  clear hfu hfl ht0
  by_cases k0 : ek = 0
  case pos =>
    have k0' : (ek == 0) = true := by simpa using k0
    have hV : Hid (mv = (eb == 0 && et == 0 && ms)) := by show _ = _; rw [hM.out, if_pos k0]
    clear hM k0 hz c1 c2
    by_cases z1 : (eb == 0) = true
    case neg =>
      have z1' : (eb == 0) = false := by simpa using z1
      have hW : Hid (mv = false) := by show _ = _; rw [hV.out, z1']; rfl
      clear z1 hV
      go_enter Tryd.func22, Tryd.ntmps22
      go_wp2
      go_ret
      exact ⟨by rw [hW.out]; rfl, hb.out⟩
    by_cases z2 : (et == 0) = true
    case neg =>
      have z2' : (et == 0) = false := by simpa using z2
      have hW : Hid (mv = false) := by show _ = _; rw [hV.out, z2']; simp
      clear z2 hV
      go_enter Tryd.func22, Tryd.ntmps22
      go_wp2
      go_ret
      exact ⟨by rw [hW.out]; rfl, hb.out⟩
    have hW : Hid (mv = ms) := by show _ = _; rw [hV.out, z1, z2]; rfl
    clear hV
    go_enter Tryd.func22, Tryd.ntmps22
    go_wp2_with fail
    refine (cS.out _).mono ?_
    rintro e w1 ⟨rfl, hb1⟩
    have HB1 := Hid.mk' (hb.out.trans (hb1.mono hb.out.size))
    clear hb1
    go_wp2
    go_ret
    exact ⟨by rw [hW.out]; rfl, HB1.out⟩
  by_cases k1 : ek = 1
  case pos =>
    have k0' : (ek == 0) = false := by simpa using k0
    have k1' : (ek == 1) = true := by simpa using k1
    have hV : Hid (mv = (mz && et == 0 && m1)) := by show _ = _; rw [hM.out, if_neg k0, if_pos k1]
    clear hM k0 k1 cS
    cases mz with
    | false =>
      have hW : Hid (mv = false) := by show _ = _; rw [hV.out]; simp
      clear hV
      go_enter Tryd.func22, Tryd.ntmps22
      go_wp2
      go_ret
      exact ⟨by rw [hW.out]; rfl, hb.out⟩
    | true =>
      by_cases z2 : (et == 0) = true
      case neg =>
        have z2' : (et == 0) = false := by simpa using z2
        have hW : Hid (mv = false) := by show _ = _; rw [hV.out, z2']; simp
        clear z2 hV
        go_enter Tryd.func22, Tryd.ntmps22
        go_wp2
        go_ret
        exact ⟨by rw [hW.out]; rfl, hb.out⟩
      have hW : Hid (mv = m1) := by show _ = _; rw [hV.out, z2]; rfl
      clear hV
      go_enter Tryd.func22, Tryd.ntmps22
      go_wp2_with fail
      refine (c1.out _).mono ?_
      rintro e w' ⟨rfl, rfl⟩
      go_wp2
      go_ret
      exact ⟨by rw [hW.out]; rfl, hb.out⟩
  by_cases k2 : ek = 2
  case pos =>
    have k0' : (ek == 0) = false := by simpa using k0
    have k1' : (ek == 1) = false := by simpa using k1
    have k2' : (ek == 2) = true := by simpa using k2
    have hV : Hid (mv = (mz && eb == 0 && m2)) := by show _ = _; rw [hM.out, if_neg k0, if_neg k1, if_pos k2]
    clear hM k0 k1 k2 cS
    cases mz with
    | false =>
      have hW : Hid (mv = false) := by show _ = _; rw [hV.out]; simp
      clear hV
      go_enter Tryd.func22, Tryd.ntmps22
      go_wp2
      go_ret
      exact ⟨by rw [hW.out]; rfl, hb.out⟩
    | true =>
      by_cases z2 : (eb == 0) = true
      case neg =>
        have z2' : (eb == 0) = false := by simpa using z2
        have hW : Hid (mv = false) := by show _ = _; rw [hV.out, z2']; simp
        clear z2 hV
        go_enter Tryd.func22, Tryd.ntmps22
        go_wp2
        go_ret
        exact ⟨by rw [hW.out]; rfl, hb.out⟩
      have hW : Hid (mv = m2) := by show _ = _; rw [hV.out, z2]; rfl
      clear hV
      go_enter Tryd.func22, Tryd.ntmps22
      go_wp2_with fail
      refine (c2.out _).mono ?_
      rintro e w' ⟨rfl, rfl⟩
      go_wp2
      go_ret
      exact ⟨by rw [hW.out]; rfl, hb.out⟩
  have k0' : (ek == 0) = false := by simpa using k0
  have k1' : (ek == 1) = false := by simpa using k1
  have k2' : (ek == 2) = false := by simpa using k2
  have hW : Hid (mv = false) := by show _ = _; rw [hM.out, if_neg k0, if_neg k1, if_neg k2]
  clear hM k0 k1 k2 cS hz
  go_enter Tryd.func22, Tryd.ntmps22
  go_wp2
  go_ret
  exact ⟨by rw [hW.out]; rfl, hb.out⟩
end Ev
end Go.Proofs.YtnllplholfhbdaaDoor
