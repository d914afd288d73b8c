/- MayE, MayF, in one text. -/
import Derived.Test.YtnllplholfhbdaaDoorEqE
import Derived.Test.YtnllplholfhbdaaDoorRnameE
import Derived.Test.YtnllplholfhbdaaDoorPackP
/- The document's answer whether an event may be. -/
namespace Go.Proofs.YtnllplholfhbdaaDoor
set_option linter.ambiguousOpen false
open Go.RowKit
namespace Ev
open Pk Sm
set_option linter.unusedSimpArgs false
set_option linter.unusedVariables false

theorem from_any (n low high : Int) (w : World) : Calls Tryd.prog 41 #[nu n, nu low, nu high] w fun e w' => e = .returned (.bool (inI n low high)) ∧ w' = w := by
  by_cases h1 : low ≤ n
  · by_cases h2 : n ≤ high
    · have hb : Hid (inI n low high = true) := (inI_iff n low high).2 ⟨h1, h2⟩
      go_enter Tryd.func41, Tryd.ntmps41
      go_wp2
      go_ret
      exact ⟨by rw [hb.out]; rfl, rfl⟩
    · have hb : Hid (inI n low high = false) := by show _ = _; simp [inI, h2]
      go_enter Tryd.func41, Tryd.ntmps41
      go_wp2
      go_ret
      exact ⟨by rw [hb.out]; rfl, rfl⟩
  · have hb : Hid (inI n low high = false) := by show _ = _; simp [inI, h1]
    go_enter Tryd.func41, Tryd.ntmps41
    go_wp2
    go_ret
    exact ⟨by rw [hb.out]; rfl, rfl⟩

theorem empty_tx (l : List UInt8) : (tx l).toList.isEmpty = l.isEmpty := by
  rw [ByteArray.toList_eq]

set_option maxRecDepth 100000 in
set_option maxHeartbeats 8000000 in
theorem session_ref (s : Sn) (w : World) (hu : s.user.length ≤ 65536) (hl : s.label.length ≤ 65536) :
    Calls Tryd.prog 40 #[.agg s.arr] w fun e w' => e = .returned (.bool (mayS s)) ∧ Below w.heap.size w w' := by
  have hb : Hid (Below w.heap.size w (w.alloc (.cells s.arr 27))) := (Below.refl _ _).alloc (Nat.le_refl _) _
  obtain ⟨slot, birth, us, ub, kind, user, label, scopes, level, born, deadline, depth⟩ := s
  unfold Sn.arr at hb ⊢
  simp only at hb hu hl ⊢
  have c1 : Hid (∀ wx, Calls Tryd.prog 41 #[nu slot, nu 0, nu 31] wx fun e w' => e = .returned (.bool (inI slot 0 31)) ∧ w' = wx) := fun wx => from_any _ _ _ _
  have c2 : Hid (∀ wx, Calls Tryd.prog 41 #[nu birth, nu 1, nu 1048576] wx fun e w' => e = .returned (.bool (inI birth 1 1048576)) ∧ w' = wx) := fun wx => from_any _ _ _ _
  have c3 : Hid (∀ wx, Calls Tryd.prog 55 #[.string (tx user)] wx fun e w' => e = .returned (.bool (Nm.nameB user)) ∧ w' = wx) := fun wx => Nm.rname_any (tx user) wx (by show user.length ≤ maxLen; unfold maxLen; omega)
  have c4 : Hid (∀ wx, Calls Tryd.prog 41 #[nu level, nu 0, nu 2] wx fun e w' => e = .returned (.bool (inI level 0 2)) ∧ w' = wx) := fun wx => from_any _ _ _ _
  have c5 : Hid (∀ wx, Calls Tryd.prog 41 #[nu born, nu 0, nu 1099511627776] wx fun e w' => e = .returned (.bool (inI born 0 1099511627776)) ∧ w' = wx) := fun wx => from_any _ _ _ _
  have c6 : Hid (∀ wx, Calls Tryd.prog 41 #[nu deadline, nu (born + 1), nu 1099511627776] wx fun e w' => e = .returned (.bool (inI deadline (born + 1) 1099511627776)) ∧ w' = wx) := fun wx => from_any _ _ _ _
  have c7 : Hid (∀ wx, Calls Tryd.prog 41 #[nu us, nu 0, nu 31] wx fun e w' => e = .returned (.bool (inI us 0 31)) ∧ w' = wx) := fun wx => from_any _ _ _ _
  have c8 : Hid (∀ wx, Calls Tryd.prog 41 #[nu ub, nu 1, nu (birth - 1)] wx fun e w' => e = .returned (.bool (inI ub 1 (birth - 1))) ∧ w' = wx) := fun wx => from_any _ _ _ _
  have c9 : Hid (∀ wx, Calls Tryd.prog 55 #[.string (tx label)] wx fun e w' => e = .returned (.bool (Nm.nameB label)) ∧ w' = wx) := fun wx => Nm.rname_any (tx label) wx (by show label.length ≤ maxLen; unfold maxLen; omega)
  have c10 : Hid (∀ wx, Calls Tryd.prog 41 #[nu depth, nu 1, nu 6] wx fun e w' => e = .returned (.bool (inI depth 1 6)) ∧ w' = wx) := fun wx => from_any _ _ _ _
  have hlk := fun wx => link_eq us ub wx
  have hem := empty_tx label
  clear hu hl
  obtain ⟨fu, hfu⟩ : ∃ f, tx user = f := ⟨_, rfl⟩
  obtain ⟨fl, hfl⟩ : ∃ f, tx label = f := ⟨_, rfl⟩
  simp only [hfu, hfl] at c3 c9 hem hb ⊢
  clear hfu hfl
  have hM : Hid (mayS ⟨slot, birth, us, ub, kind, user, label, scopes, level, born, deadline, depth⟩ = (inI slot 0 31 && inI birth 1 1048576 && Nm.nameB user && inI level 0 2 && inI born 0 1099511627776 && inI deadline (born + 1) 1099511627776 && mayK ⟨slot, birth, us, ub, kind, user, label, scopes, level, born, deadline, depth⟩)) := rfl
  have hC : Hid (mayC ⟨slot, birth, us, ub, kind, user, label, scopes, level, born, deadline, depth⟩ = (inI us 0 31 && inI ub 1 (birth - 1) && Nm.nameB label && inI depth 1 6)) := rfl
  by_cases h1 : (inI slot 0 31) = true
  case neg =>
    have h1' : (inI slot 0 31) = false := by simpa using h1
    have hV : Hid (mayS ⟨slot, birth, us, ub, kind, user, label, scopes, level, born, deadline, depth⟩ = false) := by show _ = _; rw [hM.out]; simp [h1']
    rw [h1'] at c1
    clear h1 h1'
    clear hlk hem hM hC
    go_enter Tryd.func40, Tryd.ntmps40
    go_wp2_with fail
    refine (c1.out _).mono ?_
    rintro e w' ⟨rfl, rfl⟩
    go_wp2
    go_ret
    exact ⟨by rw [hV.out]; rfl, hb.out⟩
  rw [h1] at c1
  by_cases h2 : (inI birth 1 1048576) = true
  case neg =>
    have h2' : (inI birth 1 1048576) = false := by simpa using h2
    have hV : Hid (mayS ⟨slot, birth, us, ub, kind, user, label, scopes, level, born, deadline, depth⟩ = false) := by show _ = _; rw [hM.out]; simp [h2', h1]
    rw [h2'] at c2
    clear h2 h2'
    clear hlk hem hM hC h1
    go_enter Tryd.func40, Tryd.ntmps40
    go_wp2_with fail
    refine (c1.out _).mono ?_
    rintro e w' ⟨rfl, rfl⟩
    go_wp2_with fail
    refine (c2.out _).mono ?_
    rintro e w' ⟨rfl, rfl⟩
    go_wp2
    go_ret
    exact ⟨by rw [hV.out]; rfl, hb.out⟩
  rw [h2] at c2
  by_cases h3 : (Nm.nameB user) = true
  case neg =>
    have h3' : (Nm.nameB user) = false := by simpa using h3
    have hV : Hid (mayS ⟨slot, birth, us, ub, kind, user, label, scopes, level, born, deadline, depth⟩ = false) := by show _ = _; rw [hM.out]; simp [h3', h1, h2]
    rw [h3'] at c3
    clear h3 h3'
    clear hlk hem hM hC h1 h2
    go_enter Tryd.func40, Tryd.ntmps40
    go_wp2_with fail
    refine (c1.out _).mono ?_
    rintro e w' ⟨rfl, rfl⟩
    go_wp2_with fail
    refine (c2.out _).mono ?_
    rintro e w' ⟨rfl, rfl⟩
    go_wp2_with fail
    refine (c3.out _).mono ?_
    rintro e w' ⟨rfl, rfl⟩
    go_wp2
    go_ret
    exact ⟨by rw [hV.out]; rfl, hb.out⟩
  rw [h3] at c3
  by_cases h4 : (inI level 0 2) = true
  case neg =>
    have h4' : (inI level 0 2) = false := by simpa using h4
    have hV : Hid (mayS ⟨slot, birth, us, ub, kind, user, label, scopes, level, born, deadline, depth⟩ = false) := by show _ = _; rw [hM.out]; simp [h4', h1, h2, h3]
    rw [h4'] at c4
    clear h4 h4'
    clear hlk hem hM hC h1 h2 h3
    go_enter Tryd.func40, Tryd.ntmps40
    go_wp2_with fail
    refine (c1.out _).mono ?_
    rintro e w' ⟨rfl, rfl⟩
    go_wp2_with fail
    refine (c2.out _).mono ?_
    rintro e w' ⟨rfl, rfl⟩
    go_wp2_with fail
    refine (c3.out _).mono ?_
    rintro e w' ⟨rfl, rfl⟩
    go_wp2_with fail
    refine (c4.out _).mono ?_
    rintro e w' ⟨rfl, rfl⟩
    go_wp2
    go_ret
    exact ⟨by rw [hV.out]; rfl, hb.out⟩
  rw [h4] at c4
  by_cases h5 : (inI born 0 1099511627776) = true
  case neg =>
    have h5' : (inI born 0 1099511627776) = false := by simpa using h5
    have hV : Hid (mayS ⟨slot, birth, us, ub, kind, user, label, scopes, level, born, deadline, depth⟩ = false) := by show _ = _; rw [hM.out]; simp [h5', h1, h2, h3, h4]
    rw [h5'] at c5
    clear h5 h5'
    clear hlk hem hM hC h1 h2 h3 h4
    go_enter Tryd.func40, Tryd.ntmps40
    go_wp2_with fail
    refine (c1.out _).mono ?_
    rintro e w' ⟨rfl, rfl⟩
    go_wp2_with fail
    refine (c2.out _).mono ?_
    rintro e w' ⟨rfl, rfl⟩
    go_wp2_with fail
    refine (c3.out _).mono ?_
    rintro e w' ⟨rfl, rfl⟩
    go_wp2_with fail
    refine (c4.out _).mono ?_
    rintro e w' ⟨rfl, rfl⟩
    go_wp2_with fail
    refine (c5.out _).mono ?_
    rintro e w' ⟨rfl, rfl⟩
    go_wp2
    go_ret
    exact ⟨by rw [hV.out]; rfl, hb.out⟩
  rw [h5] at c5
  by_cases h6 : (inI deadline (born + 1) 1099511627776) = true
  case neg =>
    have h6' : (inI deadline (born + 1) 1099511627776) = false := by simpa using h6
    have hV : Hid (mayS ⟨slot, birth, us, ub, kind, user, label, scopes, level, born, deadline, depth⟩ = false) := by show _ = _; rw [hM.out]; simp [h6', h1, h2, h3, h4, h5]
    rw [h6'] at c6
    clear h6 h6'
    have g5 := (inI_iff _ _ _).1 h5
    clear hlk hem hM hC h1 h2 h3 h4 h5
    go_enter Tryd.func40, Tryd.ntmps40
    go_wp2_with fail
    refine (c1.out _).mono ?_
    rintro e w' ⟨rfl, rfl⟩
    go_wp2_with fail
    refine (c2.out _).mono ?_
    rintro e w' ⟨rfl, rfl⟩
    go_wp2_with fail
    refine (c3.out _).mono ?_
    rintro e w' ⟨rfl, rfl⟩
    go_wp2_with fail
    refine (c4.out _).mono ?_
    rintro e w' ⟨rfl, rfl⟩
    go_wp2_with fail
    refine (c5.out _).mono ?_
    rintro e w' ⟨rfl, rfl⟩
    go_wp2_with fail
    refine (c6.out _).mono ?_
    rintro e w' ⟨rfl, rfl⟩
    go_wp2
    go_ret
    exact ⟨by rw [hV.out]; rfl, hb.out⟩
  rw [h6] at c6
  have g5 := (inI_iff _ _ _).1 h5
  have g2 := (inI_iff _ _ _).1 h2
  have g6 := (inI_iff _ _ _).1 h6
  have hM2 : Hid (mayS ⟨slot, birth, us, ub, kind, user, label, scopes, level, born, deadline, depth⟩ = mayK ⟨slot, birth, us, ub, kind, user, label, scopes, level, born, deadline, depth⟩) := by show _ = _; rw [hM.out]; simp [h1, h2, h3, h4, h5, h6]
  clear hM h1 h2 h3 h4 h5 h6
  by_cases k0 : kind = 0
  case pos =>
    have k0' : (kind == 0) = true := by simpa using k0
    have hV0 : Hid (mayS ⟨slot, birth, us, ub, kind, user, label, scopes, level, born, deadline, depth⟩ = ((us == 0 && ub == 0) && label.isEmpty && depth == 0)) := by show _ = _; rw [hM2.out, mayK, if_pos k0]
    clear hM2 hC k0
    by_cases z0 : (us == 0 && ub == 0) = true
    case neg =>
      have z0' : (us == 0 && ub == 0) = false := by simpa only [Bool.not_eq_true] using z0
      have hV : Hid (mayS ⟨slot, birth, us, ub, kind, user, label, scopes, level, born, deadline, depth⟩ = false) := by show _ = _; rw [hV0.out, z0']; simp
      simp only [z0'] at hlk
      clear z0 z0' hV0
      go_enter Tryd.func40, Tryd.ntmps40
      go_wp2_with fail
      refine (c1.out _).mono ?_
      rintro e w' ⟨rfl, rfl⟩
      go_wp2_with fail
      refine (c2.out _).mono ?_
      rintro e w' ⟨rfl, rfl⟩
      go_wp2_with fail
      refine (c3.out _).mono ?_
      rintro e w' ⟨rfl, rfl⟩
      go_wp2_with fail
      refine (c4.out _).mono ?_
      rintro e w' ⟨rfl, rfl⟩
      go_wp2_with fail
      refine (c5.out _).mono ?_
      rintro e w' ⟨rfl, rfl⟩
      go_wp2_with fail
      refine (c6.out _).mono ?_
      rintro e w' ⟨rfl, rfl⟩
      go_wp2
      go_ret
      exact ⟨by rw [hV.out]; rfl, hb.out⟩
    simp only [z0] at hlk
    by_cases z1 : label.isEmpty = true
    case neg =>
      have z1' : label.isEmpty = false := by simpa only [Bool.not_eq_true] using z1
      have hV : Hid (mayS ⟨slot, birth, us, ub, kind, user, label, scopes, level, born, deadline, depth⟩ = false) := by show _ = _; rw [hV0.out, z1']; simp
      simp only [z1'] at hem
      clear z1 z1' hV0
      go_enter Tryd.func40, Tryd.ntmps40
      go_wp2_with fail
      refine (c1.out _).mono ?_
      rintro e w' ⟨rfl, rfl⟩
      go_wp2_with fail
      refine (c2.out _).mono ?_
      rintro e w' ⟨rfl, rfl⟩
      go_wp2_with fail
      refine (c3.out _).mono ?_
      rintro e w' ⟨rfl, rfl⟩
      go_wp2_with fail
      refine (c4.out _).mono ?_
      rintro e w' ⟨rfl, rfl⟩
      go_wp2_with fail
      refine (c5.out _).mono ?_
      rintro e w' ⟨rfl, rfl⟩
      go_wp2_with fail
      refine (c6.out _).mono ?_
      rintro e w' ⟨rfl, rfl⟩
      go_wp2
      go_ret
      exact ⟨by rw [hV.out]; rfl, hb.out⟩
    simp only [z1] at hem
    by_cases z2 : (depth == 0) = true
    case neg =>
      have z2' : (depth == 0) = false := by simpa only [Bool.not_eq_true] using z2
      have hV : Hid (mayS ⟨slot, birth, us, ub, kind, user, label, scopes, level, born, deadline, depth⟩ = false) := by show _ = _; rw [hV0.out, z2']; simp
      have hdp := z2'
      clear z2 z2' hV0
      go_enter Tryd.func40, Tryd.ntmps40
      go_wp2_with fail
      refine (c1.out _).mono ?_
      rintro e w' ⟨rfl, rfl⟩
      go_wp2_with fail
      refine (c2.out _).mono ?_
      rintro e w' ⟨rfl, rfl⟩
      go_wp2_with fail
      refine (c3.out _).mono ?_
      rintro e w' ⟨rfl, rfl⟩
      go_wp2_with fail
      refine (c4.out _).mono ?_
      rintro e w' ⟨rfl, rfl⟩
      go_wp2_with fail
      refine (c5.out _).mono ?_
      rintro e w' ⟨rfl, rfl⟩
      go_wp2_with fail
      refine (c6.out _).mono ?_
      rintro e w' ⟨rfl, rfl⟩
      go_wp2
      go_ret
      exact ⟨by rw [hV.out]; rfl, hb.out⟩
    have hV : Hid (mayS ⟨slot, birth, us, ub, kind, user, label, scopes, level, born, deadline, depth⟩ = true) := by show _ = _; rw [hV0.out, z0, z1, z2]; rfl
    clear z0 z1 hV0
    go_enter Tryd.func40, Tryd.ntmps40
    go_wp2_with fail
    refine (c1.out _).mono ?_
    rintro e w' ⟨rfl, rfl⟩
    go_wp2_with fail
    refine (c2.out _).mono ?_
    rintro e w' ⟨rfl, rfl⟩
    go_wp2_with fail
    refine (c3.out _).mono ?_
    rintro e w' ⟨rfl, rfl⟩
    go_wp2_with fail
    refine (c4.out _).mono ?_
    rintro e w' ⟨rfl, rfl⟩
    go_wp2_with fail
    refine (c5.out _).mono ?_
    rintro e w' ⟨rfl, rfl⟩
    go_wp2_with fail
    refine (c6.out _).mono ?_
    rintro e w' ⟨rfl, rfl⟩
    go_wp2
    go_ret
    exact ⟨by rw [hV.out]; rfl, hb.out⟩
  by_cases k1 : kind = 1
  case pos =>
    have k0' : (kind == 0) = false := by simpa using k0
    have k1' : (kind == 1) = true := by simpa using k1
    have hV0 : Hid (mayS ⟨slot, birth, us, ub, kind, user, label, scopes, level, born, deadline, depth⟩ = ((inI us 0 31 && inI ub 1 (birth - 1) && Nm.nameB label && inI depth 1 6))) := by show _ = _; rw [hM2.out, mayK, if_neg k0, if_pos k1, hC.out]
    clear hM2 hC k0 k1 hlk hem
    by_cases h7 : (inI us 0 31) = true
    case neg =>
      have h7' : (inI us 0 31) = false := by simpa using h7
      have hV : Hid (mayS ⟨slot, birth, us, ub, kind, user, label, scopes, level, born, deadline, depth⟩ = false) := by show _ = _; rw [hV0.out]; simp [h7']
      rw [h7'] at c7
      clear h7 h7' hV0 
      go_enter Tryd.func40, Tryd.ntmps40
      go_wp2_with fail
      refine (c1.out _).mono ?_
      rintro e w' ⟨rfl, rfl⟩
      go_wp2_with fail
      refine (c2.out _).mono ?_
      rintro e w' ⟨rfl, rfl⟩
      go_wp2_with fail
      refine (c3.out _).mono ?_
      rintro e w' ⟨rfl, rfl⟩
      go_wp2_with fail
      refine (c4.out _).mono ?_
      rintro e w' ⟨rfl, rfl⟩
      go_wp2_with fail
      refine (c5.out _).mono ?_
      rintro e w' ⟨rfl, rfl⟩
      go_wp2_with fail
      refine (c6.out _).mono ?_
      rintro e w' ⟨rfl, rfl⟩
      go_wp2_with fail
      refine (c7.out _).mono ?_
      rintro e w' ⟨rfl, rfl⟩
      go_wp2
      go_ret
      exact ⟨by rw [hV.out]; rfl, hb.out⟩
    rw [h7] at c7
    by_cases h8 : (inI ub 1 (birth - 1)) = true
    case neg =>
      have h8' : (inI ub 1 (birth - 1)) = false := by simpa using h8
      have hV : Hid (mayS ⟨slot, birth, us, ub, kind, user, label, scopes, level, born, deadline, depth⟩ = false) := by show _ = _; rw [hV0.out]; simp [h8', h7]
      rw [h8'] at c8
      clear h8 h8' hV0 h7
      go_enter Tryd.func40, Tryd.ntmps40
      go_wp2_with fail
      refine (c1.out _).mono ?_
      rintro e w' ⟨rfl, rfl⟩
      go_wp2_with fail
      refine (c2.out _).mono ?_
      rintro e w' ⟨rfl, rfl⟩
      go_wp2_with fail
      refine (c3.out _).mono ?_
      rintro e w' ⟨rfl, rfl⟩
      go_wp2_with fail
      refine (c4.out _).mono ?_
      rintro e w' ⟨rfl, rfl⟩
      go_wp2_with fail
      refine (c5.out _).mono ?_
      rintro e w' ⟨rfl, rfl⟩
      go_wp2_with fail
      refine (c6.out _).mono ?_
      rintro e w' ⟨rfl, rfl⟩
      go_wp2_with fail
      refine (c7.out _).mono ?_
      rintro e w' ⟨rfl, rfl⟩
      go_wp2_with fail
      refine (c8.out _).mono ?_
      rintro e w' ⟨rfl, rfl⟩
      go_wp2
      go_ret
      exact ⟨by rw [hV.out]; rfl, hb.out⟩
    rw [h8] at c8
    by_cases h9 : (Nm.nameB label) = true
    case neg =>
      have h9' : (Nm.nameB label) = false := by simpa using h9
      have hV : Hid (mayS ⟨slot, birth, us, ub, kind, user, label, scopes, level, born, deadline, depth⟩ = false) := by show _ = _; rw [hV0.out]; simp [h9', h7, h8]
      rw [h9'] at c9
      clear h9 h9' hV0 h7 h8
      go_enter Tryd.func40, Tryd.ntmps40
      go_wp2_with fail
      refine (c1.out _).mono ?_
      rintro e w' ⟨rfl, rfl⟩
      go_wp2_with fail
      refine (c2.out _).mono ?_
      rintro e w' ⟨rfl, rfl⟩
      go_wp2_with fail
      refine (c3.out _).mono ?_
      rintro e w' ⟨rfl, rfl⟩
      go_wp2_with fail
      refine (c4.out _).mono ?_
      rintro e w' ⟨rfl, rfl⟩
      go_wp2_with fail
      refine (c5.out _).mono ?_
      rintro e w' ⟨rfl, rfl⟩
      go_wp2_with fail
      refine (c6.out _).mono ?_
      rintro e w' ⟨rfl, rfl⟩
      go_wp2_with fail
      refine (c7.out _).mono ?_
      rintro e w' ⟨rfl, rfl⟩
      go_wp2_with fail
      refine (c8.out _).mono ?_
      rintro e w' ⟨rfl, rfl⟩
      go_wp2_with fail
      refine (c9.out _).mono ?_
      rintro e w' ⟨rfl, rfl⟩
      go_wp2
      go_ret
      exact ⟨by rw [hV.out]; rfl, hb.out⟩
    rw [h9] at c9
    by_cases h10 : (inI depth 1 6) = true
    case neg =>
      have h10' : (inI depth 1 6) = false := by simpa using h10
      have hV : Hid (mayS ⟨slot, birth, us, ub, kind, user, label, scopes, level, born, deadline, depth⟩ = false) := by show _ = _; rw [hV0.out]; simp [h10', h7, h8, h9]
      rw [h10'] at c10
      clear h10 h10' hV0 h7 h8 h9
      go_enter Tryd.func40, Tryd.ntmps40
      go_wp2_with fail
      refine (c1.out _).mono ?_
      rintro e w' ⟨rfl, rfl⟩
      go_wp2_with fail
      refine (c2.out _).mono ?_
      rintro e w' ⟨rfl, rfl⟩
      go_wp2_with fail
      refine (c3.out _).mono ?_
      rintro e w' ⟨rfl, rfl⟩
      go_wp2_with fail
      refine (c4.out _).mono ?_
      rintro e w' ⟨rfl, rfl⟩
      go_wp2_with fail
      refine (c5.out _).mono ?_
      rintro e w' ⟨rfl, rfl⟩
      go_wp2_with fail
      refine (c6.out _).mono ?_
      rintro e w' ⟨rfl, rfl⟩
      go_wp2_with fail
      refine (c7.out _).mono ?_
      rintro e w' ⟨rfl, rfl⟩
      go_wp2_with fail
      refine (c8.out _).mono ?_
      rintro e w' ⟨rfl, rfl⟩
      go_wp2_with fail
      refine (c9.out _).mono ?_
      rintro e w' ⟨rfl, rfl⟩
      go_wp2_with fail
      refine (c10.out _).mono ?_
      rintro e w' ⟨rfl, rfl⟩
      go_wp2
      go_ret
      exact ⟨by rw [hV.out]; rfl, hb.out⟩
    rw [h10] at c10
    have hV : Hid (mayS ⟨slot, birth, us, ub, kind, user, label, scopes, level, born, deadline, depth⟩ = true) := by show _ = _; rw [hV0.out]; simp [h7, h8, h9, h10]
    clear hV0 h7 h8 h9 h10
    go_enter Tryd.func40, Tryd.ntmps40
    go_wp2_with fail
    refine (c1.out _).mono ?_
    rintro e w' ⟨rfl, rfl⟩
    go_wp2_with fail
    refine (c2.out _).mono ?_
    rintro e w' ⟨rfl, rfl⟩
    go_wp2_with fail
    refine (c3.out _).mono ?_
    rintro e w' ⟨rfl, rfl⟩
    go_wp2_with fail
    refine (c4.out _).mono ?_
    rintro e w' ⟨rfl, rfl⟩
    go_wp2_with fail
    refine (c5.out _).mono ?_
    rintro e w' ⟨rfl, rfl⟩
    go_wp2_with fail
    refine (c6.out _).mono ?_
    rintro e w' ⟨rfl, rfl⟩
    go_wp2_with fail
    refine (c7.out _).mono ?_
    rintro e w' ⟨rfl, rfl⟩
    go_wp2_with fail
    refine (c8.out _).mono ?_
    rintro e w' ⟨rfl, rfl⟩
    go_wp2_with fail
    refine (c9.out _).mono ?_
    rintro e w' ⟨rfl, rfl⟩
    go_wp2_with fail
    refine (c10.out _).mono ?_
    rintro e w' ⟨rfl, rfl⟩
    go_wp2
    go_ret
    exact ⟨by rw [hV.out]; rfl, hb.out⟩
  by_cases k2 : kind = 2
  case pos =>
    have k0' : (kind == 0) = false := by simpa using k0
    have k1' : (kind == 1) = false := by simpa using k1
    have k2' : (kind == 2) = true := by simpa using k2
    have hV0 : Hid (mayS ⟨slot, birth, us, ub, kind, user, label, scopes, level, born, deadline, depth⟩ = ((inI us 0 31 && inI ub 1 (birth - 1) && Nm.nameB label && inI depth 1 6) && decide (deadline ≤ born + 300))) := by show _ = _; rw [hM2.out, mayK, if_neg k0, if_neg k1, if_pos k2, hC.out]
    clear hM2 hC k0 k1 k2 hlk hem
    by_cases h7 : (inI us 0 31) = true
    case neg =>
      have h7' : (inI us 0 31) = false := by simpa using h7
      have hV : Hid (mayS ⟨slot, birth, us, ub, kind, user, label, scopes, level, born, deadline, depth⟩ = false) := by show _ = _; rw [hV0.out]; simp [h7']
      rw [h7'] at c7
      clear h7 h7' hV0 
      go_enter Tryd.func40, Tryd.ntmps40
      go_wp2_with fail
      refine (c1.out _).mono ?_
      rintro e w' ⟨rfl, rfl⟩
      go_wp2_with fail
      refine (c2.out _).mono ?_
      rintro e w' ⟨rfl, rfl⟩
      go_wp2_with fail
      refine (c3.out _).mono ?_
      rintro e w' ⟨rfl, rfl⟩
      go_wp2_with fail
      refine (c4.out _).mono ?_
      rintro e w' ⟨rfl, rfl⟩
      go_wp2_with fail
      refine (c5.out _).mono ?_
      rintro e w' ⟨rfl, rfl⟩
      go_wp2_with fail
      refine (c6.out _).mono ?_
      rintro e w' ⟨rfl, rfl⟩
      go_wp2_with fail
      refine (c7.out _).mono ?_
      rintro e w' ⟨rfl, rfl⟩
      go_wp2
      go_ret
      exact ⟨by rw [hV.out]; rfl, hb.out⟩
    rw [h7] at c7
    by_cases h8 : (inI ub 1 (birth - 1)) = true
    case neg =>
      have h8' : (inI ub 1 (birth - 1)) = false := by simpa using h8
      have hV : Hid (mayS ⟨slot, birth, us, ub, kind, user, label, scopes, level, born, deadline, depth⟩ = false) := by show _ = _; rw [hV0.out]; simp [h8', h7]
      rw [h8'] at c8
      clear h8 h8' hV0 h7
      go_enter Tryd.func40, Tryd.ntmps40
      go_wp2_with fail
      refine (c1.out _).mono ?_
      rintro e w' ⟨rfl, rfl⟩
      go_wp2_with fail
      refine (c2.out _).mono ?_
      rintro e w' ⟨rfl, rfl⟩
      go_wp2_with fail
      refine (c3.out _).mono ?_
      rintro e w' ⟨rfl, rfl⟩
      go_wp2_with fail
      refine (c4.out _).mono ?_
      rintro e w' ⟨rfl, rfl⟩
      go_wp2_with fail
      refine (c5.out _).mono ?_
      rintro e w' ⟨rfl, rfl⟩
      go_wp2_with fail
      refine (c6.out _).mono ?_
      rintro e w' ⟨rfl, rfl⟩
      go_wp2_with fail
      refine (c7.out _).mono ?_
      rintro e w' ⟨rfl, rfl⟩
      go_wp2_with fail
      refine (c8.out _).mono ?_
      rintro e w' ⟨rfl, rfl⟩
      go_wp2
      go_ret
      exact ⟨by rw [hV.out]; rfl, hb.out⟩
    rw [h8] at c8
    by_cases h9 : (Nm.nameB label) = true
    case neg =>
      have h9' : (Nm.nameB label) = false := by simpa using h9
      have hV : Hid (mayS ⟨slot, birth, us, ub, kind, user, label, scopes, level, born, deadline, depth⟩ = false) := by show _ = _; rw [hV0.out]; simp [h9', h7, h8]
      rw [h9'] at c9
      clear h9 h9' hV0 h7 h8
      go_enter Tryd.func40, Tryd.ntmps40
      go_wp2_with fail
      refine (c1.out _).mono ?_
      rintro e w' ⟨rfl, rfl⟩
      go_wp2_with fail
      refine (c2.out _).mono ?_
      rintro e w' ⟨rfl, rfl⟩
      go_wp2_with fail
      refine (c3.out _).mono ?_
      rintro e w' ⟨rfl, rfl⟩
      go_wp2_with fail
      refine (c4.out _).mono ?_
      rintro e w' ⟨rfl, rfl⟩
      go_wp2_with fail
      refine (c5.out _).mono ?_
      rintro e w' ⟨rfl, rfl⟩
      go_wp2_with fail
      refine (c6.out _).mono ?_
      rintro e w' ⟨rfl, rfl⟩
      go_wp2_with fail
      refine (c7.out _).mono ?_
      rintro e w' ⟨rfl, rfl⟩
      go_wp2_with fail
      refine (c8.out _).mono ?_
      rintro e w' ⟨rfl, rfl⟩
      go_wp2_with fail
      refine (c9.out _).mono ?_
      rintro e w' ⟨rfl, rfl⟩
      go_wp2
      go_ret
      exact ⟨by rw [hV.out]; rfl, hb.out⟩
    rw [h9] at c9
    by_cases h10 : (inI depth 1 6) = true
    case neg =>
      have h10' : (inI depth 1 6) = false := by simpa using h10
      have hV : Hid (mayS ⟨slot, birth, us, ub, kind, user, label, scopes, level, born, deadline, depth⟩ = false) := by show _ = _; rw [hV0.out]; simp [h10', h7, h8, h9]
      rw [h10'] at c10
      clear h10 h10' hV0 h7 h8 h9
      go_enter Tryd.func40, Tryd.ntmps40
      go_wp2_with fail
      refine (c1.out _).mono ?_
      rintro e w' ⟨rfl, rfl⟩
      go_wp2_with fail
      refine (c2.out _).mono ?_
      rintro e w' ⟨rfl, rfl⟩
      go_wp2_with fail
      refine (c3.out _).mono ?_
      rintro e w' ⟨rfl, rfl⟩
      go_wp2_with fail
      refine (c4.out _).mono ?_
      rintro e w' ⟨rfl, rfl⟩
      go_wp2_with fail
      refine (c5.out _).mono ?_
      rintro e w' ⟨rfl, rfl⟩
      go_wp2_with fail
      refine (c6.out _).mono ?_
      rintro e w' ⟨rfl, rfl⟩
      go_wp2_with fail
      refine (c7.out _).mono ?_
      rintro e w' ⟨rfl, rfl⟩
      go_wp2_with fail
      refine (c8.out _).mono ?_
      rintro e w' ⟨rfl, rfl⟩
      go_wp2_with fail
      refine (c9.out _).mono ?_
      rintro e w' ⟨rfl, rfl⟩
      go_wp2_with fail
      refine (c10.out _).mono ?_
      rintro e w' ⟨rfl, rfl⟩
      go_wp2
      go_ret
      exact ⟨by rw [hV.out]; rfl, hb.out⟩
    rw [h10] at c10
    by_cases hd : deadline ≤ born + 300
    case neg =>
      have hV : Hid (mayS ⟨slot, birth, us, ub, kind, user, label, scopes, level, born, deadline, depth⟩ = false) := by show _ = _; rw [hV0.out]; simp [hd]
      clear hV0 h7 h8 h9 h10
      go_enter Tryd.func40, Tryd.ntmps40
      go_wp2_with fail
      refine (c1.out _).mono ?_
      rintro e w' ⟨rfl, rfl⟩
      go_wp2_with fail
      refine (c2.out _).mono ?_
      rintro e w' ⟨rfl, rfl⟩
      go_wp2_with fail
      refine (c3.out _).mono ?_
      rintro e w' ⟨rfl, rfl⟩
      go_wp2_with fail
      refine (c4.out _).mono ?_
      rintro e w' ⟨rfl, rfl⟩
      go_wp2_with fail
      refine (c5.out _).mono ?_
      rintro e w' ⟨rfl, rfl⟩
      go_wp2_with fail
      refine (c6.out _).mono ?_
      rintro e w' ⟨rfl, rfl⟩
      go_wp2_with fail
      refine (c7.out _).mono ?_
      rintro e w' ⟨rfl, rfl⟩
      go_wp2_with fail
      refine (c8.out _).mono ?_
      rintro e w' ⟨rfl, rfl⟩
      go_wp2_with fail
      refine (c9.out _).mono ?_
      rintro e w' ⟨rfl, rfl⟩
      go_wp2_with fail
      refine (c10.out _).mono ?_
      rintro e w' ⟨rfl, rfl⟩
      go_wp2
      go_ret
      exact ⟨by rw [hV.out]; show Ending.returned (.bool (decide (deadline ≤ born + 300))) = _; rw [decide_eq_false (by omega)], hb.out⟩
    have hV : Hid (mayS ⟨slot, birth, us, ub, kind, user, label, scopes, level, born, deadline, depth⟩ = true) := by show _ = _; rw [hV0.out]; simp [h7, h8, h9, h10, hd]
    clear hV0 h7 h8 h9 h10
    go_enter Tryd.func40, Tryd.ntmps40
    go_wp2_with fail
    refine (c1.out _).mono ?_
    rintro e w' ⟨rfl, rfl⟩
    go_wp2_with fail
    refine (c2.out _).mono ?_
    rintro e w' ⟨rfl, rfl⟩
    go_wp2_with fail
    refine (c3.out _).mono ?_
    rintro e w' ⟨rfl, rfl⟩
    go_wp2_with fail
    refine (c4.out _).mono ?_
    rintro e w' ⟨rfl, rfl⟩
    go_wp2_with fail
    refine (c5.out _).mono ?_
    rintro e w' ⟨rfl, rfl⟩
    go_wp2_with fail
    refine (c6.out _).mono ?_
    rintro e w' ⟨rfl, rfl⟩
    go_wp2_with fail
    refine (c7.out _).mono ?_
    rintro e w' ⟨rfl, rfl⟩
    go_wp2_with fail
    refine (c8.out _).mono ?_
    rintro e w' ⟨rfl, rfl⟩
    go_wp2_with fail
    refine (c9.out _).mono ?_
    rintro e w' ⟨rfl, rfl⟩
    go_wp2_with fail
    refine (c10.out _).mono ?_
    rintro e w' ⟨rfl, rfl⟩
    go_wp2
    go_ret
    exact ⟨by rw [hV.out]; rfl, hb.out⟩
  have k0' : (kind == 0) = false := by simpa using k0
  have k1' : (kind == 1) = false := by simpa using k1
  have k2' : (kind == 2) = false := by simpa using k2
  have hV : Hid (mayS ⟨slot, birth, us, ub, kind, user, label, scopes, level, born, deadline, depth⟩ = false) := by show _ = _; rw [hM2.out, mayK, if_neg k0, if_neg k1, if_neg k2]
  clear hM2 hC k0 k1 k2 hlk hem
  go_enter Tryd.func40, Tryd.ntmps40
  go_wp2_with fail
  refine (c1.out _).mono ?_
  rintro e w' ⟨rfl, rfl⟩
  go_wp2_with fail
  refine (c2.out _).mono ?_
  rintro e w' ⟨rfl, rfl⟩
  go_wp2_with fail
  refine (c3.out _).mono ?_
  rintro e w' ⟨rfl, rfl⟩
  go_wp2_with fail
  refine (c4.out _).mono ?_
  rintro e w' ⟨rfl, rfl⟩
  go_wp2_with fail
  refine (c5.out _).mono ?_
  rintro e w' ⟨rfl, rfl⟩
  go_wp2_with fail
  refine (c6.out _).mono ?_
  rintro e w' ⟨rfl, rfl⟩
  go_wp2
  go_ret
  exact ⟨by rw [hV.out]; rfl, hb.out⟩
end Ev
end Go.Proofs.YtnllplholfhbdaaDoor
/- The document's answer whether an event may be: all kinds. -/
namespace Go.Proofs.YtnllplholfhbdaaDoor
set_option linter.ambiguousOpen false
open Go.RowKit
namespace Ev
open Pk Sm
set_option linter.unusedSimpArgs false
set_option linter.unusedVariables false

theorem ses_zero (s : Sn) (w : World) : (binOp .eql 27 (.agg s.arr) (.agg Sn.zero.arr)).run Tryd.prog w = .ok (.bool s.isZero) w := by
  by_cases h : s = Sn.zero
  · rw [(Sn.isZero_iff s).2 h, h]
    exact ses_same _ w
  · have : s.isZero = false := by
      rw [← Bool.not_eq_true, Sn.isZero_iff]
      exact h
    rw [this]
    exact ses_ne h w

set_option maxRecDepth 100000 in
set_option maxHeartbeats 8000000 in
theorem may_ref (e : Evt) (w : World) (hf : e.fit) :
    Calls Tryd.prog 22 #[.agg e.arr] w fun x w' => x = .returned (.bool (mayE e)) ∧ Below w.heap.size w w' := by
  obtain ⟨ek, ⟨slot, birth, us, ub, kind, user, label, scopes, level, born, deadline, depth⟩, eb, et⟩ := e
  obtain ⟨hu, hl, _⟩ := hf
  simp only at hu hl
  have cS : Hid (∀ wx, Calls Tryd.prog 40 #[.agg (Sn.arr ⟨slot, birth, us, ub, kind, user, label, scopes, level, born, deadline, depth⟩)] wx fun e w' => e = .returned (.bool (mayS ⟨slot, birth, us, ub, kind, user, label, scopes, level, born, deadline, depth⟩)) ∧ Below wx.heap.size wx w') := fun wx => session_ref _ wx hu hl
  have hz := fun wx => ses_zero ⟨slot, birth, us, ub, kind, user, label, scopes, level, born, deadline, depth⟩ wx
  have hM : Hid (mayE ⟨ek, ⟨slot, birth, us, ub, kind, user, label, scopes, level, born, deadline, depth⟩, eb, et⟩ = if ek = 0 then eb == 0 && et == 0 && mayS ⟨slot, birth, us, ub, kind, user, label, scopes, level, born, deadline, depth⟩ else if ek = 1 then Sn.isZero ⟨slot, birth, us, ub, kind, user, label, scopes, level, born, deadline, depth⟩ && et == 0 && inI eb 1 1048576 else if ek = 2 then Sn.isZero ⟨slot, birth, us, ub, kind, user, label, scopes, level, born, deadline, depth⟩ && eb == 0 && inI et 1 1073741824 else false) := rfl
  have c1 : Hid (∀ wx, Calls Tryd.prog 41 #[nu eb, nu 1, nu 1048576] wx fun e w' => e = .returned (.bool (inI eb 1 1048576)) ∧ w' = wx) := fun wx => from_any _ _ _ _
  have c2 : Hid (∀ wx, Calls Tryd.prog 41 #[nu et, nu 1, nu 1073741824] wx fun e w' => e = .returned (.bool (inI et 1 1073741824)) ∧ w' = wx) := fun wx => from_any _ _ _ _
  obtain ⟨mz, hmz⟩ : ∃ b, Sn.isZero ⟨slot, birth, us, ub, kind, user, label, scopes, level, born, deadline, depth⟩ = b := ⟨_, rfl⟩
  obtain ⟨ms, hms⟩ : ∃ b, mayS ⟨slot, birth, us, ub, kind, user, label, scopes, level, born, deadline, depth⟩ = b := ⟨_, rfl⟩
  obtain ⟨m1, hm1⟩ : ∃ b, inI eb 1 1048576 = b := ⟨_, rfl⟩
  obtain ⟨m2, hm2⟩ : ∃ b, inI et 1 1073741824 = b := ⟨_, rfl⟩
  obtain ⟨mv, hmv⟩ : ∃ b, mayE ⟨ek, ⟨slot, birth, us, ub, kind, user, label, scopes, level, born, deadline, depth⟩, eb, et⟩ = b := ⟨_, rfl⟩
  rw [hm1] at c1
  rw [hm2] at c2
  rw [hmz, hms, hm1, hm2, hmv] at hM
  rw [hms] at cS
  rw [hmv]
  simp only [hmz] at hz
  clear hmz hms hm1 hm2 hmv hu hl
  have hb : Hid (Below w.heap.size w ((w.alloc (.cells (Evt.arr ⟨ek, ⟨slot, birth, us, ub, kind, user, label, scopes, level, born, deadline, depth⟩, eb, et⟩) 29)).alloc (.cells Sn.zero.arr 27))) := ((Below.refl _ w).alloc (Nat.le_refl _) _).alloc (by simp) _
  unfold Sn.arr Sn.zero at hz
  unfold Sn.arr at cS
  unfold Evt.arr Sn.arr Sn.zero at hb
  unfold Evt.arr
  simp only at hz cS hb ⊢
  have ht0 : tx [] = ⟨#[]⟩ := rfl
  rw [ht0] at hb
  simp only [ht0] at hz
  obtain ⟨fu, hfu⟩ : ∃ f, tx user = f := ⟨_, rfl⟩
  obtain ⟨fl, hfl⟩ : ∃ f, tx label = f := ⟨_, rfl⟩
  simp only [hfu, hfl] at hz cS hb ⊢
  clear hfu hfl ht0
  by_cases k0 : ek = 0
  case pos =>
    have k0' : (ek == 0) = true := by simpa using k0
    have hV : Hid (mv = (eb == 0 && et == 0 && ms)) := by show _ = _; rw [hM.out, if_pos k0]
    clear hM k0 hz c1 c2
    by_cases z1 : (eb == 0) = true
    case neg =>
      have z1' : (eb == 0) = false := by simpa using z1
      have hW : Hid (mv = false) := by show _ = _; rw [hV.out, z1']; rfl
      clear z1 hV
      go_enter Tryd.func22, Tryd.ntmps22
      go_wp2
      go_ret
      exact ⟨by rw [hW.out]; rfl, hb.out⟩
    by_cases z2 : (et == 0) = true
    case neg =>
      have z2' : (et == 0) = false := by simpa using z2
      have hW : Hid (mv = false) := by show _ = _; rw [hV.out, z2']; simp
      clear z2 hV
      go_enter Tryd.func22, Tryd.ntmps22
      go_wp2
      go_ret
      exact ⟨by rw [hW.out]; rfl, hb.out⟩
    have hW : Hid (mv = ms) := by show _ = _; rw [hV.out, z1, z2]; rfl
    clear hV
    go_enter Tryd.func22, Tryd.ntmps22
    go_wp2_with fail
    refine (cS.out _).mono ?_
    rintro e w1 ⟨rfl, hb1⟩
    have HB1 := Hid.mk' (hb.out.trans (hb1.mono hb.out.size))
    clear hb1
    go_wp2
    go_ret
    exact ⟨by rw [hW.out]; rfl, HB1.out⟩
  by_cases k1 : ek = 1
  case pos =>
    have k0' : (ek == 0) = false := by simpa using k0
    have k1' : (ek == 1) = true := by simpa using k1
    have hV : Hid (mv = (mz && et == 0 && m1)) := by show _ = _; rw [hM.out, if_neg k0, if_pos k1]
    clear hM k0 k1 cS
    cases mz with
    | false =>
      have hW : Hid (mv = false) := by show _ = _; rw [hV.out]; simp
      clear hV
      go_enter Tryd.func22, Tryd.ntmps22
      go_wp2
      go_ret
      exact ⟨by rw [hW.out]; rfl, hb.out⟩
    | true =>
      by_cases z2 : (et == 0) = true
      case neg =>
        have z2' : (et == 0) = false := by simpa using z2
        have hW : Hid (mv = false) := by show _ = _; rw [hV.out, z2']; simp
        clear z2 hV
        go_enter Tryd.func22, Tryd.ntmps22
        go_wp2
        go_ret
        exact ⟨by rw [hW.out]; rfl, hb.out⟩
      have hW : Hid (mv = m1) := by show _ = _; rw [hV.out, z2]; rfl
      clear hV
      go_enter Tryd.func22, Tryd.ntmps22
      go_wp2_with fail
      refine (c1.out _).mono ?_
      rintro e w' ⟨rfl, rfl⟩
      go_wp2
      go_ret
      exact ⟨by rw [hW.out]; rfl, hb.out⟩
  by_cases k2 : ek = 2
  case pos =>
    have k0' : (ek == 0) = false := by simpa using k0
    have k1' : (ek == 1) = false := by simpa using k1
    have k2' : (ek == 2) = true := by simpa using k2
    have hV : Hid (mv = (mz && eb == 0 && m2)) := by show _ = _; rw [hM.out, if_neg k0, if_neg k1, if_pos k2]
    clear hM k0 k1 k2 cS
    cases mz with
    | false =>
      have hW : Hid (mv = false) := by show _ = _; rw [hV.out]; simp
      clear hV
      go_enter Tryd.func22, Tryd.ntmps22
      go_wp2
      go_ret
      exact ⟨by rw [hW.out]; rfl, hb.out⟩
    | true =>
      by_cases z2 : (eb == 0) = true
      case neg =>
        have z2' : (eb == 0) = false := by simpa using z2
        have hW : Hid (mv = false) := by show _ = _; rw [hV.out, z2']; simp
        clear z2 hV
        go_enter Tryd.func22, Tryd.ntmps22
        go_wp2
        go_ret
        exact ⟨by rw [hW.out]; rfl, hb.out⟩
      have hW : Hid (mv = m2) := by show _ = _; rw [hV.out, z2]; rfl
      clear hV
      go_enter Tryd.func22, Tryd.ntmps22
      go_wp2_with fail
      refine (c2.out _).mono ?_
      rintro e w' ⟨rfl, rfl⟩
      go_wp2
      go_ret
      exact ⟨by rw [hW.out]; rfl, hb.out⟩
  have k0' : (ek == 0) = false := by simpa using k0
  have k1' : (ek == 1) = false := by simpa using k1
  have k2' : (ek == 2) = false := by simpa using k2
  have hW : Hid (mv = false) := by show _ = _; rw [hM.out, if_neg k0, if_neg k1, if_neg k2]
  clear hM k0 k1 k2 cS hz
  go_enter Tryd.func22, Tryd.ntmps22
  go_wp2
  go_ret
  exact ⟨by rw [hW.out]; rfl, hb.out⟩
end Ev
end Go.Proofs.YtnllplholfhbdaaDoor
