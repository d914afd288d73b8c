import Derived.Test.YtnllplholfhbdaaDoorEncD11
/- The program's Encode: an event that a happening is. -/
namespace Go.Proofs.YtnllplholfhbdaaDoor
set_option linter.ambiguousOpen false
open Go.RowKit
namespace Ev
namespace Pe
open Pk Sm Ft
open Pk.Pp (RW RR)
set_option linter.unusedSimpArgs false
set_option linter.unusedVariables false

set_option maxRecDepth 100000 in
set_option maxHeartbeats 8000000 in
theorem enc0_false (s : Sn) (w : World) (hu : s.user.length ≤ 65536) (hl : s.label.length ≤ 65536) (hm : mayS s = false) : Calls Tryd.prog 8 #[.agg (Evt.mk 0 s 0 0).arr] w fun x w' => x = .returned (.tuple #[.slice none 0 0, noE 1]) ∧ Below w.heap.size w w' := by
  obtain ⟨slot, birth, us, ub, skind, user, label, scopes, level, born, deadline, depth⟩ := s
  simp only at hu hl
  obtain ⟨fl, hfl⟩ : ∃ f, tx label = f := ⟨_, rfl⟩
  obtain ⟨fu, hfu⟩ : ∃ f, tx user = f := ⟨_, rfl⟩
  have cH : Hid (∀ wx, Calls Tryd.prog 24 #[.agg #[nu 0, nu slot, nu birth, nu us, nu ub, nu skind, .string fu, .string fl, .int .u64 scopes, nu level, nu born, nu deadline, nu depth, nu 0, nu 0]] wx fun x w' => x = .returned (.iface 91 (.agg #[nu slot, nu birth, nu us, nu ub, nu skind, .string fu, .string fl, .int .u64 scopes, nu level, nu born, nu deadline, nu depth])) ∧ Below wx.heap.size wx w') := fun wx => (by have := happened_birth ⟨0, ⟨slot, birth, us, ub, skind, user, label, scopes, level, born, deadline, depth⟩, 0, 0⟩ wx rfl; unfold Evt.arr Sn.arr at this; simp only [hfl, hfu] at this; exact this)
  have cT : Hid (∀ wx, Bx w wx #[nu 0, nu slot, nu birth, nu us, nu ub, nu skind, .string fu, .string fl, .int .u64 scopes, nu level, nu born, nu deadline, nu depth, nu 0, nu 0] → Calls Tryd.prog 25 #[.iface 91 (.agg #[nu slot, nu birth, nu us, nu ub, nu skind, .string fu, .string fl, .int .u64 scopes, nu level, nu born, nu deadline, nu depth])] wx fun x w' => x = .returned (.agg #[nu 0, nu slot, nu birth, nu us, nu ub, nu skind, .string fu, .string fl, .int .u64 scopes, nu level, nu born, nu deadline, nu depth, nu 0, nu 0]) ∧ (w'.cell? ⟨w.heap.size, 0, none⟩ = some (nu 0) ∧ w'.cell? ⟨w.heap.size, 1, none⟩ = some (nu slot) ∧ w'.cell? ⟨w.heap.size, 2, none⟩ = some (nu birth) ∧ w'.cell? ⟨w.heap.size, 3, none⟩ = some (nu us) ∧ w'.cell? ⟨w.heap.size, 4, none⟩ = some (nu ub) ∧ w'.cell? ⟨w.heap.size, 5, none⟩ = some (nu skind) ∧ w'.cell? ⟨w.heap.size, 6, none⟩ = some (.string fu) ∧ w'.cell? ⟨w.heap.size, 7, none⟩ = some (.string fl) ∧ w'.cell? ⟨w.heap.size, 8, none⟩ = some (.int .u64 scopes) ∧ w'.cell? ⟨w.heap.size, 9, none⟩ = some (nu level) ∧ w'.cell? ⟨w.heap.size, 10, none⟩ = some (nu born) ∧ w'.cell? ⟨w.heap.size, 11, none⟩ = some (nu deadline) ∧ w'.cell? ⟨w.heap.size, 12, none⟩ = some (nu depth) ∧ w'.cell? ⟨w.heap.size, 13, none⟩ = some (nu 0) ∧ w'.cell? ⟨w.heap.size, 14, none⟩ = some (nu 0)) ∧ Bx w w' #[nu 0, nu slot, nu birth, nu us, nu ub, nu skind, .string fu, .string fl, .int .u64 scopes, nu level, nu born, nu deadline, nu depth, nu 0, nu 0]) := fun wx hx => by
    have hc : Calls Tryd.prog 25 #[.iface 91 (.agg #[nu slot, nu birth, nu us, nu ub, nu skind, .string fu, .string fl, .int .u64 scopes, nu level, nu born, nu deadline, nu depth])] wx fun x w' => x = .returned (.agg #[nu 0, nu slot, nu birth, nu us, nu ub, nu skind, .string fu, .string fl, .int .u64 scopes, nu level, nu born, nu deadline, nu depth, nu 0, nu 0]) ∧ Below wx.heap.size wx w' := (by have := told_birth ⟨slot, birth, us, ub, skind, user, label, scopes, level, born, deadline, depth⟩ wx; unfold Evt.arr Sn.arr at this; simp only [hfl, hfu] at this; exact this)
    refine hc.mono ?_
    rintro x w' ⟨rfl, hb⟩
    have hB := hx.call hb
    exact ⟨rfl, ⟨cell_at (j := 0) hB.blk rfl, cell_at (j := 1) hB.blk rfl, cell_at (j := 2) hB.blk rfl, cell_at (j := 3) hB.blk rfl, cell_at (j := 4) hB.blk rfl, cell_at (j := 5) hB.blk rfl, cell_at (j := 6) hB.blk rfl, cell_at (j := 7) hB.blk rfl, cell_at (j := 8) hB.blk rfl, cell_at (j := 9) hB.blk rfl, cell_at (j := 10) hB.blk rfl, cell_at (j := 11) hB.blk rfl, cell_at (j := 12) hB.blk rfl, cell_at (j := 13) hB.blk rfl, cell_at (j := 14) hB.blk rfl⟩, hB⟩
  have cM : Hid (∀ wx, Bx w wx #[nu 0, nu slot, nu birth, nu us, nu ub, nu skind, .string fu, .string fl, .int .u64 scopes, nu level, nu born, nu deadline, nu depth, nu 0, nu 0] → Calls Tryd.prog 94 #[.agg #[nu slot, nu birth, nu us, nu ub, nu skind, .string fu, .string fl, .int .u64 scopes, nu level, nu born, nu deadline, nu depth]] wx fun x w' => x = .returned (.bool false) ∧ (w'.cell? ⟨w.heap.size, 0, none⟩ = some (nu 0) ∧ w'.cell? ⟨w.heap.size, 1, none⟩ = some (nu slot) ∧ w'.cell? ⟨w.heap.size, 2, none⟩ = some (nu birth) ∧ w'.cell? ⟨w.heap.size, 3, none⟩ = some (nu us) ∧ w'.cell? ⟨w.heap.size, 4, none⟩ = some (nu ub) ∧ w'.cell? ⟨w.heap.size, 5, none⟩ = some (nu skind) ∧ w'.cell? ⟨w.heap.size, 6, none⟩ = some (.string fu) ∧ w'.cell? ⟨w.heap.size, 7, none⟩ = some (.string fl) ∧ w'.cell? ⟨w.heap.size, 8, none⟩ = some (.int .u64 scopes) ∧ w'.cell? ⟨w.heap.size, 9, none⟩ = some (nu level) ∧ w'.cell? ⟨w.heap.size, 10, none⟩ = some (nu born) ∧ w'.cell? ⟨w.heap.size, 11, none⟩ = some (nu deadline) ∧ w'.cell? ⟨w.heap.size, 12, none⟩ = some (nu depth) ∧ w'.cell? ⟨w.heap.size, 13, none⟩ = some (nu 0) ∧ w'.cell? ⟨w.heap.size, 14, none⟩ = some (nu 0)) ∧ Bx w w' #[nu 0, nu slot, nu birth, nu us, nu ub, nu skind, .string fu, .string fl, .int .u64 scopes, nu level, nu born, nu deadline, nu depth, nu 0, nu 0]) := fun wx hx => by
    have := (by have := birth_may ⟨slot, birth, us, ub, skind, user, label, scopes, level, born, deadline, depth⟩ wx hu hl; unfold Sn.arr at this; simp only [hfl, hfu] at this; exact this : Calls Tryd.prog 94 #[.agg #[nu slot, nu birth, nu us, nu ub, nu skind, .string fu, .string fl, .int .u64 scopes, nu level, nu born, nu deadline, nu depth]] wx fun e w' => e = .returned (.bool (mayS ⟨slot, birth, us, ub, skind, user, label, scopes, level, born, deadline, depth⟩)) ∧ Below wx.heap.size wx w')
    rw [hm] at this
    refine this.mono ?_
    rintro x w' ⟨rfl, hb⟩
    have hB := hx.call hb
    exact ⟨rfl, ⟨cell_at (j := 0) hB.blk rfl, cell_at (j := 1) hB.blk rfl, cell_at (j := 2) hB.blk rfl, cell_at (j := 3) hB.blk rfl, cell_at (j := 4) hB.blk rfl, cell_at (j := 5) hB.blk rfl, cell_at (j := 6) hB.blk rfl, cell_at (j := 7) hB.blk rfl, cell_at (j := 8) hB.blk rfl, cell_at (j := 9) hB.blk rfl, cell_at (j := 10) hB.blk rfl, cell_at (j := 11) hB.blk rfl, cell_at (j := 12) hB.blk rfl, cell_at (j := 13) hB.blk rfl, cell_at (j := 14) hB.blk rfl⟩, hB⟩
  have H0 := Hid.mk' (Bx.start w #[nu 0, nu slot, nu birth, nu us, nu ub, nu skind, .string fu, .string fl, .int .u64 scopes, nu level, nu born, nu deadline, nu depth, nu 0, nu 0])
  have hN : ∀ wx, (binOp .neq 29 (.agg #[nu 0, nu slot, nu birth, nu us, nu ub, nu skind, .string fu, .string fl, .int .u64 scopes, nu level, nu born, nu deadline, nu depth, nu 0, nu 0]) (.agg #[nu 0, nu slot, nu birth, nu us, nu ub, nu skind, .string fu, .string fl, .int .u64 scopes, nu level, nu born, nu deadline, nu depth, nu 0, nu 0])).run Tryd.prog wx = .ok (.bool false) wx := fun wx => (by have := evt_nsame ⟨0, ⟨slot, birth, us, ub, skind, user, label, scopes, level, born, deadline, depth⟩, 0, 0⟩ wx; unfold Evt.arr at this; simp only [hfl, hfu] at this; exact this)
  have f1 := m_bm
  unfold Evt.arr
  simp only [hfl, hfu]
  clear hfl hfu hm hu hl
  go_enter Tryd.func8, Tryd.ntmps8
  go_wp2_with fail
  refine (cH.out _).mono ?_
  rintro e x1 ⟨rfl, hb1⟩
  have hX1 := H0.out.call hb1
  have HX1 := Hid.mk' hX1
  have m0 := cell_at (j := 0) hX1.blk rfl
  have m1 := cell_at (j := 1) hX1.blk rfl
  have m2 := cell_at (j := 2) hX1.blk rfl
  have m3 := cell_at (j := 3) hX1.blk rfl
  have m4 := cell_at (j := 4) hX1.blk rfl
  have m5 := cell_at (j := 5) hX1.blk rfl
  have m6 := cell_at (j := 6) hX1.blk rfl
  have m7 := cell_at (j := 7) hX1.blk rfl
  have m8 := cell_at (j := 8) hX1.blk rfl
  have m9 := cell_at (j := 9) hX1.blk rfl
  have m10 := cell_at (j := 10) hX1.blk rfl
  have m11 := cell_at (j := 11) hX1.blk rfl
  have m12 := cell_at (j := 12) hX1.blk rfl
  have m13 := cell_at (j := 13) hX1.blk rfl
  have m14 := cell_at (j := 14) hX1.blk rfl
  clear hX1 hb1 cH H0
  go_upto_region 2 with fail
  go_cut [16] from 8 (fun r wr => r = .bool true ∧ Hid (Bx w wr #[nu 0, nu slot, nu birth, nu us, nu ub, nu skind, .string fu, .string fl, .int .u64 scopes, nu level, nu born, nu deadline, nu depth, nu 0, nu 0]))
  case first =>
    go_wp2_with fail
    go_region_held3 (fun w' => w'.cell? ⟨w.heap.size, 0, none⟩ = some (nu 0) ∧ w'.cell? ⟨w.heap.size, 1, none⟩ = some (nu slot) ∧ w'.cell? ⟨w.heap.size, 2, none⟩ = some (nu birth) ∧ w'.cell? ⟨w.heap.size, 3, none⟩ = some (nu us) ∧ w'.cell? ⟨w.heap.size, 4, none⟩ = some (nu ub) ∧ w'.cell? ⟨w.heap.size, 5, none⟩ = some (nu skind) ∧ w'.cell? ⟨w.heap.size, 6, none⟩ = some (.string fu) ∧ w'.cell? ⟨w.heap.size, 7, none⟩ = some (.string fl) ∧ w'.cell? ⟨w.heap.size, 8, none⟩ = some (.int .u64 scopes) ∧ w'.cell? ⟨w.heap.size, 9, none⟩ = some (nu level) ∧ w'.cell? ⟨w.heap.size, 10, none⟩ = some (nu born) ∧ w'.cell? ⟨w.heap.size, 11, none⟩ = some (nu deadline) ∧ w'.cell? ⟨w.heap.size, 12, none⟩ = some (nu depth) ∧ w'.cell? ⟨w.heap.size, 13, none⟩ = some (nu 0) ∧ w'.cell? ⟨w.heap.size, 14, none⟩ = some (nu 0)) (first | assumption | exact ⟨m0, m1, m2, m3, m4, m5, m6, m7, m8, m9, m10, m11, m12, m13, m14⟩ | go_keep) (first | (go_at_call 25; with_reducible refine (cT.out _ ?hb1).mono ?_; (case hb1 => (first | exact HX1.out | exact HX1.out.drew | fail)); rintro e x2 ⟨rfl, ⟨s0, s1, s2, s3, s4, s5, s6, s7, s8, s9, s10, s11, s12, s13, s14⟩, hX2⟩) | (go_at_call 94; with_reducible refine (cM.out _ ?hb2).mono ?_; (case hb2 => (first | exact hX2 | fail)); rintro e x3 ⟨rfl, ⟨t0, t1, t2, t3, t4, t5, t6, t7, t8, t9, t10, t11, t12, t13, t14⟩, hX3⟩) | fail)
    all_goals (go_wp2_with fail; go_meet; exact ⟨rfl, hX3⟩)
  case rest =>
  obtain ⟨rfl, hX⟩ := hcut
  clear m0 m1 m2 m3 m4 m5 m6 m7 m8 m9 m10 m11 m12 m13 m14 HX1 cT
  go_wp2
  go_ret2
  exact ⟨rfl, hX.out.bel⟩

set_option maxRecDepth 100000 in
set_option maxHeartbeats 8000000 in
theorem enc0_true (s : Sn) (w : World) (hu : s.user.length ≤ 65536) (hl : s.label.length ≤ 65536) (hm : mayS s = true) (ok : s.ok) : Calls Tryd.prog 8 #[.agg (Evt.mk 0 s 0 0).arr] w fun x w' => ∃ v, x = .returned (.tuple #[v, .nilIface]) ∧ w'.ownsRow w.heap.size 5 1 v (sev 0 ++ encS s).length ((sev 0 ++ encS s).map by1) ∧ Below w.heap.size w w' := by
  have CP : Hid (∀ wx p F, RW wx p F (sev 0) → Calls Tryd.prog 95 #[.agg s.arr, ptr p] wx fun e w' => (∃ u, e = .returned u) ∧ ∃ F', RW w' p F' (sev 0 ++ encS s) ∧ Keep F wx w' ∧ Goes wx F F') := fun wx p F h => birth_put s ok wx p F (sev 0) h (by decide +kernel)
  obtain ⟨L, hL⟩ : ∃ L, sev 0 ++ encS s = L := ⟨_, rfl⟩
  have hlen : L.length ≤ 140737488351232 := by
    have := enc_len ⟨0, s, 0, 0⟩ (by unfold mayE; simp [hm]) ok.scopes
    rw [enc0, hL] at this
    omega
  rw [hL] at CP ⊢
  clear hL ok
  obtain ⟨slot, birth, us, ub, skind, user, label, scopes, level, born, deadline, depth⟩ := s
  simp only at hu hl
  obtain ⟨fl, hfl⟩ : ∃ f, tx label = f := ⟨_, rfl⟩
  obtain ⟨fu, hfu⟩ : ∃ f, tx user = f := ⟨_, rfl⟩
  unfold Sn.arr at CP
  simp only at CP
  rw [hfl, hfu] at CP
  have cH : Hid (∀ wx, Calls Tryd.prog 24 #[.agg #[nu 0, nu slot, nu birth, nu us, nu ub, nu skind, .string fu, .string fl, .int .u64 scopes, nu level, nu born, nu deadline, nu depth, nu 0, nu 0]] wx fun x w' => x = .returned (.iface 91 (.agg #[nu slot, nu birth, nu us, nu ub, nu skind, .string fu, .string fl, .int .u64 scopes, nu level, nu born, nu deadline, nu depth])) ∧ Below wx.heap.size wx w') := fun wx => (by have := happened_birth ⟨0, ⟨slot, birth, us, ub, skind, user, label, scopes, level, born, deadline, depth⟩, 0, 0⟩ wx rfl; unfold Evt.arr Sn.arr at this; simp only [hfl, hfu] at this; exact this)
  have cT : Hid (∀ wx, Bx w wx #[nu 0, nu slot, nu birth, nu us, nu ub, nu skind, .string fu, .string fl, .int .u64 scopes, nu level, nu born, nu deadline, nu depth, nu 0, nu 0] → Calls Tryd.prog 25 #[.iface 91 (.agg #[nu slot, nu birth, nu us, nu ub, nu skind, .string fu, .string fl, .int .u64 scopes, nu level, nu born, nu deadline, nu depth])] wx fun x w' => x = .returned (.agg #[nu 0, nu slot, nu birth, nu us, nu ub, nu skind, .string fu, .string fl, .int .u64 scopes, nu level, nu born, nu deadline, nu depth, nu 0, nu 0]) ∧ (w'.cell? ⟨w.heap.size, 0, none⟩ = some (nu 0) ∧ w'.cell? ⟨w.heap.size, 1, none⟩ = some (nu slot) ∧ w'.cell? ⟨w.heap.size, 2, none⟩ = some (nu birth) ∧ w'.cell? ⟨w.heap.size, 3, none⟩ = some (nu us) ∧ w'.cell? ⟨w.heap.size, 4, none⟩ = some (nu ub) ∧ w'.cell? ⟨w.heap.size, 5, none⟩ = some (nu skind) ∧ w'.cell? ⟨w.heap.size, 6, none⟩ = some (.string fu) ∧ w'.cell? ⟨w.heap.size, 7, none⟩ = some (.string fl) ∧ w'.cell? ⟨w.heap.size, 8, none⟩ = some (.int .u64 scopes) ∧ w'.cell? ⟨w.heap.size, 9, none⟩ = some (nu level) ∧ w'.cell? ⟨w.heap.size, 10, none⟩ = some (nu born) ∧ w'.cell? ⟨w.heap.size, 11, none⟩ = some (nu deadline) ∧ w'.cell? ⟨w.heap.size, 12, none⟩ = some (nu depth) ∧ w'.cell? ⟨w.heap.size, 13, none⟩ = some (nu 0) ∧ w'.cell? ⟨w.heap.size, 14, none⟩ = some (nu 0)) ∧ Bx w w' #[nu 0, nu slot, nu birth, nu us, nu ub, nu skind, .string fu, .string fl, .int .u64 scopes, nu level, nu born, nu deadline, nu depth, nu 0, nu 0]) := fun wx hx => by
    have hc : Calls Tryd.prog 25 #[.iface 91 (.agg #[nu slot, nu birth, nu us, nu ub, nu skind, .string fu, .string fl, .int .u64 scopes, nu level, nu born, nu deadline, nu depth])] wx fun x w' => x = .returned (.agg #[nu 0, nu slot, nu birth, nu us, nu ub, nu skind, .string fu, .string fl, .int .u64 scopes, nu level, nu born, nu deadline, nu depth, nu 0, nu 0]) ∧ Below wx.heap.size wx w' := (by have := told_birth ⟨slot, birth, us, ub, skind, user, label, scopes, level, born, deadline, depth⟩ wx; unfold Evt.arr Sn.arr at this; simp only [hfl, hfu] at this; exact this)
    refine hc.mono ?_
    rintro x w' ⟨rfl, hb⟩
    have hB := hx.call hb
    exact ⟨rfl, ⟨cell_at (j := 0) hB.blk rfl, cell_at (j := 1) hB.blk rfl, cell_at (j := 2) hB.blk rfl, cell_at (j := 3) hB.blk rfl, cell_at (j := 4) hB.blk rfl, cell_at (j := 5) hB.blk rfl, cell_at (j := 6) hB.blk rfl, cell_at (j := 7) hB.blk rfl, cell_at (j := 8) hB.blk rfl, cell_at (j := 9) hB.blk rfl, cell_at (j := 10) hB.blk rfl, cell_at (j := 11) hB.blk rfl, cell_at (j := 12) hB.blk rfl, cell_at (j := 13) hB.blk rfl, cell_at (j := 14) hB.blk rfl⟩, hB⟩
  have cM : Hid (∀ wx, Bx w wx #[nu 0, nu slot, nu birth, nu us, nu ub, nu skind, .string fu, .string fl, .int .u64 scopes, nu level, nu born, nu deadline, nu depth, nu 0, nu 0] → Calls Tryd.prog 94 #[.agg #[nu slot, nu birth, nu us, nu ub, nu skind, .string fu, .string fl, .int .u64 scopes, nu level, nu born, nu deadline, nu depth]] wx fun x w' => x = .returned (.bool true) ∧ (w'.cell? ⟨w.heap.size, 0, none⟩ = some (nu 0) ∧ w'.cell? ⟨w.heap.size, 1, none⟩ = some (nu slot) ∧ w'.cell? ⟨w.heap.size, 2, none⟩ = some (nu birth) ∧ w'.cell? ⟨w.heap.size, 3, none⟩ = some (nu us) ∧ w'.cell? ⟨w.heap.size, 4, none⟩ = some (nu ub) ∧ w'.cell? ⟨w.heap.size, 5, none⟩ = some (nu skind) ∧ w'.cell? ⟨w.heap.size, 6, none⟩ = some (.string fu) ∧ w'.cell? ⟨w.heap.size, 7, none⟩ = some (.string fl) ∧ w'.cell? ⟨w.heap.size, 8, none⟩ = some (.int .u64 scopes) ∧ w'.cell? ⟨w.heap.size, 9, none⟩ = some (nu level) ∧ w'.cell? ⟨w.heap.size, 10, none⟩ = some (nu born) ∧ w'.cell? ⟨w.heap.size, 11, none⟩ = some (nu deadline) ∧ w'.cell? ⟨w.heap.size, 12, none⟩ = some (nu depth) ∧ w'.cell? ⟨w.heap.size, 13, none⟩ = some (nu 0) ∧ w'.cell? ⟨w.heap.size, 14, none⟩ = some (nu 0)) ∧ Bx w w' #[nu 0, nu slot, nu birth, nu us, nu ub, nu skind, .string fu, .string fl, .int .u64 scopes, nu level, nu born, nu deadline, nu depth, nu 0, nu 0]) := fun wx hx => by
    have := (by have := birth_may ⟨slot, birth, us, ub, skind, user, label, scopes, level, born, deadline, depth⟩ wx hu hl; unfold Sn.arr at this; simp only [hfl, hfu] at this; exact this : Calls Tryd.prog 94 #[.agg #[nu slot, nu birth, nu us, nu ub, nu skind, .string fu, .string fl, .int .u64 scopes, nu level, nu born, nu deadline, nu depth]] wx fun e w' => e = .returned (.bool (mayS ⟨slot, birth, us, ub, skind, user, label, scopes, level, born, deadline, depth⟩)) ∧ Below wx.heap.size wx w')
    rw [hm] at this
    refine this.mono ?_
    rintro x w' ⟨rfl, hb⟩
    have hB := hx.call hb
    exact ⟨rfl, ⟨cell_at (j := 0) hB.blk rfl, cell_at (j := 1) hB.blk rfl, cell_at (j := 2) hB.blk rfl, cell_at (j := 3) hB.blk rfl, cell_at (j := 4) hB.blk rfl, cell_at (j := 5) hB.blk rfl, cell_at (j := 6) hB.blk rfl, cell_at (j := 7) hB.blk rfl, cell_at (j := 8) hB.blk rfl, cell_at (j := 9) hB.blk rfl, cell_at (j := 10) hB.blk rfl, cell_at (j := 11) hB.blk rfl, cell_at (j := 12) hB.blk rfl, cell_at (j := 13) hB.blk rfl, cell_at (j := 14) hB.blk rfl⟩, hB⟩
  have H0 := Hid.mk' (Bx.start w #[nu 0, nu slot, nu birth, nu us, nu ub, nu skind, .string fu, .string fl, .int .u64 scopes, nu level, nu born, nu deadline, nu depth, nu 0, nu 0])
  have hN : ∀ wx, (binOp .neq 29 (.agg #[nu 0, nu slot, nu birth, nu us, nu ub, nu skind, .string fu, .string fl, .int .u64 scopes, nu level, nu born, nu deadline, nu depth, nu 0, nu 0]) (.agg #[nu 0, nu slot, nu birth, nu us, nu ub, nu skind, .string fu, .string fl, .int .u64 scopes, nu level, nu born, nu deadline, nu depth, nu 0, nu 0])).run Tryd.prog wx = .ok (.bool false) wx := fun wx => (by have := evt_nsame ⟨0, ⟨slot, birth, us, ub, skind, user, label, scopes, level, born, deadline, depth⟩, 0, 0⟩ wx; unfold Evt.arr at this; simp only [hfl, hfu] at this; exact this)
  have f1 := m_bm
  have f2 := m_bp
  unfold Evt.arr
  simp only [hfl, hfu]
  clear hfl hfu hm hu hl
  go_enter Tryd.func8, Tryd.ntmps8
  go_wp2_with fail
  refine (cH.out _).mono ?_
  rintro e x1 ⟨rfl, hb1⟩
  have hX1 := H0.out.call hb1
  have HX1 := Hid.mk' hX1
  have m0 := cell_at (j := 0) hX1.blk rfl
  have m1 := cell_at (j := 1) hX1.blk rfl
  have m2 := cell_at (j := 2) hX1.blk rfl
  have m3 := cell_at (j := 3) hX1.blk rfl
  have m4 := cell_at (j := 4) hX1.blk rfl
  have m5 := cell_at (j := 5) hX1.blk rfl
  have m6 := cell_at (j := 6) hX1.blk rfl
  have m7 := cell_at (j := 7) hX1.blk rfl
  have m8 := cell_at (j := 8) hX1.blk rfl
  have m9 := cell_at (j := 9) hX1.blk rfl
  have m10 := cell_at (j := 10) hX1.blk rfl
  have m11 := cell_at (j := 11) hX1.blk rfl
  have m12 := cell_at (j := 12) hX1.blk rfl
  have m13 := cell_at (j := 13) hX1.blk rfl
  have m14 := cell_at (j := 14) hX1.blk rfl
  clear hX1 hb1 cH H0
  go_upto_region 2 with fail
  go_cut [16] from 8 (fun r wr => r = .bool false ∧ Hid (Bx w wr #[nu 0, nu slot, nu birth, nu us, nu ub, nu skind, .string fu, .string fl, .int .u64 scopes, nu level, nu born, nu deadline, nu depth, nu 0, nu 0]))
  case first =>
    go_wp2_with fail
    go_region_held3 (fun w' => w'.cell? ⟨w.heap.size, 0, none⟩ = some (nu 0) ∧ w'.cell? ⟨w.heap.size, 1, none⟩ = some (nu slot) ∧ w'.cell? ⟨w.heap.size, 2, none⟩ = some (nu birth) ∧ w'.cell? ⟨w.heap.size, 3, none⟩ = some (nu us) ∧ w'.cell? ⟨w.heap.size, 4, none⟩ = some (nu ub) ∧ w'.cell? ⟨w.heap.size, 5, none⟩ = some (nu skind) ∧ w'.cell? ⟨w.heap.size, 6, none⟩ = some (.string fu) ∧ w'.cell? ⟨w.heap.size, 7, none⟩ = some (.string fl) ∧ w'.cell? ⟨w.heap.size, 8, none⟩ = some (.int .u64 scopes) ∧ w'.cell? ⟨w.heap.size, 9, none⟩ = some (nu level) ∧ w'.cell? ⟨w.heap.size, 10, none⟩ = some (nu born) ∧ w'.cell? ⟨w.heap.size, 11, none⟩ = some (nu deadline) ∧ w'.cell? ⟨w.heap.size, 12, none⟩ = some (nu depth) ∧ w'.cell? ⟨w.heap.size, 13, none⟩ = some (nu 0) ∧ w'.cell? ⟨w.heap.size, 14, none⟩ = some (nu 0)) (first | assumption | exact ⟨m0, m1, m2, m3, m4, m5, m6, m7, m8, m9, m10, m11, m12, m13, m14⟩ | go_keep) (first | (go_at_call 25; with_reducible refine (cT.out _ ?hb1).mono ?_; (case hb1 => (first | exact HX1.out | exact HX1.out.drew | fail)); rintro e x2 ⟨rfl, ⟨s0, s1, s2, s3, s4, s5, s6, s7, s8, s9, s10, s11, s12, s13, s14⟩, hX2⟩) | (go_at_call 94; with_reducible refine (cM.out _ ?hb2).mono ?_; (case hb2 => (first | exact hX2 | fail)); rintro e x3 ⟨rfl, ⟨t0, t1, t2, t3, t4, t5, t6, t7, t8, t9, t10, t11, t12, t13, t14⟩, hX3⟩) | fail)
    all_goals (go_wp2_with fail; go_meet; exact ⟨rfl, hX3⟩)
  case rest =>
  obtain ⟨rfl, hX⟩ := hcut
  clear m0 m1 m2 m3 m4 m5 m6 m7 m8 m9 m10 m11 m12 m13 m14 HX1 cT
  clear cM
  go_wp2_with fail
  refine (Pk.Pp.new_any _).mono ?_
  rintro e x4 ⟨p, F4, rfl, hW, hF, hb⟩
  have HX4 := Hid.mk' (hX.out.call hb)
  have HF4 : Hid (∀ k, F4 k → w.heap.size ≤ k) := fun k hk => Nat.le_trans hX.out.bel.size (hF k hk)
  have CN : Hid (Calls Tryd.prog 27 #[ptr p, .int .u64 0] x4 fun e w' => (∃ u, e = .returned u) ∧ ∃ F', RW w' p F' (sev 0) ∧ Keep F4 x4 w' ∧ Goes x4 F4 F') := Pk.Pp.number_rw x4 p F4 [] 0 hW (by decide) (by decide +kernel)
  have m0 := cell_at (j := 0) HX4.out.blk rfl
  clear hW hF hb hX
  go_wp2_with fail
  refine CN.out.mono ?_
  rintro e x5 ⟨⟨u5, rfl⟩, F5, hW, hk, hm⟩
  have HB5 := Hid.mk' (Keep.belowF HX4.out.bel hk HF4.out)
  have HF5 := Hid.mk' (goesF HX4.out.bel HF4.out hm)
  have CQ := Hid.mk' (CP.out x5 p F5 hW)
  clear hW hk hm m0 CP CN HF4 HX4
  go_wp2_with fail
  refine CQ.out.mono ?_
  rintro e x6 ⟨⟨u6, rfl⟩, F6, hW, hk, hm⟩
  have HB6 := Hid.mk' (Keep.belowF HB5.out hk HF5.out)
  have CB := Hid.mk' (Pk.Pp.bytes_rw x6 p F6 L hW hlen)
  clear hW hk hm CQ HF5 HB5
  go_wp2_with fail
  refine CB.out.mono ?_
  rintro e x7 ⟨v, rfl, ho, hb⟩
  have HO := Hid.mk' (own_mono ho HB6.out.size)
  have HB7 := Hid.mk' (HB6.out.trans (hb.mono HB6.out.size))
  clear ho hb CB
  go_wp2
  go_ret2
  exact ⟨v, rfl, HO.out, HB7.out⟩

set_option maxRecDepth 100000 in
set_option maxHeartbeats 8000000 in
theorem enc1_false (eb : Int) (w : World) (hm : inI eb 1 1048576 = false) : Calls Tryd.prog 8 #[.agg (Evt.mk 1 Sn.zero eb 0).arr] w fun x w' => x = .returned (.tuple #[.slice none 0 0, noE 1]) ∧ Below w.heap.size w w' := by
  have cH : Hid (∀ wx, Calls Tryd.prog 24 #[.agg #[nu 1, nu 0, nu 0, nu 0, nu 0, nu 0, .string ⟨#[]⟩, .string ⟨#[]⟩, .int .u64 0, nu 0, nu 0, nu 0, nu 0, nu eb, nu 0]] wx fun x w' => x = .returned (.iface 93 (.agg #[nu eb])) ∧ Below wx.heap.size wx w') := fun wx => happened_rev ⟨1, Sn.zero, eb, 0⟩ wx rfl
  have cT : Hid (∀ wx, Bx w wx #[nu 1, nu 0, nu 0, nu 0, nu 0, nu 0, .string ⟨#[]⟩, .string ⟨#[]⟩, .int .u64 0, nu 0, nu 0, nu 0, nu 0, nu eb, nu 0] → Calls Tryd.prog 25 #[.iface 93 (.agg #[nu eb])] wx fun x w' => x = .returned (.agg #[nu 1, nu 0, nu 0, nu 0, nu 0, nu 0, .string ⟨#[]⟩, .string ⟨#[]⟩, .int .u64 0, nu 0, nu 0, nu 0, nu 0, nu eb, nu 0]) ∧ (w'.cell? ⟨w.heap.size, 0, none⟩ = some (nu 1) ∧ w'.cell? ⟨w.heap.size, 1, none⟩ = some (nu 0) ∧ w'.cell? ⟨w.heap.size, 2, none⟩ = some (nu 0) ∧ w'.cell? ⟨w.heap.size, 3, none⟩ = some (nu 0) ∧ w'.cell? ⟨w.heap.size, 4, none⟩ = some (nu 0) ∧ w'.cell? ⟨w.heap.size, 5, none⟩ = some (nu 0) ∧ w'.cell? ⟨w.heap.size, 6, none⟩ = some (.string ⟨#[]⟩) ∧ w'.cell? ⟨w.heap.size, 7, none⟩ = some (.string ⟨#[]⟩) ∧ w'.cell? ⟨w.heap.size, 8, none⟩ = some (.int .u64 0) ∧ w'.cell? ⟨w.heap.size, 9, none⟩ = some (nu 0) ∧ w'.cell? ⟨w.heap.size, 10, none⟩ = some (nu 0) ∧ w'.cell? ⟨w.heap.size, 11, none⟩ = some (nu 0) ∧ w'.cell? ⟨w.heap.size, 12, none⟩ = some (nu 0) ∧ w'.cell? ⟨w.heap.size, 13, none⟩ = some (nu eb) ∧ w'.cell? ⟨w.heap.size, 14, none⟩ = some (nu 0)) ∧ Bx w w' #[nu 1, nu 0, nu 0, nu 0, nu 0, nu 0, .string ⟨#[]⟩, .string ⟨#[]⟩, .int .u64 0, nu 0, nu 0, nu 0, nu 0, nu eb, nu 0]) := fun wx hx => by
    have hc : Calls Tryd.prog 25 #[.iface 93 (.agg #[nu eb])] wx fun x w' => x = .returned (.agg #[nu 1, nu 0, nu 0, nu 0, nu 0, nu 0, .string ⟨#[]⟩, .string ⟨#[]⟩, .int .u64 0, nu 0, nu 0, nu 0, nu 0, nu eb, nu 0]) ∧ Below wx.heap.size wx w' := told_rev eb wx
    refine hc.mono ?_
    rintro x w' ⟨rfl, hb⟩
    have hB := hx.call hb
    exact ⟨rfl, ⟨cell_at (j := 0) hB.blk rfl, cell_at (j := 1) hB.blk rfl, cell_at (j := 2) hB.blk rfl, cell_at (j := 3) hB.blk rfl, cell_at (j := 4) hB.blk rfl, cell_at (j := 5) hB.blk rfl, cell_at (j := 6) hB.blk rfl, cell_at (j := 7) hB.blk rfl, cell_at (j := 8) hB.blk rfl, cell_at (j := 9) hB.blk rfl, cell_at (j := 10) hB.blk rfl, cell_at (j := 11) hB.blk rfl, cell_at (j := 12) hB.blk rfl, cell_at (j := 13) hB.blk rfl, cell_at (j := 14) hB.blk rfl⟩, hB⟩
  have cM : Hid (∀ wx, Bx w wx #[nu 1, nu 0, nu 0, nu 0, nu 0, nu 0, .string ⟨#[]⟩, .string ⟨#[]⟩, .int .u64 0, nu 0, nu 0, nu 0, nu 0, nu eb, nu 0] → Calls Tryd.prog 104 #[.agg #[nu eb]] wx fun x w' => x = .returned (.bool false) ∧ (w'.cell? ⟨w.heap.size, 0, none⟩ = some (nu 1) ∧ w'.cell? ⟨w.heap.size, 1, none⟩ = some (nu 0) ∧ w'.cell? ⟨w.heap.size, 2, none⟩ = some (nu 0) ∧ w'.cell? ⟨w.heap.size, 3, none⟩ = some (nu 0) ∧ w'.cell? ⟨w.heap.size, 4, none⟩ = some (nu 0) ∧ w'.cell? ⟨w.heap.size, 5, none⟩ = some (nu 0) ∧ w'.cell? ⟨w.heap.size, 6, none⟩ = some (.string ⟨#[]⟩) ∧ w'.cell? ⟨w.heap.size, 7, none⟩ = some (.string ⟨#[]⟩) ∧ w'.cell? ⟨w.heap.size, 8, none⟩ = some (.int .u64 0) ∧ w'.cell? ⟨w.heap.size, 9, none⟩ = some (nu 0) ∧ w'.cell? ⟨w.heap.size, 10, none⟩ = some (nu 0) ∧ w'.cell? ⟨w.heap.size, 11, none⟩ = some (nu 0) ∧ w'.cell? ⟨w.heap.size, 12, none⟩ = some (nu 0) ∧ w'.cell? ⟨w.heap.size, 13, none⟩ = some (nu eb) ∧ w'.cell? ⟨w.heap.size, 14, none⟩ = some (nu 0)) ∧ Bx w w' #[nu 1, nu 0, nu 0, nu 0, nu 0, nu 0, .string ⟨#[]⟩, .string ⟨#[]⟩, .int .u64 0, nu 0, nu 0, nu 0, nu 0, nu eb, nu 0]) := fun wx hx => by
    have := rev_may eb wx
    rw [hm] at this
    refine this.mono ?_
    rintro x w' ⟨rfl, hb⟩
    have hB := hx.call hb
    exact ⟨rfl, ⟨cell_at (j := 0) hB.blk rfl, cell_at (j := 1) hB.blk rfl, cell_at (j := 2) hB.blk rfl, cell_at (j := 3) hB.blk rfl, cell_at (j := 4) hB.blk rfl, cell_at (j := 5) hB.blk rfl, cell_at (j := 6) hB.blk rfl, cell_at (j := 7) hB.blk rfl, cell_at (j := 8) hB.blk rfl, cell_at (j := 9) hB.blk rfl, cell_at (j := 10) hB.blk rfl, cell_at (j := 11) hB.blk rfl, cell_at (j := 12) hB.blk rfl, cell_at (j := 13) hB.blk rfl, cell_at (j := 14) hB.blk rfl⟩, hB⟩
  have H0 := Hid.mk' (Bx.start w #[nu 1, nu 0, nu 0, nu 0, nu 0, nu 0, .string ⟨#[]⟩, .string ⟨#[]⟩, .int .u64 0, nu 0, nu 0, nu 0, nu 0, nu eb, nu 0])
  have hN : ∀ wx, (binOp .neq 29 (.agg #[nu 1, nu 0, nu 0, nu 0, nu 0, nu 0, .string ⟨#[]⟩, .string ⟨#[]⟩, .int .u64 0, nu 0, nu 0, nu 0, nu 0, nu eb, nu 0]) (.agg #[nu 1, nu 0, nu 0, nu 0, nu 0, nu 0, .string ⟨#[]⟩, .string ⟨#[]⟩, .int .u64 0, nu 0, nu 0, nu 0, nu 0, nu eb, nu 0])).run Tryd.prog wx = .ok (.bool false) wx := fun wx => evt_nsame ⟨1, Sn.zero, eb, 0⟩ wx
  have f1 := m_rm
  show Calls Tryd.prog 8 #[.agg #[nu 1, nu 0, nu 0, nu 0, nu 0, nu 0, .string ⟨#[]⟩, .string ⟨#[]⟩, .int .u64 0, nu 0, nu 0, nu 0, nu 0, nu eb, nu 0]] w _
  clear hm
  go_enter Tryd.func8, Tryd.ntmps8
  go_wp2_with fail
  refine (cH.out _).mono ?_
  rintro e x1 ⟨rfl, hb1⟩
  have hX1 := H0.out.call hb1
  have HX1 := Hid.mk' hX1
  have m0 := cell_at (j := 0) hX1.blk rfl
  have m1 := cell_at (j := 1) hX1.blk rfl
  have m2 := cell_at (j := 2) hX1.blk rfl
  have m3 := cell_at (j := 3) hX1.blk rfl
  have m4 := cell_at (j := 4) hX1.blk rfl
  have m5 := cell_at (j := 5) hX1.blk rfl
  have m6 := cell_at (j := 6) hX1.blk rfl
  have m7 := cell_at (j := 7) hX1.blk rfl
  have m8 := cell_at (j := 8) hX1.blk rfl
  have m9 := cell_at (j := 9) hX1.blk rfl
  have m10 := cell_at (j := 10) hX1.blk rfl
  have m11 := cell_at (j := 11) hX1.blk rfl
  have m12 := cell_at (j := 12) hX1.blk rfl
  have m13 := cell_at (j := 13) hX1.blk rfl
  have m14 := cell_at (j := 14) hX1.blk rfl
  clear hX1 hb1 cH H0
  go_upto_region 2 with fail
  go_cut [16] from 8 (fun r wr => r = .bool true ∧ Hid (Bx w wr #[nu 1, nu 0, nu 0, nu 0, nu 0, nu 0, .string ⟨#[]⟩, .string ⟨#[]⟩, .int .u64 0, nu 0, nu 0, nu 0, nu 0, nu eb, nu 0]))
  case first =>
    go_wp2_with fail
    go_region_held3 (fun w' => w'.cell? ⟨w.heap.size, 0, none⟩ = some (nu 1) ∧ w'.cell? ⟨w.heap.size, 1, none⟩ = some (nu 0) ∧ w'.cell? ⟨w.heap.size, 2, none⟩ = some (nu 0) ∧ w'.cell? ⟨w.heap.size, 3, none⟩ = some (nu 0) ∧ w'.cell? ⟨w.heap.size, 4, none⟩ = some (nu 0) ∧ w'.cell? ⟨w.heap.size, 5, none⟩ = some (nu 0) ∧ w'.cell? ⟨w.heap.size, 6, none⟩ = some (.string ⟨#[]⟩) ∧ w'.cell? ⟨w.heap.size, 7, none⟩ = some (.string ⟨#[]⟩) ∧ w'.cell? ⟨w.heap.size, 8, none⟩ = some (.int .u64 0) ∧ w'.cell? ⟨w.heap.size, 9, none⟩ = some (nu 0) ∧ w'.cell? ⟨w.heap.size, 10, none⟩ = some (nu 0) ∧ w'.cell? ⟨w.heap.size, 11, none⟩ = some (nu 0) ∧ w'.cell? ⟨w.heap.size, 12, none⟩ = some (nu 0) ∧ w'.cell? ⟨w.heap.size, 13, none⟩ = some (nu eb) ∧ w'.cell? ⟨w.heap.size, 14, none⟩ = some (nu 0)) (first | assumption | exact ⟨m0, m1, m2, m3, m4, m5, m6, m7, m8, m9, m10, m11, m12, m13, m14⟩ | go_keep) (first | (go_at_call 25; with_reducible refine (cT.out _ ?hb1).mono ?_; (case hb1 => (first | exact HX1.out | exact HX1.out.drew | fail)); rintro e x2 ⟨rfl, ⟨s0, s1, s2, s3, s4, s5, s6, s7, s8, s9, s10, s11, s12, s13, s14⟩, hX2⟩) | (go_at_call 104; with_reducible refine (cM.out _ ?hb2).mono ?_; (case hb2 => (first | exact hX2 | fail)); rintro e x3 ⟨rfl, ⟨t0, t1, t2, t3, t4, t5, t6, t7, t8, t9, t10, t11, t12, t13, t14⟩, hX3⟩) | fail)
    all_goals (go_wp2_with fail; go_meet; exact ⟨rfl, hX3⟩)
  case rest =>
  obtain ⟨rfl, hX⟩ := hcut
  clear m0 m1 m2 m3 m4 m5 m6 m7 m8 m9 m10 m11 m12 m13 m14 HX1 cT
  go_wp2
  go_ret2
  exact ⟨rfl, hX.out.bel⟩

set_option maxRecDepth 100000 in
set_option maxHeartbeats 8000000 in
theorem enc1_true (eb : Int) (w : World) (hm : inI eb 1 1048576 = true) : Calls Tryd.prog 8 #[.agg (Evt.mk 1 Sn.zero eb 0).arr] w fun x w' => ∃ v, x = .returned (.tuple #[v, .nilIface]) ∧ w'.ownsRow w.heap.size 5 1 v (sev 1 ++ sv eb).length ((sev 1 ++ sv eb).map by1) ∧ Below w.heap.size w w' := by
  obtain ⟨hn1, hn2⟩ := (inI_iff _ _ _).1 hm
  obtain ⟨n, rfl⟩ := Int.eq_ofNat_of_zero_le (show 0 ≤ eb by omega)
  have CP : Hid (∀ wx p F, RW wx p F (sev 1) → Calls Tryd.prog 105 #[.agg #[nu (n : Int)], ptr p] wx fun e w' => (∃ u, e = .returned u) ∧ ∃ F', RW w' p F' (sev 1 ++ sev n) ∧ Keep F wx w' ∧ Goes wx F F') := fun wx p F h => rev_put n (by omega) wx p F (sev 1) h (by decide +kernel)
  have hS : sv (n : Int) = sev n := by rw [sv, Int.toNat_natCast]
  rw [hS]
  obtain ⟨L, hL⟩ : ∃ L, sev 1 ++ sev n = L := ⟨_, rfl⟩
  have hlen : L.length ≤ 140737488351232 := by
    have h1 := sev_le n (by omega)
    have h2 := sev_le 1 (by decide)
    rw [← hL, List.length_append]
    omega
  rw [hL] at CP ⊢
  clear hL hS
  obtain ⟨eb, hz⟩ : ∃ z : Int, (n : Int) = z := ⟨_, rfl⟩
  rw [hz] at hm CP ⊢
  clear hn1 hn2 hz
  have cH : Hid (∀ wx, Calls Tryd.prog 24 #[.agg #[nu 1, nu 0, nu 0, nu 0, nu 0, nu 0, .string ⟨#[]⟩, .string ⟨#[]⟩, .int .u64 0, nu 0, nu 0, nu 0, nu 0, nu eb, nu 0]] wx fun x w' => x = .returned (.iface 93 (.agg #[nu eb])) ∧ Below wx.heap.size wx w') := fun wx => happened_rev ⟨1, Sn.zero, eb, 0⟩ wx rfl
  have cT : Hid (∀ wx, Bx w wx #[nu 1, nu 0, nu 0, nu 0, nu 0, nu 0, .string ⟨#[]⟩, .string ⟨#[]⟩, .int .u64 0, nu 0, nu 0, nu 0, nu 0, nu eb, nu 0] → Calls Tryd.prog 25 #[.iface 93 (.agg #[nu eb])] wx fun x w' => x = .returned (.agg #[nu 1, nu 0, nu 0, nu 0, nu 0, nu 0, .string ⟨#[]⟩, .string ⟨#[]⟩, .int .u64 0, nu 0, nu 0, nu 0, nu 0, nu eb, nu 0]) ∧ (w'.cell? ⟨w.heap.size, 0, none⟩ = some (nu 1) ∧ w'.cell? ⟨w.heap.size, 1, none⟩ = some (nu 0) ∧ w'.cell? ⟨w.heap.size, 2, none⟩ = some (nu 0) ∧ w'.cell? ⟨w.heap.size, 3, none⟩ = some (nu 0) ∧ w'.cell? ⟨w.heap.size, 4, none⟩ = some (nu 0) ∧ w'.cell? ⟨w.heap.size, 5, none⟩ = some (nu 0) ∧ w'.cell? ⟨w.heap.size, 6, none⟩ = some (.string ⟨#[]⟩) ∧ w'.cell? ⟨w.heap.size, 7, none⟩ = some (.string ⟨#[]⟩) ∧ w'.cell? ⟨w.heap.size, 8, none⟩ = some (.int .u64 0) ∧ w'.cell? ⟨w.heap.size, 9, none⟩ = some (nu 0) ∧ w'.cell? ⟨w.heap.size, 10, none⟩ = some (nu 0) ∧ w'.cell? ⟨w.heap.size, 11, none⟩ = some (nu 0) ∧ w'.cell? ⟨w.heap.size, 12, none⟩ = some (nu 0) ∧ w'.cell? ⟨w.heap.size, 13, none⟩ = some (nu eb) ∧ w'.cell? ⟨w.heap.size, 14, none⟩ = some (nu 0)) ∧ Bx w w' #[nu 1, nu 0, nu 0, nu 0, nu 0, nu 0, .string ⟨#[]⟩, .string ⟨#[]⟩, .int .u64 0, nu 0, nu 0, nu 0, nu 0, nu eb, nu 0]) := fun wx hx => by
    have hc : Calls Tryd.prog 25 #[.iface 93 (.agg #[nu eb])] wx fun x w' => x = .returned (.agg #[nu 1, nu 0, nu 0, nu 0, nu 0, nu 0, .string ⟨#[]⟩, .string ⟨#[]⟩, .int .u64 0, nu 0, nu 0, nu 0, nu 0, nu eb, nu 0]) ∧ Below wx.heap.size wx w' := told_rev eb wx
    refine hc.mono ?_
    rintro x w' ⟨rfl, hb⟩
    have hB := hx.call hb
    exact ⟨rfl, ⟨cell_at (j := 0) hB.blk rfl, cell_at (j := 1) hB.blk rfl, cell_at (j := 2) hB.blk rfl, cell_at (j := 3) hB.blk rfl, cell_at (j := 4) hB.blk rfl, cell_at (j := 5) hB.blk rfl, cell_at (j := 6) hB.blk rfl, cell_at (j := 7) hB.blk rfl, cell_at (j := 8) hB.blk rfl, cell_at (j := 9) hB.blk rfl, cell_at (j := 10) hB.blk rfl, cell_at (j := 11) hB.blk rfl, cell_at (j := 12) hB.blk rfl, cell_at (j := 13) hB.blk rfl, cell_at (j := 14) hB.blk rfl⟩, hB⟩
  have cM : Hid (∀ wx, Bx w wx #[nu 1, nu 0, nu 0, nu 0, nu 0, nu 0, .string ⟨#[]⟩, .string ⟨#[]⟩, .int .u64 0, nu 0, nu 0, nu 0, nu 0, nu eb, nu 0] → Calls Tryd.prog 104 #[.agg #[nu eb]] wx fun x w' => x = .returned (.bool true) ∧ (w'.cell? ⟨w.heap.size, 0, none⟩ = some (nu 1) ∧ w'.cell? ⟨w.heap.size, 1, none⟩ = some (nu 0) ∧ w'.cell? ⟨w.heap.size, 2, none⟩ = some (nu 0) ∧ w'.cell? ⟨w.heap.size, 3, none⟩ = some (nu 0) ∧ w'.cell? ⟨w.heap.size, 4, none⟩ = some (nu 0) ∧ w'.cell? ⟨w.heap.size, 5, none⟩ = some (nu 0) ∧ w'.cell? ⟨w.heap.size, 6, none⟩ = some (.string ⟨#[]⟩) ∧ w'.cell? ⟨w.heap.size, 7, none⟩ = some (.string ⟨#[]⟩) ∧ w'.cell? ⟨w.heap.size, 8, none⟩ = some (.int .u64 0) ∧ w'.cell? ⟨w.heap.size, 9, none⟩ = some (nu 0) ∧ w'.cell? ⟨w.heap.size, 10, none⟩ = some (nu 0) ∧ w'.cell? ⟨w.heap.size, 11, none⟩ = some (nu 0) ∧ w'.cell? ⟨w.heap.size, 12, none⟩ = some (nu 0) ∧ w'.cell? ⟨w.heap.size, 13, none⟩ = some (nu eb) ∧ w'.cell? ⟨w.heap.size, 14, none⟩ = some (nu 0)) ∧ Bx w w' #[nu 1, nu 0, nu 0, nu 0, nu 0, nu 0, .string ⟨#[]⟩, .string ⟨#[]⟩, .int .u64 0, nu 0, nu 0, nu 0, nu 0, nu eb, nu 0]) := fun wx hx => by
    have := rev_may eb wx
    rw [hm] at this
    refine this.mono ?_
    rintro x w' ⟨rfl, hb⟩
    have hB := hx.call hb
    exact ⟨rfl, ⟨cell_at (j := 0) hB.blk rfl, cell_at (j := 1) hB.blk rfl, cell_at (j := 2) hB.blk rfl, cell_at (j := 3) hB.blk rfl, cell_at (j := 4) hB.blk rfl, cell_at (j := 5) hB.blk rfl, cell_at (j := 6) hB.blk rfl, cell_at (j := 7) hB.blk rfl, cell_at (j := 8) hB.blk rfl, cell_at (j := 9) hB.blk rfl, cell_at (j := 10) hB.blk rfl, cell_at (j := 11) hB.blk rfl, cell_at (j := 12) hB.blk rfl, cell_at (j := 13) hB.blk rfl, cell_at (j := 14) hB.blk rfl⟩, hB⟩
  have H0 := Hid.mk' (Bx.start w #[nu 1, nu 0, nu 0, nu 0, nu 0, nu 0, .string ⟨#[]⟩, .string ⟨#[]⟩, .int .u64 0, nu 0, nu 0, nu 0, nu 0, nu eb, nu 0])
  have hN : ∀ wx, (binOp .neq 29 (.agg #[nu 1, nu 0, nu 0, nu 0, nu 0, nu 0, .string ⟨#[]⟩, .string ⟨#[]⟩, .int .u64 0, nu 0, nu 0, nu 0, nu 0, nu eb, nu 0]) (.agg #[nu 1, nu 0, nu 0, nu 0, nu 0, nu 0, .string ⟨#[]⟩, .string ⟨#[]⟩, .int .u64 0, nu 0, nu 0, nu 0, nu 0, nu eb, nu 0])).run Tryd.prog wx = .ok (.bool false) wx := fun wx => evt_nsame ⟨1, Sn.zero, eb, 0⟩ wx
  have f1 := m_rm
  have f2 := m_rp
  show Calls Tryd.prog 8 #[.agg #[nu 1, nu 0, nu 0, nu 0, nu 0, nu 0, .string ⟨#[]⟩, .string ⟨#[]⟩, .int .u64 0, nu 0, nu 0, nu 0, nu 0, nu eb, nu 0]] w _
  clear hm
  go_enter Tryd.func8, Tryd.ntmps8
  go_wp2_with fail
  refine (cH.out _).mono ?_
  rintro e x1 ⟨rfl, hb1⟩
  have hX1 := H0.out.call hb1
  have HX1 := Hid.mk' hX1
  have m0 := cell_at (j := 0) hX1.blk rfl
  have m1 := cell_at (j := 1) hX1.blk rfl
  have m2 := cell_at (j := 2) hX1.blk rfl
  have m3 := cell_at (j := 3) hX1.blk rfl
  have m4 := cell_at (j := 4) hX1.blk rfl
  have m5 := cell_at (j := 5) hX1.blk rfl
  have m6 := cell_at (j := 6) hX1.blk rfl
  have m7 := cell_at (j := 7) hX1.blk rfl
  have m8 := cell_at (j := 8) hX1.blk rfl
  have m9 := cell_at (j := 9) hX1.blk rfl
  have m10 := cell_at (j := 10) hX1.blk rfl
  have m11 := cell_at (j := 11) hX1.blk rfl
  have m12 := cell_at (j := 12) hX1.blk rfl
  have m13 := cell_at (j := 13) hX1.blk rfl
  have m14 := cell_at (j := 14) hX1.blk rfl
  clear hX1 hb1 cH H0
  go_upto_region 2 with fail
  go_cut [16] from 8 (fun r wr => r = .bool false ∧ Hid (Bx w wr #[nu 1, nu 0, nu 0, nu 0, nu 0, nu 0, .string ⟨#[]⟩, .string ⟨#[]⟩, .int .u64 0, nu 0, nu 0, nu 0, nu 0, nu eb, nu 0]))
  case first =>
    go_wp2_with fail
    go_region_held3 (fun w' => w'.cell? ⟨w.heap.size, 0, none⟩ = some (nu 1) ∧ w'.cell? ⟨w.heap.size, 1, none⟩ = some (nu 0) ∧ w'.cell? ⟨w.heap.size, 2, none⟩ = some (nu 0) ∧ w'.cell? ⟨w.heap.size, 3, none⟩ = some (nu 0) ∧ w'.cell? ⟨w.heap.size, 4, none⟩ = some (nu 0) ∧ w'.cell? ⟨w.heap.size, 5, none⟩ = some (nu 0) ∧ w'.cell? ⟨w.heap.size, 6, none⟩ = some (.string ⟨#[]⟩) ∧ w'.cell? ⟨w.heap.size, 7, none⟩ = some (.string ⟨#[]⟩) ∧ w'.cell? ⟨w.heap.size, 8, none⟩ = some (.int .u64 0) ∧ w'.cell? ⟨w.heap.size, 9, none⟩ = some (nu 0) ∧ w'.cell? ⟨w.heap.size, 10, none⟩ = some (nu 0) ∧ w'.cell? ⟨w.heap.size, 11, none⟩ = some (nu 0) ∧ w'.cell? ⟨w.heap.size, 12, none⟩ = some (nu 0) ∧ w'.cell? ⟨w.heap.size, 13, none⟩ = some (nu eb) ∧ w'.cell? ⟨w.heap.size, 14, none⟩ = some (nu 0)) (first | assumption | exact ⟨m0, m1, m2, m3, m4, m5, m6, m7, m8, m9, m10, m11, m12, m13, m14⟩ | go_keep) (first | (go_at_call 25; with_reducible refine (cT.out _ ?hb1).mono ?_; (case hb1 => (first | exact HX1.out | exact HX1.out.drew | fail)); rintro e x2 ⟨rfl, ⟨s0, s1, s2, s3, s4, s5, s6, s7, s8, s9, s10, s11, s12, s13, s14⟩, hX2⟩) | (go_at_call 104; with_reducible refine (cM.out _ ?hb2).mono ?_; (case hb2 => (first | exact hX2 | fail)); rintro e x3 ⟨rfl, ⟨t0, t1, t2, t3, t4, t5, t6, t7, t8, t9, t10, t11, t12, t13, t14⟩, hX3⟩) | fail)
    all_goals (go_wp2_with fail; go_meet; exact ⟨rfl, hX3⟩)
  case rest =>
  obtain ⟨rfl, hX⟩ := hcut
  clear m0 m1 m2 m3 m4 m5 m6 m7 m8 m9 m10 m11 m12 m13 m14 HX1 cT
  clear cM
  go_wp2_with fail
  refine (Pk.Pp.new_any _).mono ?_
  rintro e x4 ⟨p, F4, rfl, hW, hF, hb⟩
  have HX4 := Hid.mk' (hX.out.call hb)
  have HF4 : Hid (∀ k, F4 k → w.heap.size ≤ k) := fun k hk => Nat.le_trans hX.out.bel.size (hF k hk)
  have CN : Hid (Calls Tryd.prog 27 #[ptr p, .int .u64 1] x4 fun e w' => (∃ u, e = .returned u) ∧ ∃ F', RW w' p F' (sev 1) ∧ Keep F4 x4 w' ∧ Goes x4 F4 F') := Pk.Pp.number_rw x4 p F4 [] 1 hW (by decide) (by decide +kernel)
  have m0 := cell_at (j := 0) HX4.out.blk rfl
  clear hW hF hb hX
  go_wp2_with fail
  refine CN.out.mono ?_
  rintro e x5 ⟨⟨u5, rfl⟩, F5, hW, hk, hm⟩
  have HB5 := Hid.mk' (Keep.belowF HX4.out.bel hk HF4.out)
  have HF5 := Hid.mk' (goesF HX4.out.bel HF4.out hm)
  have CQ := Hid.mk' (CP.out x5 p F5 hW)
  clear hW hk hm m0 CP CN HF4 HX4
  go_wp2_with fail
  refine CQ.out.mono ?_
  rintro e x6 ⟨⟨u6, rfl⟩, F6, hW, hk, hm⟩
  have HB6 := Hid.mk' (Keep.belowF HB5.out hk HF5.out)
  have CB := Hid.mk' (Pk.Pp.bytes_rw x6 p F6 L hW hlen)
  clear hW hk hm CQ HF5 HB5
  go_wp2_with fail
  refine CB.out.mono ?_
  rintro e x7 ⟨v, rfl, ho, hb⟩
  have HO := Hid.mk' (own_mono ho HB6.out.size)
  have HB7 := Hid.mk' (HB6.out.trans (hb.mono HB6.out.size))
  clear ho hb CB
  go_wp2
  go_ret2
  exact ⟨v, rfl, HO.out, HB7.out⟩

set_option maxRecDepth 100000 in
set_option maxHeartbeats 8000000 in
theorem enc2_false (et : Int) (w : World) (hm : inI et 1 1073741824 = false) : Calls Tryd.prog 8 #[.agg (Evt.mk 2 Sn.zero 0 et).arr] w fun x w' => x = .returned (.tuple #[.slice none 0 0, noE 1]) ∧ Below w.heap.size w w' := by
  have cH : Hid (∀ wx, Calls Tryd.prog 24 #[.agg #[nu 2, nu 0, nu 0, nu 0, nu 0, nu 0, .string ⟨#[]⟩, .string ⟨#[]⟩, .int .u64 0, nu 0, nu 0, nu 0, nu 0, nu 0, nu et]] wx fun x w' => x = .returned (.iface 95 (.agg #[nu et])) ∧ Below wx.heap.size wx w') := fun wx => happened_tick ⟨2, Sn.zero, 0, et⟩ wx rfl
  have cT : Hid (∀ wx, Bx w wx #[nu 2, nu 0, nu 0, nu 0, nu 0, nu 0, .string ⟨#[]⟩, .string ⟨#[]⟩, .int .u64 0, nu 0, nu 0, nu 0, nu 0, nu 0, nu et] → Calls Tryd.prog 25 #[.iface 95 (.agg #[nu et])] wx fun x w' => x = .returned (.agg #[nu 2, nu 0, nu 0, nu 0, nu 0, nu 0, .string ⟨#[]⟩, .string ⟨#[]⟩, .int .u64 0, nu 0, nu 0, nu 0, nu 0, nu 0, nu et]) ∧ (w'.cell? ⟨w.heap.size, 0, none⟩ = some (nu 2) ∧ w'.cell? ⟨w.heap.size, 1, none⟩ = some (nu 0) ∧ w'.cell? ⟨w.heap.size, 2, none⟩ = some (nu 0) ∧ w'.cell? ⟨w.heap.size, 3, none⟩ = some (nu 0) ∧ w'.cell? ⟨w.heap.size, 4, none⟩ = some (nu 0) ∧ w'.cell? ⟨w.heap.size, 5, none⟩ = some (nu 0) ∧ w'.cell? ⟨w.heap.size, 6, none⟩ = some (.string ⟨#[]⟩) ∧ w'.cell? ⟨w.heap.size, 7, none⟩ = some (.string ⟨#[]⟩) ∧ w'.cell? ⟨w.heap.size, 8, none⟩ = some (.int .u64 0) ∧ w'.cell? ⟨w.heap.size, 9, none⟩ = some (nu 0) ∧ w'.cell? ⟨w.heap.size, 10, none⟩ = some (nu 0) ∧ w'.cell? ⟨w.heap.size, 11, none⟩ = some (nu 0) ∧ w'.cell? ⟨w.heap.size, 12, none⟩ = some (nu 0) ∧ w'.cell? ⟨w.heap.size, 13, none⟩ = some (nu 0) ∧ w'.cell? ⟨w.heap.size, 14, none⟩ = some (nu et)) ∧ Bx w w' #[nu 2, nu 0, nu 0, nu 0, nu 0, nu 0, .string ⟨#[]⟩, .string ⟨#[]⟩, .int .u64 0, nu 0, nu 0, nu 0, nu 0, nu 0, nu et]) := fun wx hx => by
    have hc : Calls Tryd.prog 25 #[.iface 95 (.agg #[nu et])] wx fun x w' => x = .returned (.agg #[nu 2, nu 0, nu 0, nu 0, nu 0, nu 0, .string ⟨#[]⟩, .string ⟨#[]⟩, .int .u64 0, nu 0, nu 0, nu 0, nu 0, nu 0, nu et]) ∧ Below wx.heap.size wx w' := told_tick et wx
    refine hc.mono ?_
    rintro x w' ⟨rfl, hb⟩
    have hB := hx.call hb
    exact ⟨rfl, ⟨cell_at (j := 0) hB.blk rfl, cell_at (j := 1) hB.blk rfl, cell_at (j := 2) hB.blk rfl, cell_at (j := 3) hB.blk rfl, cell_at (j := 4) hB.blk rfl, cell_at (j := 5) hB.blk rfl, cell_at (j := 6) hB.blk rfl, cell_at (j := 7) hB.blk rfl, cell_at (j := 8) hB.blk rfl, cell_at (j := 9) hB.blk rfl, cell_at (j := 10) hB.blk rfl, cell_at (j := 11) hB.blk rfl, cell_at (j := 12) hB.blk rfl, cell_at (j := 13) hB.blk rfl, cell_at (j := 14) hB.blk rfl⟩, hB⟩
  have cM : Hid (∀ wx, Bx w wx #[nu 2, nu 0, nu 0, nu 0, nu 0, nu 0, .string ⟨#[]⟩, .string ⟨#[]⟩, .int .u64 0, nu 0, nu 0, nu 0, nu 0, nu 0, nu et] → Calls Tryd.prog 106 #[.agg #[nu et]] wx fun x w' => x = .returned (.bool false) ∧ (w'.cell? ⟨w.heap.size, 0, none⟩ = some (nu 2) ∧ w'.cell? ⟨w.heap.size, 1, none⟩ = some (nu 0) ∧ w'.cell? ⟨w.heap.size, 2, none⟩ = some (nu 0) ∧ w'.cell? ⟨w.heap.size, 3, none⟩ = some (nu 0) ∧ w'.cell? ⟨w.heap.size, 4, none⟩ = some (nu 0) ∧ w'.cell? ⟨w.heap.size, 5, none⟩ = some (nu 0) ∧ w'.cell? ⟨w.heap.size, 6, none⟩ = some (.string ⟨#[]⟩) ∧ w'.cell? ⟨w.heap.size, 7, none⟩ = some (.string ⟨#[]⟩) ∧ w'.cell? ⟨w.heap.size, 8, none⟩ = some (.int .u64 0) ∧ w'.cell? ⟨w.heap.size, 9, none⟩ = some (nu 0) ∧ w'.cell? ⟨w.heap.size, 10, none⟩ = some (nu 0) ∧ w'.cell? ⟨w.heap.size, 11, none⟩ = some (nu 0) ∧ w'.cell? ⟨w.heap.size, 12, none⟩ = some (nu 0) ∧ w'.cell? ⟨w.heap.size, 13, none⟩ = some (nu 0) ∧ w'.cell? ⟨w.heap.size, 14, none⟩ = some (nu et)) ∧ Bx w w' #[nu 2, nu 0, nu 0, nu 0, nu 0, nu 0, .string ⟨#[]⟩, .string ⟨#[]⟩, .int .u64 0, nu 0, nu 0, nu 0, nu 0, nu 0, nu et]) := fun wx hx => by
    have := tick_may et wx
    rw [hm] at this
    refine this.mono ?_
    rintro x w' ⟨rfl, hb⟩
    have hB := hx.call hb
    exact ⟨rfl, ⟨cell_at (j := 0) hB.blk rfl, cell_at (j := 1) hB.blk rfl, cell_at (j := 2) hB.blk rfl, cell_at (j := 3) hB.blk rfl, cell_at (j := 4) hB.blk rfl, cell_at (j := 5) hB.blk rfl, cell_at (j := 6) hB.blk rfl, cell_at (j := 7) hB.blk rfl, cell_at (j := 8) hB.blk rfl, cell_at (j := 9) hB.blk rfl, cell_at (j := 10) hB.blk rfl, cell_at (j := 11) hB.blk rfl, cell_at (j := 12) hB.blk rfl, cell_at (j := 13) hB.blk rfl, cell_at (j := 14) hB.blk rfl⟩, hB⟩
  have H0 := Hid.mk' (Bx.start w #[nu 2, nu 0, nu 0, nu 0, nu 0, nu 0, .string ⟨#[]⟩, .string ⟨#[]⟩, .int .u64 0, nu 0, nu 0, nu 0, nu 0, nu 0, nu et])
  have hN : ∀ wx, (binOp .neq 29 (.agg #[nu 2, nu 0, nu 0, nu 0, nu 0, nu 0, .string ⟨#[]⟩, .string ⟨#[]⟩, .int .u64 0, nu 0, nu 0, nu 0, nu 0, nu 0, nu et]) (.agg #[nu 2, nu 0, nu 0, nu 0, nu 0, nu 0, .string ⟨#[]⟩, .string ⟨#[]⟩, .int .u64 0, nu 0, nu 0, nu 0, nu 0, nu 0, nu et])).run Tryd.prog wx = .ok (.bool false) wx := fun wx => evt_nsame ⟨2, Sn.zero, 0, et⟩ wx
  have f1 := m_tm
  show Calls Tryd.prog 8 #[.agg #[nu 2, nu 0, nu 0, nu 0, nu 0, nu 0, .string ⟨#[]⟩, .string ⟨#[]⟩, .int .u64 0, nu 0, nu 0, nu 0, nu 0, nu 0, nu et]] w _
  clear hm
  go_enter Tryd.func8, Tryd.ntmps8
  go_wp2_with fail
  refine (cH.out _).mono ?_
  rintro e x1 ⟨rfl, hb1⟩
  have hX1 := H0.out.call hb1
  have HX1 := Hid.mk' hX1
  have m0 := cell_at (j := 0) hX1.blk rfl
  have m1 := cell_at (j := 1) hX1.blk rfl
  have m2 := cell_at (j := 2) hX1.blk rfl
  have m3 := cell_at (j := 3) hX1.blk rfl
  have m4 := cell_at (j := 4) hX1.blk rfl
  have m5 := cell_at (j := 5) hX1.blk rfl
  have m6 := cell_at (j := 6) hX1.blk rfl
  have m7 := cell_at (j := 7) hX1.blk rfl
  have m8 := cell_at (j := 8) hX1.blk rfl
  have m9 := cell_at (j := 9) hX1.blk rfl
  have m10 := cell_at (j := 10) hX1.blk rfl
  have m11 := cell_at (j := 11) hX1.blk rfl
  have m12 := cell_at (j := 12) hX1.blk rfl
  have m13 := cell_at (j := 13) hX1.blk rfl
  have m14 := cell_at (j := 14) hX1.blk rfl
  clear hX1 hb1 cH H0
  go_upto_region 2 with fail
  go_cut [16] from 8 (fun r wr => r = .bool true ∧ Hid (Bx w wr #[nu 2, nu 0, nu 0, nu 0, nu 0, nu 0, .string ⟨#[]⟩, .string ⟨#[]⟩, .int .u64 0, nu 0, nu 0, nu 0, nu 0, nu 0, nu et]))
  case first =>
    go_wp2_with fail
    go_region_held3 (fun w' => w'.cell? ⟨w.heap.size, 0, none⟩ = some (nu 2) ∧ w'.cell? ⟨w.heap.size, 1, none⟩ = some (nu 0) ∧ w'.cell? ⟨w.heap.size, 2, none⟩ = some (nu 0) ∧ w'.cell? ⟨w.heap.size, 3, none⟩ = some (nu 0) ∧ w'.cell? ⟨w.heap.size, 4, none⟩ = some (nu 0) ∧ w'.cell? ⟨w.heap.size, 5, none⟩ = some (nu 0) ∧ w'.cell? ⟨w.heap.size, 6, none⟩ = some (.string ⟨#[]⟩) ∧ w'.cell? ⟨w.heap.size, 7, none⟩ = some (.string ⟨#[]⟩) ∧ w'.cell? ⟨w.heap.size, 8, none⟩ = some (.int .u64 0) ∧ w'.cell? ⟨w.heap.size, 9, none⟩ = some (nu 0) ∧ w'.cell? ⟨w.heap.size, 10, none⟩ = some (nu 0) ∧ w'.cell? ⟨w.heap.size, 11, none⟩ = some (nu 0) ∧ w'.cell? ⟨w.heap.size, 12, none⟩ = some (nu 0) ∧ w'.cell? ⟨w.heap.size, 13, none⟩ = some (nu 0) ∧ w'.cell? ⟨w.heap.size, 14, none⟩ = some (nu et)) (first | assumption | exact ⟨m0, m1, m2, m3, m4, m5, m6, m7, m8, m9, m10, m11, m12, m13, m14⟩ | go_keep) (first | (go_at_call 25; with_reducible refine (cT.out _ ?hb1).mono ?_; (case hb1 => (first | exact HX1.out | exact HX1.out.drew | fail)); rintro e x2 ⟨rfl, ⟨s0, s1, s2, s3, s4, s5, s6, s7, s8, s9, s10, s11, s12, s13, s14⟩, hX2⟩) | (go_at_call 106; with_reducible refine (cM.out _ ?hb2).mono ?_; (case hb2 => (first | exact hX2 | fail)); rintro e x3 ⟨rfl, ⟨t0, t1, t2, t3, t4, t5, t6, t7, t8, t9, t10, t11, t12, t13, t14⟩, hX3⟩) | fail)
    all_goals (go_wp2_with fail; go_meet; exact ⟨rfl, hX3⟩)
  case rest =>
  obtain ⟨rfl, hX⟩ := hcut
  clear m0 m1 m2 m3 m4 m5 m6 m7 m8 m9 m10 m11 m12 m13 m14 HX1 cT
  go_wp2
  go_ret2
  exact ⟨rfl, hX.out.bel⟩

set_option maxRecDepth 100000 in
set_option maxHeartbeats 8000000 in
theorem enc2_true (et : Int) (w : World) (hm : inI et 1 1073741824 = true) : Calls Tryd.prog 8 #[.agg (Evt.mk 2 Sn.zero 0 et).arr] w fun x w' => ∃ v, x = .returned (.tuple #[v, .nilIface]) ∧ w'.ownsRow w.heap.size 5 1 v (sev 2 ++ sv et).length ((sev 2 ++ sv et).map by1) ∧ Below w.heap.size w w' := by
  obtain ⟨hn1, hn2⟩ := (inI_iff _ _ _).1 hm
  obtain ⟨n, rfl⟩ := Int.eq_ofNat_of_zero_le (show 0 ≤ et by omega)
  have CP : Hid (∀ wx p F, RW wx p F (sev 2) → Calls Tryd.prog 107 #[.agg #[nu (n : Int)], ptr p] wx fun e w' => (∃ u, e = .returned u) ∧ ∃ F', RW w' p F' (sev 2 ++ sev n) ∧ Keep F wx w' ∧ Goes wx F F') := fun wx p F h => tick_put n (by omega) wx p F (sev 2) h (by decide +kernel)
  have hS : sv (n : Int) = sev n := by rw [sv, Int.toNat_natCast]
  rw [hS]
  obtain ⟨L, hL⟩ : ∃ L, sev 2 ++ sev n = L := ⟨_, rfl⟩
  have hlen : L.length ≤ 140737488351232 := by
    have h1 := sev_le n (by omega)
    have h2 := sev_le 2 (by decide)
    rw [← hL, List.length_append]
    omega
  rw [hL] at CP ⊢
  clear hL hS
  obtain ⟨et, hz⟩ : ∃ z : Int, (n : Int) = z := ⟨_, rfl⟩
  rw [hz] at hm CP ⊢
  clear hn1 hn2 hz
  have cH : Hid (∀ wx, Calls Tryd.prog 24 #[.agg #[nu 2, nu 0, nu 0, nu 0, nu 0, nu 0, .string ⟨#[]⟩, .string ⟨#[]⟩, .int .u64 0, nu 0, nu 0, nu 0, nu 0, nu 0, nu et]] wx fun x w' => x = .returned (.iface 95 (.agg #[nu et])) ∧ Below wx.heap.size wx w') := fun wx => happened_tick ⟨2, Sn.zero, 0, et⟩ wx rfl
  have cT : Hid (∀ wx, Bx w wx #[nu 2, nu 0, nu 0, nu 0, nu 0, nu 0, .string ⟨#[]⟩, .string ⟨#[]⟩, .int .u64 0, nu 0, nu 0, nu 0, nu 0, nu 0, nu et] → Calls Tryd.prog 25 #[.iface 95 (.agg #[nu et])] wx fun x w' => x = .returned (.agg #[nu 2, nu 0, nu 0, nu 0, nu 0, nu 0, .string ⟨#[]⟩, .string ⟨#[]⟩, .int .u64 0, nu 0, nu 0, nu 0, nu 0, nu 0, nu et]) ∧ (w'.cell? ⟨w.heap.size, 0, none⟩ = some (nu 2) ∧ w'.cell? ⟨w.heap.size, 1, none⟩ = some (nu 0) ∧ w'.cell? ⟨w.heap.size, 2, none⟩ = some (nu 0) ∧ w'.cell? ⟨w.heap.size, 3, none⟩ = some (nu 0) ∧ w'.cell? ⟨w.heap.size, 4, none⟩ = some (nu 0) ∧ w'.cell? ⟨w.heap.size, 5, none⟩ = some (nu 0) ∧ w'.cell? ⟨w.heap.size, 6, none⟩ = some (.string ⟨#[]⟩) ∧ w'.cell? ⟨w.heap.size, 7, none⟩ = some (.string ⟨#[]⟩) ∧ w'.cell? ⟨w.heap.size, 8, none⟩ = some (.int .u64 0) ∧ w'.cell? ⟨w.heap.size, 9, none⟩ = some (nu 0) ∧ w'.cell? ⟨w.heap.size, 10, none⟩ = some (nu 0) ∧ w'.cell? ⟨w.heap.size, 11, none⟩ = some (nu 0) ∧ w'.cell? ⟨w.heap.size, 12, none⟩ = some (nu 0) ∧ w'.cell? ⟨w.heap.size, 13, none⟩ = some (nu 0) ∧ w'.cell? ⟨w.heap.size, 14, none⟩ = some (nu et)) ∧ Bx w w' #[nu 2, nu 0, nu 0, nu 0, nu 0, nu 0, .string ⟨#[]⟩, .string ⟨#[]⟩, .int .u64 0, nu 0, nu 0, nu 0, nu 0, nu 0, nu et]) := fun wx hx => by
    have hc : Calls Tryd.prog 25 #[.iface 95 (.agg #[nu et])] wx fun x w' => x = .returned (.agg #[nu 2, nu 0, nu 0, nu 0, nu 0, nu 0, .string ⟨#[]⟩, .string ⟨#[]⟩, .int .u64 0, nu 0, nu 0, nu 0, nu 0, nu 0, nu et]) ∧ Below wx.heap.size wx w' := told_tick et wx
    refine hc.mono ?_
    rintro x w' ⟨rfl, hb⟩
    have hB := hx.call hb
    exact ⟨rfl, ⟨cell_at (j := 0) hB.blk rfl, cell_at (j := 1) hB.blk rfl, cell_at (j := 2) hB.blk rfl, cell_at (j := 3) hB.blk rfl, cell_at (j := 4) hB.blk rfl, cell_at (j := 5) hB.blk rfl, cell_at (j := 6) hB.blk rfl, cell_at (j := 7) hB.blk rfl, cell_at (j := 8) hB.blk rfl, cell_at (j := 9) hB.blk rfl, cell_at (j := 10) hB.blk rfl, cell_at (j := 11) hB.blk rfl, cell_at (j := 12) hB.blk rfl, cell_at (j := 13) hB.blk rfl, cell_at (j := 14) hB.blk rfl⟩, hB⟩
  have cM : Hid (∀ wx, Bx w wx #[nu 2, nu 0, nu 0, nu 0, nu 0, nu 0, .string ⟨#[]⟩, .string ⟨#[]⟩, .int .u64 0, nu 0, nu 0, nu 0, nu 0, nu 0, nu et] → Calls Tryd.prog 106 #[.agg #[nu et]] wx fun x w' => x = .returned (.bool true) ∧ (w'.cell? ⟨w.heap.size, 0, none⟩ = some (nu 2) ∧ w'.cell? ⟨w.heap.size, 1, none⟩ = some (nu 0) ∧ w'.cell? ⟨w.heap.size, 2, none⟩ = some (nu 0) ∧ w'.cell? ⟨w.heap.size, 3, none⟩ = some (nu 0) ∧ w'.cell? ⟨w.heap.size, 4, none⟩ = some (nu 0) ∧ w'.cell? ⟨w.heap.size, 5, none⟩ = some (nu 0) ∧ w'.cell? ⟨w.heap.size, 6, none⟩ = some (.string ⟨#[]⟩) ∧ w'.cell? ⟨w.heap.size, 7, none⟩ = some (.string ⟨#[]⟩) ∧ w'.cell? ⟨w.heap.size, 8, none⟩ = some (.int .u64 0) ∧ w'.cell? ⟨w.heap.size, 9, none⟩ = some (nu 0) ∧ w'.cell? ⟨w.heap.size, 10, none⟩ = some (nu 0) ∧ w'.cell? ⟨w.heap.size, 11, none⟩ = some (nu 0) ∧ w'.cell? ⟨w.heap.size, 12, none⟩ = some (nu 0) ∧ w'.cell? ⟨w.heap.size, 13, none⟩ = some (nu 0) ∧ w'.cell? ⟨w.heap.size, 14, none⟩ = some (nu et)) ∧ Bx w w' #[nu 2, nu 0, nu 0, nu 0, nu 0, nu 0, .string ⟨#[]⟩, .string ⟨#[]⟩, .int .u64 0, nu 0, nu 0, nu 0, nu 0, nu 0, nu et]) := fun wx hx => by
    have := tick_may et wx
    rw [hm] at this
    refine this.mono ?_
    rintro x w' ⟨rfl, hb⟩
    have hB := hx.call hb
    exact ⟨rfl, ⟨cell_at (j := 0) hB.blk rfl, cell_at (j := 1) hB.blk rfl, cell_at (j := 2) hB.blk rfl, cell_at (j := 3) hB.blk rfl, cell_at (j := 4) hB.blk rfl, cell_at (j := 5) hB.blk rfl, cell_at (j := 6) hB.blk rfl, cell_at (j := 7) hB.blk rfl, cell_at (j := 8) hB.blk rfl, cell_at (j := 9) hB.blk rfl, cell_at (j := 10) hB.blk rfl, cell_at (j := 11) hB.blk rfl, cell_at (j := 12) hB.blk rfl, cell_at (j := 13) hB.blk rfl, cell_at (j := 14) hB.blk rfl⟩, hB⟩
  have H0 := Hid.mk' (Bx.start w #[nu 2, nu 0, nu 0, nu 0, nu 0, nu 0, .string ⟨#[]⟩, .string ⟨#[]⟩, .int .u64 0, nu 0, nu 0, nu 0, nu 0, nu 0, nu et])
  have hN : ∀ wx, (binOp .neq 29 (.agg #[nu 2, nu 0, nu 0, nu 0, nu 0, nu 0, .string ⟨#[]⟩, .string ⟨#[]⟩, .int .u64 0, nu 0, nu 0, nu 0, nu 0, nu 0, nu et]) (.agg #[nu 2, nu 0, nu 0, nu 0, nu 0, nu 0, .string ⟨#[]⟩, .string ⟨#[]⟩, .int .u64 0, nu 0, nu 0, nu 0, nu 0, nu 0, nu et])).run Tryd.prog wx = .ok (.bool false) wx := fun wx => evt_nsame ⟨2, Sn.zero, 0, et⟩ wx
  have f1 := m_tm
  have f2 := m_tp
  show Calls Tryd.prog 8 #[.agg #[nu 2, nu 0, nu 0, nu 0, nu 0, nu 0, .string ⟨#[]⟩, .string ⟨#[]⟩, .int .u64 0, nu 0, nu 0, nu 0, nu 0, nu 0, nu et]] w _
  clear hm
  go_enter Tryd.func8, Tryd.ntmps8
  go_wp2_with fail
  refine (cH.out _).mono ?_
  rintro e x1 ⟨rfl, hb1⟩
  have hX1 := H0.out.call hb1
  have HX1 := Hid.mk' hX1
  have m0 := cell_at (j := 0) hX1.blk rfl
  have m1 := cell_at (j := 1) hX1.blk rfl
  have m2 := cell_at (j := 2) hX1.blk rfl
  have m3 := cell_at (j := 3) hX1.blk rfl
  have m4 := cell_at (j := 4) hX1.blk rfl
  have m5 := cell_at (j := 5) hX1.blk rfl
  have m6 := cell_at (j := 6) hX1.blk rfl
  have m7 := cell_at (j := 7) hX1.blk rfl
  have m8 := cell_at (j := 8) hX1.blk rfl
  have m9 := cell_at (j := 9) hX1.blk rfl
  have m10 := cell_at (j := 10) hX1.blk rfl
  have m11 := cell_at (j := 11) hX1.blk rfl
  have m12 := cell_at (j := 12) hX1.blk rfl
  have m13 := cell_at (j := 13) hX1.blk rfl
  have m14 := cell_at (j := 14) hX1.blk rfl
  clear hX1 hb1 cH H0
  go_upto_region 2 with fail
  go_cut [16] from 8 (fun r wr => r = .bool false ∧ Hid (Bx w wr #[nu 2, nu 0, nu 0, nu 0, nu 0, nu 0, .string ⟨#[]⟩, .string ⟨#[]⟩, .int .u64 0, nu 0, nu 0, nu 0, nu 0, nu 0, nu et]))
  case first =>
    go_wp2_with fail
    go_region_held3 (fun w' => w'.cell? ⟨w.heap.size, 0, none⟩ = some (nu 2) ∧ w'.cell? ⟨w.heap.size, 1, none⟩ = some (nu 0) ∧ w'.cell? ⟨w.heap.size, 2, none⟩ = some (nu 0) ∧ w'.cell? ⟨w.heap.size, 3, none⟩ = some (nu 0) ∧ w'.cell? ⟨w.heap.size, 4, none⟩ = some (nu 0) ∧ w'.cell? ⟨w.heap.size, 5, none⟩ = some (nu 0) ∧ w'.cell? ⟨w.heap.size, 6, none⟩ = some (.string ⟨#[]⟩) ∧ w'.cell? ⟨w.heap.size, 7, none⟩ = some (.string ⟨#[]⟩) ∧ w'.cell? ⟨w.heap.size, 8, none⟩ = some (.int .u64 0) ∧ w'.cell? ⟨w.heap.size, 9, none⟩ = some (nu 0) ∧ w'.cell? ⟨w.heap.size, 10, none⟩ = some (nu 0) ∧ w'.cell? ⟨w.heap.size, 11, none⟩ = some (nu 0) ∧ w'.cell? ⟨w.heap.size, 12, none⟩ = some (nu 0) ∧ w'.cell? ⟨w.heap.size, 13, none⟩ = some (nu 0) ∧ w'.cell? ⟨w.heap.size, 14, none⟩ = some (nu et)) (first | assumption | exact ⟨m0, m1, m2, m3, m4, m5, m6, m7, m8, m9, m10, m11, m12, m13, m14⟩ | go_keep) (first | (go_at_call 25; with_reducible refine (cT.out _ ?hb1).mono ?_; (case hb1 => (first | exact HX1.out | exact HX1.out.drew | fail)); rintro e x2 ⟨rfl, ⟨s0, s1, s2, s3, s4, s5, s6, s7, s8, s9, s10, s11, s12, s13, s14⟩, hX2⟩) | (go_at_call 106; with_reducible refine (cM.out _ ?hb2).mono ?_; (case hb2 => (first | exact hX2 | fail)); rintro e x3 ⟨rfl, ⟨t0, t1, t2, t3, t4, t5, t6, t7, t8, t9, t10, t11, t12, t13, t14⟩, hX3⟩) | fail)
    all_goals (go_wp2_with fail; go_meet; exact ⟨rfl, hX3⟩)
  case rest =>
  obtain ⟨rfl, hX⟩ := hcut
  clear m0 m1 m2 m3 m4 m5 m6 m7 m8 m9 m10 m11 m12 m13 m14 HX1 cT
  clear cM
  go_wp2_with fail
  refine (Pk.Pp.new_any _).mono ?_
  rintro e x4 ⟨p, F4, rfl, hW, hF, hb⟩
  have HX4 := Hid.mk' (hX.out.call hb)
  have HF4 : Hid (∀ k, F4 k → w.heap.size ≤ k) := fun k hk => Nat.le_trans hX.out.bel.size (hF k hk)
  have CN : Hid (Calls Tryd.prog 27 #[ptr p, .int .u64 2] x4 fun e w' => (∃ u, e = .returned u) ∧ ∃ F', RW w' p F' (sev 2) ∧ Keep F4 x4 w' ∧ Goes x4 F4 F') := Pk.Pp.number_rw x4 p F4 [] 2 hW (by decide) (by decide +kernel)
  have m0 := cell_at (j := 0) HX4.out.blk rfl
  clear hW hF hb hX
  go_wp2_with fail
  refine CN.out.mono ?_
  rintro e x5 ⟨⟨u5, rfl⟩, F5, hW, hk, hm⟩
  have HB5 := Hid.mk' (Keep.belowF HX4.out.bel hk HF4.out)
  have HF5 := Hid.mk' (goesF HX4.out.bel HF4.out hm)
  have CQ := Hid.mk' (CP.out x5 p F5 hW)
  clear hW hk hm m0 CP CN HF4 HX4
  go_wp2_with fail
  refine CQ.out.mono ?_
  rintro e x6 ⟨⟨u6, rfl⟩, F6, hW, hk, hm⟩
  have HB6 := Hid.mk' (Keep.belowF HB5.out hk HF5.out)
  have CB := Hid.mk' (Pk.Pp.bytes_rw x6 p F6 L hW hlen)
  clear hW hk hm CQ HF5 HB5
  go_wp2_with fail
  refine CB.out.mono ?_
  rintro e x7 ⟨v, rfl, ho, hb⟩
  have HO := Hid.mk' (own_mono ho HB6.out.size)
  have HB7 := Hid.mk' (HB6.out.trans (hb.mono HB6.out.size))
  clear ho hb CB
  go_wp2
  go_ret2
  exact ⟨v, rfl, HO.out, HB7.out⟩

end Pe
end Ev
end Go.Proofs.YtnllplholfhbdaaDoor
