import Derived.Test.YtnllplholfhbdaaDoorEncD11
/- The program's Encode: an event that no happening is. -/
namespace Go.Proofs.YtnllplholfhbdaaDoor
set_option linter.ambiguousOpen false
open Go.RowKit
namespace Ev
namespace Pe
open Pk Sm Ft
open Pk.Pp (RW RR)
set_option linter.unusedSimpArgs false
set_option linter.unusedVariables false

set_option maxRecDepth 100000 in
set_option maxHeartbeats 8000000 in
theorem other_0 (e : Evt) (w : World) (hk : e.kind = 0) (hne : (Evt.mk 0 e.s 0 0) ≠ e) : Calls Tryd.prog 8 #[.agg e.arr] w fun x w' => x = .returned (.tuple #[.slice none 0 0, noE 1]) ∧ Below w.heap.size w w' := by
  obtain ⟨kind, ⟨slot, birth, us, ub, skind, user, label, scopes, level, born, deadline, depth⟩, eb, et⟩ := e
  simp only at hk hne
  subst hk
  have hN : ∀ wx, (binOp .neq 29 (.agg (#[nu 0, nu slot, nu birth, nu us, nu ub, nu skind, .string (tx user), .string (tx label), .int .u64 scopes, nu level, nu born, nu deadline, nu depth, nu 0, nu 0])) (.agg #[nu 0, nu slot, nu birth, nu us, nu ub, nu skind, .string (tx user), .string (tx label), .int .u64 scopes, nu level, nu born, nu deadline, nu depth, nu eb, nu et])).run Tryd.prog wx = .ok (.bool true) wx := fun wx => evt_ne hne wx
  obtain ⟨fl, hfl⟩ : ∃ f, tx label = f := ⟨_, rfl⟩
  obtain ⟨fu, hfu⟩ : ∃ f, tx user = f := ⟨_, rfl⟩
  have cH : Hid (∀ wx, Calls Tryd.prog 24 #[.agg #[nu 0, nu slot, nu birth, nu us, nu ub, nu skind, .string fu, .string fl, .int .u64 scopes, nu level, nu born, nu deadline, nu depth, nu eb, nu et]] wx fun x w' => x = .returned (.iface 91 (.agg #[nu slot, nu birth, nu us, nu ub, nu skind, .string fu, .string fl, .int .u64 scopes, nu level, nu born, nu deadline, nu depth])) ∧ Below wx.heap.size wx w') := fun wx => (by have := happened_birth ⟨0, ⟨slot, birth, us, ub, skind, user, label, scopes, level, born, deadline, depth⟩, eb, et⟩ wx rfl; unfold Evt.arr Sn.arr at this; simp only [hfl, hfu] at this; exact this)
  have cT : Hid (∀ wx, Bx w wx #[nu 0, nu slot, nu birth, nu us, nu ub, nu skind, .string fu, .string fl, .int .u64 scopes, nu level, nu born, nu deadline, nu depth, nu eb, nu et] → Calls Tryd.prog 25 #[.iface 91 (.agg #[nu slot, nu birth, nu us, nu ub, nu skind, .string fu, .string fl, .int .u64 scopes, nu level, nu born, nu deadline, nu depth])] wx fun x w' => x = .returned (.agg #[nu 0, nu slot, nu birth, nu us, nu ub, nu skind, .string fu, .string fl, .int .u64 scopes, nu level, nu born, nu deadline, nu depth, nu 0, nu 0]) ∧ (w'.cell? ⟨w.heap.size, 0, none⟩ = some (nu 0) ∧ w'.cell? ⟨w.heap.size, 1, none⟩ = some (nu slot) ∧ w'.cell? ⟨w.heap.size, 2, none⟩ = some (nu birth) ∧ w'.cell? ⟨w.heap.size, 3, none⟩ = some (nu us) ∧ w'.cell? ⟨w.heap.size, 4, none⟩ = some (nu ub) ∧ w'.cell? ⟨w.heap.size, 5, none⟩ = some (nu skind) ∧ w'.cell? ⟨w.heap.size, 6, none⟩ = some (.string fu) ∧ w'.cell? ⟨w.heap.size, 7, none⟩ = some (.string fl) ∧ w'.cell? ⟨w.heap.size, 8, none⟩ = some (.int .u64 scopes) ∧ w'.cell? ⟨w.heap.size, 9, none⟩ = some (nu level) ∧ w'.cell? ⟨w.heap.size, 10, none⟩ = some (nu born) ∧ w'.cell? ⟨w.heap.size, 11, none⟩ = some (nu deadline) ∧ w'.cell? ⟨w.heap.size, 12, none⟩ = some (nu depth) ∧ w'.cell? ⟨w.heap.size, 13, none⟩ = some (nu eb) ∧ w'.cell? ⟨w.heap.size, 14, none⟩ = some (nu et)) ∧ Bx w w' #[nu 0, nu slot, nu birth, nu us, nu ub, nu skind, .string fu, .string fl, .int .u64 scopes, nu level, nu born, nu deadline, nu depth, nu eb, nu et]) := fun wx hx => by
    have hc : Calls Tryd.prog 25 #[.iface 91 (.agg #[nu slot, nu birth, nu us, nu ub, nu skind, .string fu, .string fl, .int .u64 scopes, nu level, nu born, nu deadline, nu depth])] wx fun x w' => x = .returned (.agg #[nu 0, nu slot, nu birth, nu us, nu ub, nu skind, .string fu, .string fl, .int .u64 scopes, nu level, nu born, nu deadline, nu depth, nu 0, nu 0]) ∧ Below wx.heap.size wx w' := (by have := told_birth ⟨slot, birth, us, ub, skind, user, label, scopes, level, born, deadline, depth⟩ wx; unfold Evt.arr Sn.arr at this; simp only [hfl, hfu] at this; exact this)
    refine hc.mono ?_
    rintro x w' ⟨rfl, hb⟩
    have hB := hx.call hb
    exact ⟨rfl, ⟨cell_at (j := 0) hB.blk rfl, cell_at (j := 1) hB.blk rfl, cell_at (j := 2) hB.blk rfl, cell_at (j := 3) hB.blk rfl, cell_at (j := 4) hB.blk rfl, cell_at (j := 5) hB.blk rfl, cell_at (j := 6) hB.blk rfl, cell_at (j := 7) hB.blk rfl, cell_at (j := 8) hB.blk rfl, cell_at (j := 9) hB.blk rfl, cell_at (j := 10) hB.blk rfl, cell_at (j := 11) hB.blk rfl, cell_at (j := 12) hB.blk rfl, cell_at (j := 13) hB.blk rfl, cell_at (j := 14) hB.blk rfl⟩, hB⟩
  have H0 := Hid.mk' (Bx.start w #[nu 0, nu slot, nu birth, nu us, nu ub, nu skind, .string fu, .string fl, .int .u64 scopes, nu level, nu born, nu deadline, nu depth, nu eb, nu et])
  rw [hfl, hfu] at hN
  unfold Evt.arr
  simp only [hfl, hfu]
  clear hfl hfu hne
  go_enter Tryd.func8, Tryd.ntmps8
  go_wp2_with fail
  refine (cH.out _).mono ?_
  rintro e x1 ⟨rfl, hb1⟩
  have hX1 := H0.out.call hb1
  have HX1 := Hid.mk' hX1
  have m0 := cell_at (j := 0) hX1.blk rfl
  have m1 := cell_at (j := 1) hX1.blk rfl
  have m2 := cell_at (j := 2) hX1.blk rfl
  have m3 := cell_at (j := 3) hX1.blk rfl
  have m4 := cell_at (j := 4) hX1.blk rfl
  have m5 := cell_at (j := 5) hX1.blk rfl
  have m6 := cell_at (j := 6) hX1.blk rfl
  have m7 := cell_at (j := 7) hX1.blk rfl
  have m8 := cell_at (j := 8) hX1.blk rfl
  have m9 := cell_at (j := 9) hX1.blk rfl
  have m10 := cell_at (j := 10) hX1.blk rfl
  have m11 := cell_at (j := 11) hX1.blk rfl
  have m12 := cell_at (j := 12) hX1.blk rfl
  have m13 := cell_at (j := 13) hX1.blk rfl
  have m14 := cell_at (j := 14) hX1.blk rfl
  clear hX1 hb1 cH H0
  go_upto_region 2 with fail
  go_cut [16] from 8 (fun r wr => r = .bool true ∧ Hid (Bx w wr #[nu 0, nu slot, nu birth, nu us, nu ub, nu skind, .string fu, .string fl, .int .u64 scopes, nu level, nu born, nu deadline, nu depth, nu eb, nu et]))
  case first =>
    go_wp2_with fail
    first | go_region_with (first | (go_at_call 25; with_reducible refine (cT.out _ ?hb1).mono ?_; (case hb1 => (first | exact HX1.out | exact HX1.out.drew | fail)); rintro e x2 ⟨rfl, ⟨s0, s1, s2, s3, s4, s5, s6, s7, s8, s9, s10, s11, s12, s13, s14⟩, hX2⟩) | fail) | fail
    all_goals (go_wp2_with fail; go_meet; exact ⟨rfl, hX2⟩)
  case rest =>
  obtain ⟨rfl, hX⟩ := hcut
  clear m0 m1 m2 m3 m4 m5 m6 m7 m8 m9 m10 m11 m12 m13 m14 HX1 cT
  go_wp2
  go_ret2
  exact ⟨rfl, hX.out.bel⟩

set_option maxRecDepth 100000 in
set_option maxHeartbeats 8000000 in
theorem other_1 (e : Evt) (w : World) (hk : e.kind = 1) (hne : (Evt.mk 1 Sn.zero e.birth 0) ≠ e) : Calls Tryd.prog 8 #[.agg e.arr] w fun x w' => x = .returned (.tuple #[.slice none 0 0, noE 1]) ∧ Below w.heap.size w w' := by
  obtain ⟨kind, ⟨slot, birth, us, ub, skind, user, label, scopes, level, born, deadline, depth⟩, eb, et⟩ := e
  simp only at hk hne
  subst hk
  have hN : ∀ wx, (binOp .neq 29 (.agg (#[nu 1, nu 0, nu 0, nu 0, nu 0, nu 0, .string ⟨#[]⟩, .string ⟨#[]⟩, .int .u64 0, nu 0, nu 0, nu 0, nu 0, nu eb, nu 0])) (.agg #[nu 1, nu slot, nu birth, nu us, nu ub, nu skind, .string (tx user), .string (tx label), .int .u64 scopes, nu level, nu born, nu deadline, nu depth, nu eb, nu et])).run Tryd.prog wx = .ok (.bool true) wx := fun wx => evt_ne hne wx
  obtain ⟨fl, hfl⟩ : ∃ f, tx label = f := ⟨_, rfl⟩
  obtain ⟨fu, hfu⟩ : ∃ f, tx user = f := ⟨_, rfl⟩
  have cH : Hid (∀ wx, Calls Tryd.prog 24 #[.agg #[nu 1, nu slot, nu birth, nu us, nu ub, nu skind, .string fu, .string fl, .int .u64 scopes, nu level, nu born, nu deadline, nu depth, nu eb, nu et]] wx fun x w' => x = .returned (.iface 93 (.agg #[nu eb])) ∧ Below wx.heap.size wx w') := fun wx => (by have := happened_rev ⟨1, ⟨slot, birth, us, ub, skind, user, label, scopes, level, born, deadline, depth⟩, eb, et⟩ wx rfl; unfold Evt.arr at this; simp only [hfl, hfu] at this; exact this)
  have cT : Hid (∀ wx, Bx w wx #[nu 1, nu slot, nu birth, nu us, nu ub, nu skind, .string fu, .string fl, .int .u64 scopes, nu level, nu born, nu deadline, nu depth, nu eb, nu et] → Calls Tryd.prog 25 #[.iface 93 (.agg #[nu eb])] wx fun x w' => x = .returned (.agg #[nu 1, nu 0, nu 0, nu 0, nu 0, nu 0, .string ⟨#[]⟩, .string ⟨#[]⟩, .int .u64 0, nu 0, nu 0, nu 0, nu 0, nu eb, nu 0]) ∧ (w'.cell? ⟨w.heap.size, 0, none⟩ = some (nu 1) ∧ w'.cell? ⟨w.heap.size, 1, none⟩ = some (nu slot) ∧ w'.cell? ⟨w.heap.size, 2, none⟩ = some (nu birth) ∧ w'.cell? ⟨w.heap.size, 3, none⟩ = some (nu us) ∧ w'.cell? ⟨w.heap.size, 4, none⟩ = some (nu ub) ∧ w'.cell? ⟨w.heap.size, 5, none⟩ = some (nu skind) ∧ w'.cell? ⟨w.heap.size, 6, none⟩ = some (.string fu) ∧ w'.cell? ⟨w.heap.size, 7, none⟩ = some (.string fl) ∧ w'.cell? ⟨w.heap.size, 8, none⟩ = some (.int .u64 scopes) ∧ w'.cell? ⟨w.heap.size, 9, none⟩ = some (nu level) ∧ w'.cell? ⟨w.heap.size, 10, none⟩ = some (nu born) ∧ w'.cell? ⟨w.heap.size, 11, none⟩ = some (nu deadline) ∧ w'.cell? ⟨w.heap.size, 12, none⟩ = some (nu depth) ∧ w'.cell? ⟨w.heap.size, 13, none⟩ = some (nu eb) ∧ w'.cell? ⟨w.heap.size, 14, none⟩ = some (nu et)) ∧ Bx w w' #[nu 1, nu slot, nu birth, nu us, nu ub, nu skind, .string fu, .string fl, .int .u64 scopes, nu level, nu born, nu deadline, nu depth, nu eb, nu et]) := fun wx hx => by
    have hc : Calls Tryd.prog 25 #[.iface 93 (.agg #[nu eb])] wx fun x w' => x = .returned (.agg #[nu 1, nu 0, nu 0, nu 0, nu 0, nu 0, .string ⟨#[]⟩, .string ⟨#[]⟩, .int .u64 0, nu 0, nu 0, nu 0, nu 0, nu eb, nu 0]) ∧ Below wx.heap.size wx w' := told_rev eb wx
    refine hc.mono ?_
    rintro x w' ⟨rfl, hb⟩
    have hB := hx.call hb
    exact ⟨rfl, ⟨cell_at (j := 0) hB.blk rfl, cell_at (j := 1) hB.blk rfl, cell_at (j := 2) hB.blk rfl, cell_at (j := 3) hB.blk rfl, cell_at (j := 4) hB.blk rfl, cell_at (j := 5) hB.blk rfl, cell_at (j := 6) hB.blk rfl, cell_at (j := 7) hB.blk rfl, cell_at (j := 8) hB.blk rfl, cell_at (j := 9) hB.blk rfl, cell_at (j := 10) hB.blk rfl, cell_at (j := 11) hB.blk rfl, cell_at (j := 12) hB.blk rfl, cell_at (j := 13) hB.blk rfl, cell_at (j := 14) hB.blk rfl⟩, hB⟩
  have H0 := Hid.mk' (Bx.start w #[nu 1, nu slot, nu birth, nu us, nu ub, nu skind, .string fu, .string fl, .int .u64 scopes, nu level, nu born, nu deadline, nu depth, nu eb, nu et])
  simp only [hfl, hfu] at hN
  unfold Evt.arr
  simp only [hfl, hfu]
  clear hfl hfu hne
  go_enter Tryd.func8, Tryd.ntmps8
  go_wp2_with fail
  refine (cH.out _).mono ?_
  rintro e x1 ⟨rfl, hb1⟩
  have hX1 := H0.out.call hb1
  have HX1 := Hid.mk' hX1
  have m0 := cell_at (j := 0) hX1.blk rfl
  have m1 := cell_at (j := 1) hX1.blk rfl
  have m2 := cell_at (j := 2) hX1.blk rfl
  have m3 := cell_at (j := 3) hX1.blk rfl
  have m4 := cell_at (j := 4) hX1.blk rfl
  have m5 := cell_at (j := 5) hX1.blk rfl
  have m6 := cell_at (j := 6) hX1.blk rfl
  have m7 := cell_at (j := 7) hX1.blk rfl
  have m8 := cell_at (j := 8) hX1.blk rfl
  have m9 := cell_at (j := 9) hX1.blk rfl
  have m10 := cell_at (j := 10) hX1.blk rfl
  have m11 := cell_at (j := 11) hX1.blk rfl
  have m12 := cell_at (j := 12) hX1.blk rfl
  have m13 := cell_at (j := 13) hX1.blk rfl
  have m14 := cell_at (j := 14) hX1.blk rfl
  clear hX1 hb1 cH H0
  go_upto_region 2 with fail
  go_cut [16] from 8 (fun r wr => r = .bool true ∧ Hid (Bx w wr #[nu 1, nu slot, nu birth, nu us, nu ub, nu skind, .string fu, .string fl, .int .u64 scopes, nu level, nu born, nu deadline, nu depth, nu eb, nu et]))
  case first =>
    go_wp2_with fail
    first | go_region_with (first | (go_at_call 25; with_reducible refine (cT.out _ ?hb1).mono ?_; (case hb1 => (first | exact HX1.out | exact HX1.out.drew | fail)); rintro e x2 ⟨rfl, ⟨s0, s1, s2, s3, s4, s5, s6, s7, s8, s9, s10, s11, s12, s13, s14⟩, hX2⟩) | fail) | fail
    all_goals (go_wp2_with fail; go_meet; exact ⟨rfl, hX2⟩)
  case rest =>
  obtain ⟨rfl, hX⟩ := hcut
  clear m0 m1 m2 m3 m4 m5 m6 m7 m8 m9 m10 m11 m12 m13 m14 HX1 cT
  go_wp2
  go_ret2
  exact ⟨rfl, hX.out.bel⟩

set_option maxRecDepth 100000 in
set_option maxHeartbeats 8000000 in
theorem other_2 (e : Evt) (w : World) (hk : e.kind = 2) (hne : (Evt.mk 2 Sn.zero 0 e.ticks) ≠ e) : Calls Tryd.prog 8 #[.agg e.arr] w fun x w' => x = .returned (.tuple #[.slice none 0 0, noE 1]) ∧ Below w.heap.size w w' := by
  obtain ⟨kind, ⟨slot, birth, us, ub, skind, user, label, scopes, level, born, deadline, depth⟩, eb, et⟩ := e
  simp only at hk hne
  subst hk
  have hN : ∀ wx, (binOp .neq 29 (.agg (#[nu 2, nu 0, nu 0, nu 0, nu 0, nu 0, .string ⟨#[]⟩, .string ⟨#[]⟩, .int .u64 0, nu 0, nu 0, nu 0, nu 0, nu 0, nu et])) (.agg #[nu 2, nu slot, nu birth, nu us, nu ub, nu skind, .string (tx user), .string (tx label), .int .u64 scopes, nu level, nu born, nu deadline, nu depth, nu eb, nu et])).run Tryd.prog wx = .ok (.bool true) wx := fun wx => evt_ne hne wx
  obtain ⟨fl, hfl⟩ : ∃ f, tx label = f := ⟨_, rfl⟩
  obtain ⟨fu, hfu⟩ : ∃ f, tx user = f := ⟨_, rfl⟩
  have cH : Hid (∀ wx, Calls Tryd.prog 24 #[.agg #[nu 2, nu slot, nu birth, nu us, nu ub, nu skind, .string fu, .string fl, .int .u64 scopes, nu level, nu born, nu deadline, nu depth, nu eb, nu et]] wx fun x w' => x = .returned (.iface 95 (.agg #[nu et])) ∧ Below wx.heap.size wx w') := fun wx => (by have := happened_tick ⟨2, ⟨slot, birth, us, ub, skind, user, label, scopes, level, born, deadline, depth⟩, eb, et⟩ wx rfl; unfold Evt.arr at this; simp only [hfl, hfu] at this; exact this)
  have cT : Hid (∀ wx, Bx w wx #[nu 2, nu slot, nu birth, nu us, nu ub, nu skind, .string fu, .string fl, .int .u64 scopes, nu level, nu born, nu deadline, nu depth, nu eb, nu et] → Calls Tryd.prog 25 #[.iface 95 (.agg #[nu et])] wx fun x w' => x = .returned (.agg #[nu 2, nu 0, nu 0, nu 0, nu 0, nu 0, .string ⟨#[]⟩, .string ⟨#[]⟩, .int .u64 0, nu 0, nu 0, nu 0, nu 0, nu 0, nu et]) ∧ (w'.cell? ⟨w.heap.size, 0, none⟩ = some (nu 2) ∧ w'.cell? ⟨w.heap.size, 1, none⟩ = some (nu slot) ∧ w'.cell? ⟨w.heap.size, 2, none⟩ = some (nu birth) ∧ w'.cell? ⟨w.heap.size, 3, none⟩ = some (nu us) ∧ w'.cell? ⟨w.heap.size, 4, none⟩ = some (nu ub) ∧ w'.cell? ⟨w.heap.size, 5, none⟩ = some (nu skind) ∧ w'.cell? ⟨w.heap.size, 6, none⟩ = some (.string fu) ∧ w'.cell? ⟨w.heap.size, 7, none⟩ = some (.string fl) ∧ w'.cell? ⟨w.heap.size, 8, none⟩ = some (.int .u64 scopes) ∧ w'.cell? ⟨w.heap.size, 9, none⟩ = some (nu level) ∧ w'.cell? ⟨w.heap.size, 10, none⟩ = some (nu born) ∧ w'.cell? ⟨w.heap.size, 11, none⟩ = some (nu deadline) ∧ w'.cell? ⟨w.heap.size, 12, none⟩ = some (nu depth) ∧ w'.cell? ⟨w.heap.size, 13, none⟩ = some (nu eb) ∧ w'.cell? ⟨w.heap.size, 14, none⟩ = some (nu et)) ∧ Bx w w' #[nu 2, nu slot, nu birth, nu us, nu ub, nu skind, .string fu, .string fl, .int .u64 scopes, nu level, nu born, nu deadline, nu depth, nu eb, nu et]) := fun wx hx => by
    have hc : Calls Tryd.prog 25 #[.iface 95 (.agg #[nu et])] wx fun x w' => x = .returned (.agg #[nu 2, nu 0, nu 0, nu 0, nu 0, nu 0, .string ⟨#[]⟩, .string ⟨#[]⟩, .int .u64 0, nu 0, nu 0, nu 0, nu 0, nu 0, nu et]) ∧ Below wx.heap.size wx w' := told_tick et wx
    refine hc.mono ?_
    rintro x w' ⟨rfl, hb⟩
    have hB := hx.call hb
    exact ⟨rfl, ⟨cell_at (j := 0) hB.blk rfl, cell_at (j := 1) hB.blk rfl, cell_at (j := 2) hB.blk rfl, cell_at (j := 3) hB.blk rfl, cell_at (j := 4) hB.blk rfl, cell_at (j := 5) hB.blk rfl, cell_at (j := 6) hB.blk rfl, cell_at (j := 7) hB.blk rfl, cell_at (j := 8) hB.blk rfl, cell_at (j := 9) hB.blk rfl, cell_at (j := 10) hB.blk rfl, cell_at (j := 11) hB.blk rfl, cell_at (j := 12) hB.blk rfl, cell_at (j := 13) hB.blk rfl, cell_at (j := 14) hB.blk rfl⟩, hB⟩
  have H0 := Hid.mk' (Bx.start w #[nu 2, nu slot, nu birth, nu us, nu ub, nu skind, .string fu, .string fl, .int .u64 scopes, nu level, nu born, nu deadline, nu depth, nu eb, nu et])
  simp only [hfl, hfu] at hN
  unfold Evt.arr
  simp only [hfl, hfu]
  clear hfl hfu hne
  go_enter Tryd.func8, Tryd.ntmps8
  go_wp2_with fail
  refine (cH.out _).mono ?_
  rintro e x1 ⟨rfl, hb1⟩
  have hX1 := H0.out.call hb1
  have HX1 := Hid.mk' hX1
  have m0 := cell_at (j := 0) hX1.blk rfl
  have m1 := cell_at (j := 1) hX1.blk rfl
  have m2 := cell_at (j := 2) hX1.blk rfl
  have m3 := cell_at (j := 3) hX1.blk rfl
  have m4 := cell_at (j := 4) hX1.blk rfl
  have m5 := cell_at (j := 5) hX1.blk rfl
  have m6 := cell_at (j := 6) hX1.blk rfl
  have m7 := cell_at (j := 7) hX1.blk rfl
  have m8 := cell_at (j := 8) hX1.blk rfl
  have m9 := cell_at (j := 9) hX1.blk rfl
  have m10 := cell_at (j := 10) hX1.blk rfl
  have m11 := cell_at (j := 11) hX1.blk rfl
  have m12 := cell_at (j := 12) hX1.blk rfl
  have m13 := cell_at (j := 13) hX1.blk rfl
  have m14 := cell_at (j := 14) hX1.blk rfl
  clear hX1 hb1 cH H0
  go_upto_region 2 with fail
  go_cut [16] from 8 (fun r wr => r = .bool true ∧ Hid (Bx w wr #[nu 2, nu slot, nu birth, nu us, nu ub, nu skind, .string fu, .string fl, .int .u64 scopes, nu level, nu born, nu deadline, nu depth, nu eb, nu et]))
  case first =>
    go_wp2_with fail
    first | go_region_with (first | (go_at_call 25; with_reducible refine (cT.out _ ?hb1).mono ?_; (case hb1 => (first | exact HX1.out | exact HX1.out.drew | fail)); rintro e x2 ⟨rfl, ⟨s0, s1, s2, s3, s4, s5, s6, s7, s8, s9, s10, s11, s12, s13, s14⟩, hX2⟩) | fail) | fail
    all_goals (go_wp2_with fail; go_meet; exact ⟨rfl, hX2⟩)
  case rest =>
  obtain ⟨rfl, hX⟩ := hcut
  clear m0 m1 m2 m3 m4 m5 m6 m7 m8 m9 m10 m11 m12 m13 m14 HX1 cT
  go_wp2
  go_ret2
  exact ⟨rfl, hX.out.bel⟩

set_option maxRecDepth 100000 in
set_option maxHeartbeats 8000000 in
theorem other_3 (e : Evt) (w : World) (h0 : e.kind ≠ 0) (h1 : e.kind ≠ 1) (h2 : e.kind ≠ 2) : Calls Tryd.prog 8 #[.agg e.arr] w fun x w' => x = .returned (.tuple #[.slice none 0 0, noE 1]) ∧ Below w.heap.size w w' := by
  obtain ⟨kind, ⟨slot, birth, us, ub, skind, user, label, scopes, level, born, deadline, depth⟩, eb, et⟩ := e
  simp only at h0 h1 h2
  have hne : Evt.zero ≠ ⟨kind, ⟨slot, birth, us, ub, skind, user, label, scopes, level, born, deadline, depth⟩, eb, et⟩ := fun h => h0 (congrArg Evt.kind h).symm
  have hN : ∀ wx, (binOp .neq 29 (.agg (#[nu 0, nu 0, nu 0, nu 0, nu 0, nu 0, .string ⟨#[]⟩, .string ⟨#[]⟩, .int .u64 0, nu 0, nu 0, nu 0, nu 0, nu 0, nu 0])) (.agg #[nu kind, nu slot, nu birth, nu us, nu ub, nu skind, .string (tx user), .string (tx label), .int .u64 scopes, nu level, nu born, nu deadline, nu depth, nu eb, nu et])).run Tryd.prog wx = .ok (.bool true) wx := fun wx => evt_ne hne wx
  obtain ⟨fl, hfl⟩ : ∃ f, tx label = f := ⟨_, rfl⟩
  obtain ⟨fu, hfu⟩ : ∃ f, tx user = f := ⟨_, rfl⟩
  have cH : Hid (∀ wx, Calls Tryd.prog 24 #[.agg #[nu kind, nu slot, nu birth, nu us, nu ub, nu skind, .string fu, .string fl, .int .u64 scopes, nu level, nu born, nu deadline, nu depth, nu eb, nu et]] wx fun x w' => x = .returned (.iface 97 (.agg #[])) ∧ Below wx.heap.size wx w') := fun wx => (by have := happened_none ⟨kind, ⟨slot, birth, us, ub, skind, user, label, scopes, level, born, deadline, depth⟩, eb, et⟩ wx h0 h1 h2; unfold Evt.arr at this; simp only [hfl, hfu] at this; exact this)
  have cT : Hid (∀ wx, Bx w wx #[nu kind, nu slot, nu birth, nu us, nu ub, nu skind, .string fu, .string fl, .int .u64 scopes, nu level, nu born, nu deadline, nu depth, nu eb, nu et] → Calls Tryd.prog 25 #[.iface 97 (.agg #[])] wx fun x w' => x = .returned (.agg #[nu 0, nu 0, nu 0, nu 0, nu 0, nu 0, .string ⟨#[]⟩, .string ⟨#[]⟩, .int .u64 0, nu 0, nu 0, nu 0, nu 0, nu 0, nu 0]) ∧ (w'.cell? ⟨w.heap.size, 0, none⟩ = some (nu kind) ∧ w'.cell? ⟨w.heap.size, 1, none⟩ = some (nu slot) ∧ w'.cell? ⟨w.heap.size, 2, none⟩ = some (nu birth) ∧ w'.cell? ⟨w.heap.size, 3, none⟩ = some (nu us) ∧ w'.cell? ⟨w.heap.size, 4, none⟩ = some (nu ub) ∧ w'.cell? ⟨w.heap.size, 5, none⟩ = some (nu skind) ∧ w'.cell? ⟨w.heap.size, 6, none⟩ = some (.string fu) ∧ w'.cell? ⟨w.heap.size, 7, none⟩ = some (.string fl) ∧ w'.cell? ⟨w.heap.size, 8, none⟩ = some (.int .u64 scopes) ∧ w'.cell? ⟨w.heap.size, 9, none⟩ = some (nu level) ∧ w'.cell? ⟨w.heap.size, 10, none⟩ = some (nu born) ∧ w'.cell? ⟨w.heap.size, 11, none⟩ = some (nu deadline) ∧ w'.cell? ⟨w.heap.size, 12, none⟩ = some (nu depth) ∧ w'.cell? ⟨w.heap.size, 13, none⟩ = some (nu eb) ∧ w'.cell? ⟨w.heap.size, 14, none⟩ = some (nu et)) ∧ Bx w w' #[nu kind, nu slot, nu birth, nu us, nu ub, nu skind, .string fu, .string fl, .int .u64 scopes, nu level, nu born, nu deadline, nu depth, nu eb, nu et]) := fun wx hx => by
    have hc : Calls Tryd.prog 25 #[.iface 97 (.agg #[])] wx fun x w' => x = .returned (.agg #[nu 0, nu 0, nu 0, nu 0, nu 0, nu 0, .string ⟨#[]⟩, .string ⟨#[]⟩, .int .u64 0, nu 0, nu 0, nu 0, nu 0, nu 0, nu 0]) ∧ Below wx.heap.size wx w' := told_none wx
    refine hc.mono ?_
    rintro x w' ⟨rfl, hb⟩
    have hB := hx.call hb
    exact ⟨rfl, ⟨cell_at (j := 0) hB.blk rfl, cell_at (j := 1) hB.blk rfl, cell_at (j := 2) hB.blk rfl, cell_at (j := 3) hB.blk rfl, cell_at (j := 4) hB.blk rfl, cell_at (j := 5) hB.blk rfl, cell_at (j := 6) hB.blk rfl, cell_at (j := 7) hB.blk rfl, cell_at (j := 8) hB.blk rfl, cell_at (j := 9) hB.blk rfl, cell_at (j := 10) hB.blk rfl, cell_at (j := 11) hB.blk rfl, cell_at (j := 12) hB.blk rfl, cell_at (j := 13) hB.blk rfl, cell_at (j := 14) hB.blk rfl⟩, hB⟩
  have H0 := Hid.mk' (Bx.start w #[nu kind, nu slot, nu birth, nu us, nu ub, nu skind, .string fu, .string fl, .int .u64 scopes, nu level, nu born, nu deadline, nu depth, nu eb, nu et])
  simp only [hfl, hfu] at hN
  unfold Evt.arr
  simp only [hfl, hfu]
  clear hfl hfu hne
  go_enter Tryd.func8, Tryd.ntmps8
  go_wp2_with fail
  refine (cH.out _).mono ?_
  rintro e x1 ⟨rfl, hb1⟩
  have hX1 := H0.out.call hb1
  have HX1 := Hid.mk' hX1
  have m0 := cell_at (j := 0) hX1.blk rfl
  have m1 := cell_at (j := 1) hX1.blk rfl
  have m2 := cell_at (j := 2) hX1.blk rfl
  have m3 := cell_at (j := 3) hX1.blk rfl
  have m4 := cell_at (j := 4) hX1.blk rfl
  have m5 := cell_at (j := 5) hX1.blk rfl
  have m6 := cell_at (j := 6) hX1.blk rfl
  have m7 := cell_at (j := 7) hX1.blk rfl
  have m8 := cell_at (j := 8) hX1.blk rfl
  have m9 := cell_at (j := 9) hX1.blk rfl
  have m10 := cell_at (j := 10) hX1.blk rfl
  have m11 := cell_at (j := 11) hX1.blk rfl
  have m12 := cell_at (j := 12) hX1.blk rfl
  have m13 := cell_at (j := 13) hX1.blk rfl
  have m14 := cell_at (j := 14) hX1.blk rfl
  clear hX1 hb1 cH H0
  go_upto_region 2 with fail
  go_cut [16] from 8 (fun r wr => r = .bool true ∧ Hid (Bx w wr #[nu kind, nu slot, nu birth, nu us, nu ub, nu skind, .string fu, .string fl, .int .u64 scopes, nu level, nu born, nu deadline, nu depth, nu eb, nu et]))
  case first =>
    go_wp2_with fail
    first | go_region_with (first | (go_at_call 25; with_reducible refine (cT.out _ ?hb1).mono ?_; (case hb1 => (first | exact HX1.out | exact HX1.out.drew | fail)); rintro e x2 ⟨rfl, ⟨s0, s1, s2, s3, s4, s5, s6, s7, s8, s9, s10, s11, s12, s13, s14⟩, hX2⟩) | fail) | fail
    all_goals (go_wp2_with fail; go_meet; exact ⟨rfl, hX2⟩)
  case rest =>
  obtain ⟨rfl, hX⟩ := hcut
  clear m0 m1 m2 m3 m4 m5 m6 m7 m8 m9 m10 m11 m12 m13 m14 HX1 cT
  go_wp2
  go_ret2
  exact ⟨rfl, hX.out.bel⟩

end Pe
end Ev
end Go.Proofs.YtnllplholfhbdaaDoor
