import Derived.Test.YtnllplholfhbdaaDoorMayM
import Derived.Test.YtnllplholfhbdaaDoorAppR
import Derived.Test.YtnllplholfhbdaaDoorFoot
/- The document's bytes of an event. -/
namespace Go.Proofs.YtnllplholfhbdaaDoor
set_option linter.ambiguousOpen false
open Go.RowKit
namespace Ev
open Pk Sm
set_option linter.unusedSimpArgs false
set_option linter.unusedVariables false

theorem bytes_ref (n : Int) (w : World) (h0 : 0 ≤ n) (h1 : n ≤ 9223372036854775807) :
    Calls Tryd.prog 42 #[nu n] w fun e w' => ∃ x, e = .returned x ∧ w'.ownsRow w.heap.size 5 1 x (sv n).length ((sv n).map by1) ∧ Below w.heap.size w w' := by
  obtain ⟨m, hm⟩ : ∃ m : Nat, n = (m : Int) := ⟨n.toNat, by omega⟩
  subst hm
  have c1 := Hid.mk' (sevens_any m w (by omega))
  rw [show sv (m : Int) = sev m from rfl]
  go_enter Tryd.func42, Tryd.ntmps42
  go_wp2_with fail
  refine c1.out.mono ?_
  rintro e w1 ⟨x, rfl, ho, hb⟩
  have HO := Hid.mk' ho
  have HB := Hid.mk' hb
  obtain ⟨a, cap, rfl, _⟩ := Nm.own_shape ho
  clear ho hb c1
  go_wp2
  go_ret
  exact ⟨_, rfl, HO.out, HB.out⟩

/-- What has been gathered: a row of this call's own; and a block beside it that stays. -/
structure Gat (w0 w : World) (v : Value) (l : List UInt8) (sb : Nat) (A : Obj) : Prop where
  own : w.ownsRow w0.heap.size 5 1 v l.length (l.map by1)
  bel : Below w0.heap.size w0 w
  blk : w.heap[sb]? = some A
  ne : v.ownBlock ≠ some sb

theorem Gat.shape {w0 w : World} {v : Value} {l : List UInt8} {sb : Nat} {A : Obj} (h : Gat w0 w v l sb A) : ∃ a cap, v = .slice a l.length cap := by
  obtain ⟨a, cap, e, _⟩ := Nm.own_shape h.own
  exact ⟨a, cap, e⟩

theorem Gat.below {w0 w w' : World} {v : Value} {l : List UInt8} {sb : Nat} {A : Obj} (h : Gat w0 w v l sb A) (hb : Below w.heap.size w w') : Gat w0 w' v l sb A :=
  ⟨(Ft.Keep.of_below (F := fun _ => False) hb).own h.own (fun _ _ h => h), h.bel.trans (hb.mono h.bel.size), (hb.block _ (Array.getElem?_eq_some_iff.1 h.blk).1).trans h.blk, h.ne⟩

/-- One row more. -/
theorem Gat.more {w0 w w1 w4 : World} {v v' : Value} {l m L : List UInt8} {sb : Nat} {A : Obj} (h : Gat w0 w v l sb A) (hb : Below w.heap.size w w1) (hg : w1.grownBy w4 v.ownBlock) (hv : v'.ownBlock = v.ownBlock ∨ v'.ownBlock = some w1.heap.size) (hL : l ++ m = L) (ho : w4.ownsRow w0.heap.size 5 1 v' (l.length + m.length) (l.map by1 ++ m.map by1)) : Gat w0 w4 v' L sb A := by
  have h1 := h.below hb
  have hlt := (Array.getElem?_eq_some_iff.1 h1.blk).1
  subst hL
  refine ⟨?_, Below.grown h1.bel hg h1.bel.size (fun k hk => (h1.own.lt k hk).1), (hg.block sb hlt (fun e => h1.ne e.symm)).trans h1.blk, ?_⟩
  · rw [List.length_append, List.map_append]
    exact ho
  · rcases hv with hv | hv
    · rw [hv]; exact h1.ne
    · rw [hv]
      intro e
      simp at e
      omega

theorem cell_of {w : World} {sb j : Nat} {xs : Array Value} {t : TypeId} {v : Value} (h : w.heap[sb]? = some (.cells xs t)) (hj : xs[j]? = some v) : w.cell? ⟨sb, j, none⟩ = some v := by
  simp [World.cell?, h, hj]

set_option maxRecDepth 100000 in
set_option maxHeartbeats 8000000 in
theorem birth_ref (s : Sn) (w : World) (ok : s.ok) :
    Calls Tryd.prog 23 #[.agg (Evt.arr ⟨0, s, 0, 0⟩)] w fun x w' => ∃ v, x = .returned v ∧ w'.ownsRow w.heap.size 5 1 v (sev 0 ++ encS s).length ((sev 0 ++ encS s).map by1) ∧ Below w.heap.size w w' := by
  obtain ⟨slot, birth, us, ub, kind, user, label, scopes, level, born, deadline, depth⟩ := s
  obtain ⟨o1, o2, o3, o4, o5, o6, o7, o8, o9, o10, o11, o12⟩ := ok
  simp only at o1 o2 o3 o4 o5 o6 o7 o8 o9 o10 o11 o12
  have c0 : Hid (∀ wx, Calls Tryd.prog 42 #[nu 0] wx fun e w' => ∃ x, e = .returned x ∧ w'.ownsRow wx.heap.size 5 1 x (sv 0).length ((sv 0).map by1) ∧ Below wx.heap.size wx w') := fun wx => bytes_ref 0 wx (by decide) (by decide)
  obtain ⟨fuser, hfu⟩ : ∃ f, tx user = f := ⟨_, rfl⟩
  obtain ⟨flabel, hfl⟩ : ∃ f, tx label = f := ⟨_, rfl⟩
  have c1 : Hid (∀ wx, Calls Tryd.prog 42 #[nu slot] wx fun e w' => ∃ x, e = .returned x ∧ w'.ownsRow wx.heap.size 5 1 x (sv slot).length ((sv slot).map by1) ∧ Below wx.heap.size wx w') := fun wx => bytes_ref _ wx o1.1 (by omega)
  have c2 : Hid (∀ wx, Calls Tryd.prog 42 #[nu birth] wx fun e w' => ∃ x, e = .returned x ∧ w'.ownsRow wx.heap.size 5 1 x (sv birth).length ((sv birth).map by1) ∧ Below wx.heap.size wx w') := fun wx => bytes_ref _ wx o2.1 (by omega)
  have c3 : Hid (∀ wx, Calls Tryd.prog 42 #[nu us] wx fun e w' => ∃ x, e = .returned x ∧ w'.ownsRow wx.heap.size 5 1 x (sv us).length ((sv us).map by1) ∧ Below wx.heap.size wx w') := fun wx => bytes_ref _ wx o3.1 (by omega)
  have c4 : Hid (∀ wx, Calls Tryd.prog 42 #[nu ub] wx fun e w' => ∃ x, e = .returned x ∧ w'.ownsRow wx.heap.size 5 1 x (sv ub).length ((sv ub).map by1) ∧ Below wx.heap.size wx w') := fun wx => bytes_ref _ wx o4.1 (by omega)
  have c5 : Hid (∀ wx, Calls Tryd.prog 42 #[nu kind] wx fun e w' => ∃ x, e = .returned x ∧ w'.ownsRow wx.heap.size 5 1 x (sv kind).length ((sv kind).map by1) ∧ Below wx.heap.size wx w') := fun wx => bytes_ref _ wx o5.1 (by omega)
  have c6 : Hid (∀ wx, Calls Tryd.prog 43 #[.string fuser] wx fun e w' => ∃ x, e = .returned x ∧ w'.ownsRow wx.heap.size 5 1 x (txt user).length ((txt user).map by1) ∧ Below wx.heap.size wx w') := fun wx => by rw [← hfu]; exact text_ref user wx (by omega)
  have c7 : Hid (∀ wx, Calls Tryd.prog 43 #[.string flabel] wx fun e w' => ∃ x, e = .returned x ∧ w'.ownsRow wx.heap.size 5 1 x (txt label).length ((txt label).map by1) ∧ Below wx.heap.size wx w') := fun wx => by rw [← hfl]; exact text_ref label wx (by omega)
  have c8 : Hid (∀ wx, Calls Tryd.prog 44 #[.int .u64 scopes] wx fun e w' => ∃ x, e = .returned x ∧ w'.ownsRow wx.heap.size 5 1 x (sv scopes).length ((sv scopes).map by1) ∧ Below wx.heap.size wx w') := fun wx => by have := sevens_any scopes.toNat wx (by omega); rw [show ((scopes.toNat : Nat) : Int) = scopes by omega] at this; exact this
  have c9 : Hid (∀ wx, Calls Tryd.prog 42 #[nu level] wx fun e w' => ∃ x, e = .returned x ∧ w'.ownsRow wx.heap.size 5 1 x (sv level).length ((sv level).map by1) ∧ Below wx.heap.size wx w') := fun wx => bytes_ref _ wx o9.1 (by omega)
  have c10 : Hid (∀ wx, Calls Tryd.prog 42 #[nu born] wx fun e w' => ∃ x, e = .returned x ∧ w'.ownsRow wx.heap.size 5 1 x (sv born).length ((sv born).map by1) ∧ Below wx.heap.size wx w') := fun wx => bytes_ref _ wx o10.1 (by omega)
  have c11 : Hid (∀ wx, Calls Tryd.prog 42 #[nu deadline] wx fun e w' => ∃ x, e = .returned x ∧ w'.ownsRow wx.heap.size 5 1 x (sv deadline).length ((sv deadline).map by1) ∧ Below wx.heap.size wx w') := fun wx => bytes_ref _ wx o11.1 (by omega)
  have c12 : Hid (∀ wx, Calls Tryd.prog 42 #[nu depth] wx fun e w' => ∃ x, e = .returned x ∧ w'.ownsRow wx.heap.size 5 1 x (sv depth).length ((sv depth).map by1) ∧ Below wx.heap.size wx w') := fun wx => bytes_ref _ wx o12.1 (by omega)
  have p10 : (128 : Nat) ^ (9 + 1) = 1180591620717411303424 := by decide
  have b0 := sv_len 9 0 (by decide)
  have b1 := sv_len 9 slot (by omega)
  have b2 := sv_len 9 birth (by omega)
  have b3 := sv_len 9 us (by omega)
  have b4 := sv_len 9 ub (by omega)
  have b5 := sv_len 9 kind (by omega)
  have b6 := txt_len user o6
  have b7 := txt_len label o7
  have b8 := sv_len 9 scopes (by omega)
  have b9 := sv_len 9 level (by omega)
  have b10 := sv_len 9 born (by omega)
  have b11 := sv_len 9 deadline (by omega)
  have b12 := sv_len 9 depth (by omega)
  obtain ⟨L0, hL0⟩ : ∃ L, sv 0 = L := ⟨_, rfl⟩
  obtain ⟨L1, hL1⟩ : ∃ L, L0 ++ sv slot = L := ⟨_, rfl⟩
  obtain ⟨L2, hL2⟩ : ∃ L, L1 ++ sv birth = L := ⟨_, rfl⟩
  obtain ⟨L3, hL3⟩ : ∃ L, L2 ++ sv us = L := ⟨_, rfl⟩
  obtain ⟨L4, hL4⟩ : ∃ L, L3 ++ sv ub = L := ⟨_, rfl⟩
  obtain ⟨L5, hL5⟩ : ∃ L, L4 ++ sv kind = L := ⟨_, rfl⟩
  obtain ⟨L6, hL6⟩ : ∃ L, L5 ++ txt user = L := ⟨_, rfl⟩
  obtain ⟨L7, hL7⟩ : ∃ L, L6 ++ txt label = L := ⟨_, rfl⟩
  obtain ⟨L8, hL8⟩ : ∃ L, L7 ++ sv scopes = L := ⟨_, rfl⟩
  obtain ⟨L9, hL9⟩ : ∃ L, L8 ++ sv level = L := ⟨_, rfl⟩
  obtain ⟨L10, hL10⟩ : ∃ L, L9 ++ sv born = L := ⟨_, rfl⟩
  obtain ⟨L11, hL11⟩ : ∃ L, L10 ++ sv deadline = L := ⟨_, rfl⟩
  obtain ⟨L12, hL12⟩ : ∃ L, L11 ++ sv depth = L := ⟨_, rfl⟩
  have n0 : L0.length ≤ 10 := by rw [← hL0]; exact b0
  have n1 : L1.length ≤ 43 := by rw [← hL1, List.length_append]; omega
  have n2 : L2.length ≤ 76 := by rw [← hL2, List.length_append]; omega
  have n3 : L3.length ≤ 109 := by rw [← hL3, List.length_append]; omega
  have n4 : L4.length ≤ 142 := by rw [← hL4, List.length_append]; omega
  have n5 : L5.length ≤ 175 := by rw [← hL5, List.length_append]; omega
  have n6 : L6.length ≤ 208 := by rw [← hL6, List.length_append]; omega
  have n7 : L7.length ≤ 241 := by rw [← hL7, List.length_append]; omega
  have n8 : L8.length ≤ 274 := by rw [← hL8, List.length_append]; omega
  have n9 : L9.length ≤ 307 := by rw [← hL9, List.length_append]; omega
  have n10 : L10.length ≤ 340 := by rw [← hL10, List.length_append]; omega
  have n11 : L11.length ≤ 373 := by rw [← hL11, List.length_append]; omega
  have n12 : L12.length ≤ 406 := by rw [← hL12, List.length_append]; omega
  have m1 : Hid (L0.length + (sv slot).length ≤ 140737488355328) := by show _ ≤ _; omega
  have m2 : Hid (L1.length + (sv birth).length ≤ 140737488355328) := by show _ ≤ _; omega
  have m3 : Hid (L2.length + (sv us).length ≤ 140737488355328) := by show _ ≤ _; omega
  have m4 : Hid (L3.length + (sv ub).length ≤ 140737488355328) := by show _ ≤ _; omega
  have m5 : Hid (L4.length + (sv kind).length ≤ 140737488355328) := by show _ ≤ _; omega
  have m6 : Hid (L5.length + (txt user).length ≤ 140737488355328) := by show _ ≤ _; omega
  have m7 : Hid (L6.length + (txt label).length ≤ 140737488355328) := by show _ ≤ _; omega
  have m8 : Hid (L7.length + (sv scopes).length ≤ 140737488355328) := by show _ ≤ _; omega
  have m9 : Hid (L8.length + (sv level).length ≤ 140737488355328) := by show _ ≤ _; omega
  have m10 : Hid (L9.length + (sv born).length ≤ 140737488355328) := by show _ ≤ _; omega
  have m11 : Hid (L10.length + (sv deadline).length ≤ 140737488355328) := by show _ ≤ _; omega
  have m12 : Hid (L11.length + (sv depth).length ≤ 140737488355328) := by show _ ≤ _; omega
  have hE : Hid (sev 0 ++ encS ⟨slot, birth, us, ub, kind, user, label, scopes, level, born, deadline, depth⟩ = L12) := by
    show _ = _
    rw [← hL12, ← hL11, ← hL10, ← hL9, ← hL8, ← hL7, ← hL6, ← hL5, ← hL4, ← hL3, ← hL2, ← hL1, ← hL0]
    simp only [encS, List.append_assoc]
    rfl
  rw [hL0] at c0
  have HL1 := Hid.mk' hL1
  have HL2 := Hid.mk' hL2
  have HL3 := Hid.mk' hL3
  have HL4 := Hid.mk' hL4
  have HL5 := Hid.mk' hL5
  have HL6 := Hid.mk' hL6
  have HL7 := Hid.mk' hL7
  have HL8 := Hid.mk' hL8
  have HL9 := Hid.mk' hL9
  have HL10 := Hid.mk' hL10
  have HL11 := Hid.mk' hL11
  have HL12 := Hid.mk' hL12
  clear p10 hL0 hL1 hL2 hL3 hL4 hL5 hL6 hL7 hL8 hL9 hL10 hL11 hL12 b0 b1 b2 b3 b4 b5 b6 b7 b8 b9 b10 b11 b12 n0 n1 n2 n3 n4 n5 n6 n7 n8 n9 n10 n11 n12 o1 o2 o3 o4 o5 o6 o7 o9 o10 o11 o12
  obtain ⟨o8a, o8b⟩ := o8
  have hev : Hid ((w.alloc (.cells (Evt.arr ⟨0, ⟨slot, birth, us, ub, kind, user, label, scopes, level, born, deadline, depth⟩, 0, 0⟩) 29)).heap[w.heap.size]? = some (.cells (Evt.arr ⟨0, ⟨slot, birth, us, ub, kind, user, label, scopes, level, born, deadline, depth⟩, 0, 0⟩) 29)) := heap_alloc_new _ _
  have hb0 : Hid (Below w.heap.size w (w.alloc (.cells (Evt.arr ⟨0, ⟨slot, birth, us, ub, kind, user, label, scopes, level, born, deadline, depth⟩, 0, 0⟩) 29))) := (Below.refl _ _).alloc (Nat.le_refl _) _
  unfold Evt.arr at hev hb0
  unfold Evt.arr
  simp only [hfu, hfl] at hev hb0 ⊢
  clear hfu hfl
  go_enter Tryd.func23, Tryd.ntmps23
  go_wp2_with fail
  refine (c0.out _).mono ?_
  rintro e x0 ⟨y0, rfl, ho0, hb1⟩
  have he0 := (hb1.block w.heap.size (by simp)).trans hev.out
  have e0 := cell_of (j := 0) he0 rfl
  have e1 := cell_of (j := 1) he0 rfl
  have e2 := cell_of (j := 2) he0 rfl
  have e3 := cell_of (j := 3) he0 rfl
  have e4 := cell_of (j := 4) he0 rfl
  have e5 := cell_of (j := 5) he0 rfl
  have e6 := cell_of (j := 6) he0 rfl
  have e7 := cell_of (j := 7) he0 rfl
  have e8 := cell_of (j := 8) he0 rfl
  have e9 := cell_of (j := 9) he0 rfl
  have e10 := cell_of (j := 10) he0 rfl
  have e11 := cell_of (j := 11) he0 rfl
  have e12 := cell_of (j := 12) he0 rfl
  have e13 := cell_of (j := 13) he0 rfl
  have e14 := cell_of (j := 14) he0 rfl
  have HG0 : Hid (Gat w (x0.alloc (.cells #[nu slot, nu birth, nu us, nu ub, nu kind, .string fuser, .string flabel, .int .u64 scopes, nu level, nu born, nu deadline, nu depth] 27)) y0 L0 x0.heap.size (.cells #[nu slot, nu birth, nu us, nu ub, nu kind, .string fuser, .string flabel, .int .u64 scopes, nu level, nu born, nu deadline, nu depth] 27)) := by
    have hown : x0.ownsRow w.heap.size 5 1 y0 L0.length (L0.map by1) := own_mono ho0 (by simp)
    refine ⟨hown.alloc _, (hb0.out.trans (hb1.mono hb0.out.size)).alloc (hb0.out.trans (hb1.mono hb0.out.size)).size _, heap_alloc_new _ _, fun e => ?_⟩
    have := (hown.lt _ e).2
    omega
  obtain ⟨ga0, gc0, hy0⟩ := HG0.out.shape
  subst hy0
  clear ho0 hb1 he0 hev hb0 c0
  go_wp2_with fail
  refine (c1.out _).mono ?_
  rintro e x1 ⟨y1, rfl, ho1, hb1⟩
  clear e0 e1 e2 e3 e4 e5 e6 e7 e8 e9 e10 e11 e12 e13 e14
  have HR1 : Hid (RdB x1 y1 (sv slot)) := own_rd ho1
  have HZ1 : Hid (Nz y1) := nz_own ho1
  have HB1 := Hid.mk' hb1
  have HP1 := Hid.mk' (HG0.out.below hb1)
  obtain ⟨ya1, yc1, rfl, _⟩ := Nm.own_shape ho1
  clear ho1 hb1 c1
  go_wp2_with (at_builtin; refine wpList_append_rowP rfl _ _ rfl w.heap.size L0.length _ _ _ (sv slot) rfl rfl HP1.out.own HR1.out HZ1.out m1.out HP1.out.bel.size ?_; intro v1 w1 oo1 og1 ov1; have HG1 : Hid (Gat w w1 v1 L1 x0.heap.size _) := Gat.more HG0.out HB1.out og1 ov1 HL1.out oo1; obtain ⟨ga1, gc1, rfl⟩ := HG1.out.shape; have q2 := cell_of (j := 1) HG1.out.blk rfl; clear oo1 og1 ov1)
  go_wp2_with fail
  refine (c2.out _).mono ?_
  rintro e x2 ⟨y2, rfl, ho2, hb2⟩
  have HR2 : Hid (RdB x2 y2 (sv birth)) := own_rd ho2
  have HZ2 : Hid (Nz y2) := nz_own ho2
  have HB2 := Hid.mk' hb2
  have HP2 := Hid.mk' (HG1.out.below hb2)
  obtain ⟨ya2, yc2, rfl, _⟩ := Nm.own_shape ho2
  clear ho2 hb2 c2 q2
  go_wp2_with (at_builtin; refine wpList_append_rowP rfl _ _ rfl w.heap.size L1.length _ _ _ (sv birth) rfl rfl HP2.out.own HR2.out HZ2.out m2.out HP2.out.bel.size ?_; intro v2 w2 oo2 og2 ov2; have HG2 : Hid (Gat w w2 v2 L2 x0.heap.size _) := Gat.more HG1.out HB2.out og2 ov2 HL2.out oo2; obtain ⟨ga2, gc2, rfl⟩ := HG2.out.shape; have q3 := cell_of (j := 2) HG2.out.blk rfl; clear oo2 og2 ov2)
  go_wp2_with fail
  refine (c3.out _).mono ?_
  rintro e x3 ⟨y3, rfl, ho3, hb3⟩
  have HR3 : Hid (RdB x3 y3 (sv us)) := own_rd ho3
  have HZ3 : Hid (Nz y3) := nz_own ho3
  have HB3 := Hid.mk' hb3
  have HP3 := Hid.mk' (HG2.out.below hb3)
  obtain ⟨ya3, yc3, rfl, _⟩ := Nm.own_shape ho3
  clear ho3 hb3 c3 q3
  go_wp2_with (at_builtin; refine wpList_append_rowP rfl _ _ rfl w.heap.size L2.length _ _ _ (sv us) rfl rfl HP3.out.own HR3.out HZ3.out m3.out HP3.out.bel.size ?_; intro v3 w3 oo3 og3 ov3; have HG3 : Hid (Gat w w3 v3 L3 x0.heap.size _) := Gat.more HG2.out HB3.out og3 ov3 HL3.out oo3; obtain ⟨ga3, gc3, rfl⟩ := HG3.out.shape; have q4 := cell_of (j := 3) HG3.out.blk rfl; clear oo3 og3 ov3)
  go_wp2_with fail
  refine (c4.out _).mono ?_
  rintro e x4 ⟨y4, rfl, ho4, hb4⟩
  have HR4 : Hid (RdB x4 y4 (sv ub)) := own_rd ho4
  have HZ4 : Hid (Nz y4) := nz_own ho4
  have HB4 := Hid.mk' hb4
  have HP4 := Hid.mk' (HG3.out.below hb4)
  obtain ⟨ya4, yc4, rfl, _⟩ := Nm.own_shape ho4
  clear ho4 hb4 c4 q4
  go_wp2_with (at_builtin; refine wpList_append_rowP rfl _ _ rfl w.heap.size L3.length _ _ _ (sv ub) rfl rfl HP4.out.own HR4.out HZ4.out m4.out HP4.out.bel.size ?_; intro v4 w4 oo4 og4 ov4; have HG4 : Hid (Gat w w4 v4 L4 x0.heap.size _) := Gat.more HG3.out HB4.out og4 ov4 HL4.out oo4; obtain ⟨ga4, gc4, rfl⟩ := HG4.out.shape; have q5 := cell_of (j := 4) HG4.out.blk rfl; clear oo4 og4 ov4)
  go_wp2_with fail
  refine (c5.out _).mono ?_
  rintro e x5 ⟨y5, rfl, ho5, hb5⟩
  have HR5 : Hid (RdB x5 y5 (sv kind)) := own_rd ho5
  have HZ5 : Hid (Nz y5) := nz_own ho5
  have HB5 := Hid.mk' hb5
  have HP5 := Hid.mk' (HG4.out.below hb5)
  obtain ⟨ya5, yc5, rfl, _⟩ := Nm.own_shape ho5
  clear ho5 hb5 c5 q5
  go_wp2_with (at_builtin; refine wpList_append_rowP rfl _ _ rfl w.heap.size L4.length _ _ _ (sv kind) rfl rfl HP5.out.own HR5.out HZ5.out m5.out HP5.out.bel.size ?_; intro v5 w5 oo5 og5 ov5; have HG5 : Hid (Gat w w5 v5 L5 x0.heap.size _) := Gat.more HG4.out HB5.out og5 ov5 HL5.out oo5; obtain ⟨ga5, gc5, rfl⟩ := HG5.out.shape; have q6 := cell_of (j := 5) HG5.out.blk rfl; clear oo5 og5 ov5)
  go_wp2_with fail
  refine (c6.out _).mono ?_
  rintro e x6 ⟨y6, rfl, ho6, hb6⟩
  have HR6 : Hid (RdB x6 y6 (txt user)) := own_rd ho6
  have HZ6 : Hid (Nz y6) := nz_own ho6
  have HB6 := Hid.mk' hb6
  have HP6 := Hid.mk' (HG5.out.below hb6)
  obtain ⟨ya6, yc6, rfl, _⟩ := Nm.own_shape ho6
  clear ho6 hb6 c6 q6
  go_wp2_with (at_builtin; refine wpList_append_rowP rfl _ _ rfl w.heap.size L5.length _ _ _ (txt user) rfl rfl HP6.out.own HR6.out HZ6.out m6.out HP6.out.bel.size ?_; intro v6 w6 oo6 og6 ov6; have HG6 : Hid (Gat w w6 v6 L6 x0.heap.size _) := Gat.more HG5.out HB6.out og6 ov6 HL6.out oo6; obtain ⟨ga6, gc6, rfl⟩ := HG6.out.shape; have q7 := cell_of (j := 6) HG6.out.blk rfl; clear oo6 og6 ov6)
  go_wp2_with fail
  refine (c7.out _).mono ?_
  rintro e x7 ⟨y7, rfl, ho7, hb7⟩
  have HR7 : Hid (RdB x7 y7 (txt label)) := own_rd ho7
  have HZ7 : Hid (Nz y7) := nz_own ho7
  have HB7 := Hid.mk' hb7
  have HP7 := Hid.mk' (HG6.out.below hb7)
  obtain ⟨ya7, yc7, rfl, _⟩ := Nm.own_shape ho7
  clear ho7 hb7 c7 q7
  go_wp2_with (at_builtin; refine wpList_append_rowP rfl _ _ rfl w.heap.size L6.length _ _ _ (txt label) rfl rfl HP7.out.own HR7.out HZ7.out m7.out HP7.out.bel.size ?_; intro v7 w7 oo7 og7 ov7; have HG7 : Hid (Gat w w7 v7 L7 x0.heap.size _) := Gat.more HG6.out HB7.out og7 ov7 HL7.out oo7; obtain ⟨ga7, gc7, rfl⟩ := HG7.out.shape; have q8 := cell_of (j := 7) HG7.out.blk rfl; clear oo7 og7 ov7)
  go_wp2_with fail
  refine (c8.out _).mono ?_
  rintro e x8 ⟨y8, rfl, ho8, hb8⟩
  have HR8 : Hid (RdB x8 y8 (sv scopes)) := own_rd ho8
  have HZ8 : Hid (Nz y8) := nz_own ho8
  have HB8 := Hid.mk' hb8
  have HP8 := Hid.mk' (HG7.out.below hb8)
  obtain ⟨ya8, yc8, rfl, _⟩ := Nm.own_shape ho8
  clear ho8 hb8 c8 q8
  go_wp2_with (at_builtin; refine wpList_append_rowP rfl _ _ rfl w.heap.size L7.length _ _ _ (sv scopes) rfl rfl HP8.out.own HR8.out HZ8.out m8.out HP8.out.bel.size ?_; intro v8 w8 oo8 og8 ov8; have HG8 : Hid (Gat w w8 v8 L8 x0.heap.size _) := Gat.more HG7.out HB8.out og8 ov8 HL8.out oo8; obtain ⟨ga8, gc8, rfl⟩ := HG8.out.shape; have q9 := cell_of (j := 8) HG8.out.blk rfl; clear oo8 og8 ov8)
  go_wp2_with fail
  refine (c9.out _).mono ?_
  rintro e x9 ⟨y9, rfl, ho9, hb9⟩
  have HR9 : Hid (RdB x9 y9 (sv level)) := own_rd ho9
  have HZ9 : Hid (Nz y9) := nz_own ho9
  have HB9 := Hid.mk' hb9
  have HP9 := Hid.mk' (HG8.out.below hb9)
  obtain ⟨ya9, yc9, rfl, _⟩ := Nm.own_shape ho9
  clear ho9 hb9 c9 q9
  go_wp2_with (at_builtin; refine wpList_append_rowP rfl _ _ rfl w.heap.size L8.length _ _ _ (sv level) rfl rfl HP9.out.own HR9.out HZ9.out m9.out HP9.out.bel.size ?_; intro v9 w9 oo9 og9 ov9; have HG9 : Hid (Gat w w9 v9 L9 x0.heap.size _) := Gat.more HG8.out HB9.out og9 ov9 HL9.out oo9; obtain ⟨ga9, gc9, rfl⟩ := HG9.out.shape; have q10 := cell_of (j := 9) HG9.out.blk rfl; clear oo9 og9 ov9)
  go_wp2_with fail
  refine (c10.out _).mono ?_
  rintro e x10 ⟨y10, rfl, ho10, hb10⟩
  have HR10 : Hid (RdB x10 y10 (sv born)) := own_rd ho10
  have HZ10 : Hid (Nz y10) := nz_own ho10
  have HB10 := Hid.mk' hb10
  have HP10 := Hid.mk' (HG9.out.below hb10)
  obtain ⟨ya10, yc10, rfl, _⟩ := Nm.own_shape ho10
  clear ho10 hb10 c10 q10
  go_wp2_with (at_builtin; refine wpList_append_rowP rfl _ _ rfl w.heap.size L9.length _ _ _ (sv born) rfl rfl HP10.out.own HR10.out HZ10.out m10.out HP10.out.bel.size ?_; intro v10 w10 oo10 og10 ov10; have HG10 : Hid (Gat w w10 v10 L10 x0.heap.size _) := Gat.more HG9.out HB10.out og10 ov10 HL10.out oo10; obtain ⟨ga10, gc10, rfl⟩ := HG10.out.shape; have q11 := cell_of (j := 10) HG10.out.blk rfl; clear oo10 og10 ov10)
  go_wp2_with fail
  refine (c11.out _).mono ?_
  rintro e x11 ⟨y11, rfl, ho11, hb11⟩
  have HR11 : Hid (RdB x11 y11 (sv deadline)) := own_rd ho11
  have HZ11 : Hid (Nz y11) := nz_own ho11
  have HB11 := Hid.mk' hb11
  have HP11 := Hid.mk' (HG10.out.below hb11)
  obtain ⟨ya11, yc11, rfl, _⟩ := Nm.own_shape ho11
  clear ho11 hb11 c11 q11
  go_wp2_with (at_builtin; refine wpList_append_rowP rfl _ _ rfl w.heap.size L10.length _ _ _ (sv deadline) rfl rfl HP11.out.own HR11.out HZ11.out m11.out HP11.out.bel.size ?_; intro v11 w11 oo11 og11 ov11; have HG11 : Hid (Gat w w11 v11 L11 x0.heap.size _) := Gat.more HG10.out HB11.out og11 ov11 HL11.out oo11; obtain ⟨ga11, gc11, rfl⟩ := HG11.out.shape; have q12 := cell_of (j := 11) HG11.out.blk rfl; clear oo11 og11 ov11)
  go_wp2_with fail
  refine (c12.out _).mono ?_
  rintro e x12 ⟨y12, rfl, ho12, hb12⟩
  have HR12 : Hid (RdB x12 y12 (sv depth)) := own_rd ho12
  have HZ12 : Hid (Nz y12) := nz_own ho12
  have HB12 := Hid.mk' hb12
  have HP12 := Hid.mk' (HG11.out.below hb12)
  obtain ⟨ya12, yc12, rfl, _⟩ := Nm.own_shape ho12
  clear ho12 hb12 c12 q12
  go_wp2_with (at_builtin; refine wpList_append_rowP rfl _ _ rfl w.heap.size L11.length _ _ _ (sv depth) rfl rfl HP12.out.own HR12.out HZ12.out m12.out HP12.out.bel.size ?_; intro v12 w12 oo12 og12 ov12; have HG12 : Hid (Gat w w12 v12 L12 x0.heap.size _) := Gat.more HG11.out HB12.out og12 ov12 HL12.out oo12; obtain ⟨ga12, gc12, rfl⟩ := HG12.out.shape; clear oo12 og12 ov12)
  go_wp2
  go_ret
  rw [hE.out]
  exact ⟨_, rfl, HG12.out.own, HG12.out.bel⟩

set_option maxRecDepth 100000 in
set_option maxHeartbeats 8000000 in
theorem revoke_ref (n : Int) (w : World) (h0 : 0 ≤ n) (h1 : n ≤ 1099511627776) :
    Calls Tryd.prog 23 #[.agg (Evt.arr ⟨1, Sn.zero, n, 0⟩)] w fun x w' => ∃ v, x = .returned v ∧ w'.ownsRow w.heap.size 5 1 v (sev 1 ++ sv n).length ((sev 1 ++ sv n).map by1) ∧ Below w.heap.size w w' := by
  have c0 : Hid (∀ wx, Calls Tryd.prog 42 #[nu 1] wx fun e w' => ∃ x, e = .returned x ∧ w'.ownsRow wx.heap.size 5 1 x (sv 1).length ((sv 1).map by1) ∧ Below wx.heap.size wx w') := fun wx => bytes_ref 1 wx (by decide) (by decide)
  have c1 : Hid (∀ wx, Calls Tryd.prog 42 #[nu n] wx fun e w' => ∃ x, e = .returned x ∧ w'.ownsRow wx.heap.size 5 1 x (sv n).length ((sv n).map by1) ∧ Below wx.heap.size wx w') := fun wx => bytes_ref n wx h0 (by omega)
  have p10 : (128 : Nat) ^ (9 + 1) = 1180591620717411303424 := by decide
  have b0 := sv_len 9 1 (by decide)
  have b1 := sv_len 9 n (by omega)
  obtain ⟨L0, hL0⟩ : ∃ L, sv 1 = L := ⟨_, rfl⟩
  obtain ⟨L1, hL1⟩ : ∃ L, L0 ++ sv n = L := ⟨_, rfl⟩
  have m1 : Hid (L0.length + (sv n).length ≤ 140737488355328) := by show _ ≤ _; rw [← hL0]; omega
  have hE : Hid (sev 1 ++ sv n = L1) := by
    show _ = _
    rw [← hL1, ← hL0]
    rfl
  rw [hL0] at c0
  have HL1 := Hid.mk' hL1
  clear hL0 hL1 b0 b1 p10 h0 h1
  have hev : Hid ((w.alloc (.cells (Evt.arr ⟨1, Sn.zero, n, 0⟩) 29)).heap[w.heap.size]? = some (.cells (Evt.arr ⟨1, Sn.zero, n, 0⟩) 29)) := heap_alloc_new _ _
  have hb0 : Hid (Below w.heap.size w (w.alloc (.cells (Evt.arr ⟨1, Sn.zero, n, 0⟩) 29))) := (Below.refl _ _).alloc (Nat.le_refl _) _
  unfold Evt.arr Sn.zero at hev hb0
  unfold Evt.arr Sn.zero
  simp only at hev hb0 ⊢
  go_enter Tryd.func23, Tryd.ntmps23
  go_wp2_with fail
  refine (c0.out _).mono ?_
  rintro e x0 ⟨y0, rfl, ho0, hb1⟩
  have he0 := (hb1.block w.heap.size (by simp)).trans hev.out
  have e0 := cell_of (j := 0) he0 rfl
  have e13 := cell_of (j := 13) he0 rfl
  have hown : x0.ownsRow w.heap.size 5 1 y0 L0.length (L0.map by1) := own_mono ho0 (by simp)
  have hne : y0.ownBlock ≠ some w.heap.size := fun e => by
    have := (ho0.lt _ e).1
    simp at this
    omega
  have HG0 := Hid.mk' (Gat.mk hown (hb0.out.trans (hb1.mono hb0.out.size)) he0 hne)
  clear hown hne
  obtain ⟨ga0, gc0, hy0⟩ := HG0.out.shape
  subst hy0
  clear ho0 hb1 he0 hev hb0 c0
  go_wp2_with fail
  refine (c1.out _).mono ?_
  rintro e x1 ⟨y1, rfl, ho1, hb1⟩
  have HR1 : Hid (RdB x1 y1 (sv n)) := own_rd ho1
  have HZ1 : Hid (Nz y1) := nz_own ho1
  have HB1 := Hid.mk' hb1
  have HP1 := Hid.mk' (HG0.out.below hb1)
  obtain ⟨ya1, yc1, rfl, _⟩ := Nm.own_shape ho1
  clear ho1 hb1 c1 e0 e13
  go_wp2_with (at_builtin; refine wpList_append_rowP rfl _ _ rfl w.heap.size L0.length _ _ _ (sv n) rfl rfl HP1.out.own HR1.out HZ1.out m1.out HP1.out.bel.size ?_; intro v1 w1 oo1 og1 ov1; have HG1 : Hid (Gat w w1 v1 L1 w.heap.size _) := Gat.more HG0.out HB1.out og1 ov1 HL1.out oo1; obtain ⟨ga1, gc1, rfl⟩ := HG1.out.shape; clear oo1 og1 ov1)
  go_wp2
  go_ret
  rw [hE.out]
  exact ⟨_, rfl, HG1.out.own, HG1.out.bel⟩

set_option maxRecDepth 100000 in
set_option maxHeartbeats 8000000 in
theorem tick_ref (n : Int) (w : World) (h0 : 0 ≤ n) (h1 : n ≤ 1099511627776) :
    Calls Tryd.prog 23 #[.agg (Evt.arr ⟨2, Sn.zero, 0, n⟩)] w fun x w' => ∃ v, x = .returned v ∧ w'.ownsRow w.heap.size 5 1 v (sev 2 ++ sv n).length ((sev 2 ++ sv n).map by1) ∧ Below w.heap.size w w' := by
  have c0 : Hid (∀ wx, Calls Tryd.prog 42 #[nu 2] wx fun e w' => ∃ x, e = .returned x ∧ w'.ownsRow wx.heap.size 5 1 x (sv 2).length ((sv 2).map by1) ∧ Below wx.heap.size wx w') := fun wx => bytes_ref 2 wx (by decide) (by decide)
  have c1 : Hid (∀ wx, Calls Tryd.prog 42 #[nu n] wx fun e w' => ∃ x, e = .returned x ∧ w'.ownsRow wx.heap.size 5 1 x (sv n).length ((sv n).map by1) ∧ Below wx.heap.size wx w') := fun wx => bytes_ref n wx h0 (by omega)
  have p10 : (128 : Nat) ^ (9 + 1) = 1180591620717411303424 := by decide
  have b0 := sv_len 9 2 (by decide)
  have b1 := sv_len 9 n (by omega)
  obtain ⟨L0, hL0⟩ : ∃ L, sv 2 = L := ⟨_, rfl⟩
  obtain ⟨L1, hL1⟩ : ∃ L, L0 ++ sv n = L := ⟨_, rfl⟩
  have m1 : Hid (L0.length + (sv n).length ≤ 140737488355328) := by show _ ≤ _; rw [← hL0]; omega
  have hE : Hid (sev 2 ++ sv n = L1) := by
    show _ = _
    rw [← hL1, ← hL0]
    rfl
  rw [hL0] at c0
  have HL1 := Hid.mk' hL1
  clear hL0 hL1 b0 b1 p10 h0 h1
  have hev : Hid ((w.alloc (.cells (Evt.arr ⟨2, Sn.zero, 0, n⟩) 29)).heap[w.heap.size]? = some (.cells (Evt.arr ⟨2, Sn.zero, 0, n⟩) 29)) := heap_alloc_new _ _
  have hb0 : Hid (Below w.heap.size w (w.alloc (.cells (Evt.arr ⟨2, Sn.zero, 0, n⟩) 29))) := (Below.refl _ _).alloc (Nat.le_refl _) _
  unfold Evt.arr Sn.zero at hev hb0
  unfold Evt.arr Sn.zero
  simp only at hev hb0 ⊢
  go_enter Tryd.func23, Tryd.ntmps23
  go_wp2_with fail
  refine (c0.out _).mono ?_
  rintro e x0 ⟨y0, rfl, ho0, hb1⟩
  have he0 := (hb1.block w.heap.size (by simp)).trans hev.out
  have e0 := cell_of (j := 0) he0 rfl
  have e13 := cell_of (j := 14) he0 rfl
  have hown : x0.ownsRow w.heap.size 5 1 y0 L0.length (L0.map by1) := own_mono ho0 (by simp)
  have hne : y0.ownBlock ≠ some w.heap.size := fun e => by
    have := (ho0.lt _ e).1
    simp at this
    omega
  have HG0 := Hid.mk' (Gat.mk hown (hb0.out.trans (hb1.mono hb0.out.size)) he0 hne)
  clear hown hne
  obtain ⟨ga0, gc0, hy0⟩ := HG0.out.shape
  subst hy0
  clear ho0 hb1 he0 hev hb0 c0
  go_wp2_with fail
  refine (c1.out _).mono ?_
  rintro e x1 ⟨y1, rfl, ho1, hb1⟩
  have HR1 : Hid (RdB x1 y1 (sv n)) := own_rd ho1
  have HZ1 : Hid (Nz y1) := nz_own ho1
  have HB1 := Hid.mk' hb1
  have HP1 := Hid.mk' (HG0.out.below hb1)
  obtain ⟨ya1, yc1, rfl, _⟩ := Nm.own_shape ho1
  clear ho1 hb1 c1 e0 e13
  go_wp2_with (at_builtin; refine wpList_append_rowP rfl _ _ rfl w.heap.size L0.length _ _ _ (sv n) rfl rfl HP1.out.own HR1.out HZ1.out m1.out HP1.out.bel.size ?_; intro v1 w1 oo1 og1 ov1; have HG1 : Hid (Gat w w1 v1 L1 w.heap.size _) := Gat.more HG0.out HB1.out og1 ov1 HL1.out oo1; obtain ⟨ga1, gc1, rfl⟩ := HG1.out.shape; clear oo1 og1 ov1)
  go_wp2
  go_ret
  rw [hE.out]
  exact ⟨_, rfl, HG1.out.own, HG1.out.bel⟩

theorem bytesE_ref (e : Evt) (w : World) (hm : mayE e = true) (hsc : 0 ≤ e.s.scopes ∧ e.s.scopes < 18446744073709551616) :
    Calls Tryd.prog 23 #[.agg e.arr] w fun x w' => ∃ v, x = .returned v ∧ w'.ownsRow w.heap.size 5 1 v (encE e).length ((encE e).map by1) ∧ Below w.heap.size w w' := by
  rcases mayE_cases e hm with ⟨he, hs⟩ | ⟨he, h1, h2⟩ | ⟨he, h1, h2⟩
  · have := birth_ref e.s w (mayS_ok e.s hs hsc)
    rw [← enc0, ← he] at this
    exact this
  · have := revoke_ref e.birth w (by omega) (by omega)
    rw [← enc1, ← he] at this
    exact this
  · have := tick_ref e.ticks w (by omega) (by omega)
    rw [← enc2, ← he] at this
    exact this

set_option maxRecDepth 100000 in
theorem encode_ref (e : Evt) (w : World) (hf : e.fit) :
    Calls Tryd.prog 7 #[.agg e.arr] w fun x w' => ∃ v, x = .returned (.tuple #[v, nu (if mayE e then 0 else 1)]) ∧ w'.ownsRow w.heap.size 5 1 v (bytesE e).length ((bytesE e).map by1) ∧ Below w.heap.size w w' := by
  have cM := Hid.mk' (may_ref e (w.alloc (.cells e.arr 29)) hf)
  have hev : Hid ((w.alloc (.cells e.arr 29)).heap[w.heap.size]? = some (.cells e.arr 29)) := heap_alloc_new _ _
  have hb0 : Hid (Below w.heap.size w (w.alloc (.cells e.arr 29))) := (Below.refl _ _).alloc (Nat.le_refl _) _
  by_cases hm : mayE e = true
  · have cB : Hid (∀ wx, Calls Tryd.prog 23 #[.agg e.arr] wx fun x w' => ∃ v, x = .returned v ∧ w'.ownsRow wx.heap.size 5 1 v (encE e).length ((encE e).map by1) ∧ Below wx.heap.size wx w') := fun wx => bytesE_ref e wx hm hf.2.2
    have hV : Hid (bytesE e = encE e) := by show _ = _; rw [bytesE, if_pos hm]
    have hI : Hid ((if mayE e = true then (0 : Int) else 1) = 0) := by show _ = _; rw [if_pos hm]
    rw [hm] at cM
    clear hm hf
    rw [hV.out, hI.out]
    obtain ⟨E, hE⟩ : ∃ E, encE e = E := ⟨_, rfl⟩
    rw [hE] at cB ⊢
    clear hE hV hI
    obtain ⟨k, s, b, t⟩ := e
    obtain ⟨slot, birth, us, ub, kind, user, label, scopes, level, born, deadline, depth⟩ := s
    unfold Evt.arr at cM cB hev hb0 ⊢
    simp only at cM cB hev hb0 ⊢
    obtain ⟨fu, hfu⟩ : ∃ f, tx user = f := ⟨_, rfl⟩
    obtain ⟨fl, hfl⟩ : ∃ f, tx label = f := ⟨_, rfl⟩
    simp only [hfu, hfl] at cM cB hev hb0 ⊢
    clear hfu hfl
    go_enter Tryd.func7, Tryd.ntmps7
    go_wp2_with fail
    refine cM.out.mono ?_
    rintro e x0 ⟨rfl, hb1⟩
    have he0 := (hb1.block w.heap.size (by simp)).trans hev.out
    have e0 := cell_of (j := 0) he0 rfl
    have e1 := cell_of (j := 1) he0 rfl
    have e2 := cell_of (j := 2) he0 rfl
    have e3 := cell_of (j := 3) he0 rfl
    have e4 := cell_of (j := 4) he0 rfl
    have e5 := cell_of (j := 5) he0 rfl
    have e6 := cell_of (j := 6) he0 rfl
    have e7 := cell_of (j := 7) he0 rfl
    have e8 := cell_of (j := 8) he0 rfl
    have e9 := cell_of (j := 9) he0 rfl
    have e10 := cell_of (j := 10) he0 rfl
    have e11 := cell_of (j := 11) he0 rfl
    have e12 := cell_of (j := 12) he0 rfl
    have e13 := cell_of (j := 13) he0 rfl
    have e14 := cell_of (j := 14) he0 rfl
    have HB1 := Hid.mk' (hb0.out.trans (hb1.mono hb0.out.size))
    clear hb1 he0 hev hb0 cM
    go_wp2_with fail
    refine (cB.out _).mono ?_
    rintro e x1 ⟨y1, rfl, ho1, hb1⟩
    have HO := Hid.mk' (own_mono ho1 HB1.out.size)
    have HB := Hid.mk' (HB1.out.trans (hb1.mono HB1.out.size))
    obtain ⟨ya1, yc1, rfl, _⟩ := Nm.own_shape ho1
    clear ho1 hb1 cB e0 e1 e2 e3 e4 e5 e6 e7 e8 e9 e10 e11 e12 e13 e14
    go_wp2
    go_ret2
    exact ⟨_, rfl, HO.out, HB.out⟩
  · have hm' : mayE e = false := by simpa using hm
    have hV : Hid (bytesE e = []) := by show _ = _; rw [bytesE, if_neg hm]
    have hI : Hid ((if mayE e = true then (0 : Int) else 1) = 1) := by show _ = _; rw [if_neg hm]
    rw [hm'] at cM
    clear hm hm' hf
    rw [hV.out, hI.out]
    clear hV hI
    obtain ⟨k, s, b, t⟩ := e
    obtain ⟨slot, birth, us, ub, kind, user, label, scopes, level, born, deadline, depth⟩ := s
    unfold Evt.arr at cM hev hb0 ⊢
    simp only at cM hev hb0 ⊢
    go_enter Tryd.func7, Tryd.ntmps7
    go_wp2_with fail
    refine cM.out.mono ?_
    rintro e x0 ⟨rfl, hb1⟩
    have HB1 := Hid.mk' (hb0.out.trans (hb1.mono hb0.out.size))
    clear hb1 hev hb0 cM
    go_wp2
    go_ret2
    exact ⟨_, rfl, World.ownsRow_nil _ _ _ _, HB1.out⟩
end Ev
end Go.Proofs.YtnllplholfhbdaaDoor
