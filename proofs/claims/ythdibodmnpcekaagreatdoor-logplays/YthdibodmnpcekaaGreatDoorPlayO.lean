import Derived.Test.YthdibodmnpcekaaGreatDoorPlayS
/- The power comes back, and both logs are opened again. -/
namespace Go.Proofs.YthdibodmnpcekaaGreatDoor
set_option linter.ambiguousOpen false
open Go.RowKit
namespace Lo
open Sm Ft Dk
set_option linter.unusedSimpArgs false
set_option linter.unusedVariables false

set_option maxRecDepth 100000 in
set_option maxHeartbeats 4000000 in
theorem same_rows (v1 v2 : Value) (L : List (List UInt8)) (w : World) (h1 : Rc.RdL w v1 L) (h2 : Rc.RdL w v2 L) :
    Calls Tryz.prog 33 #[v1, v2] w fun e w' => e = .returned (.bool true) ∧ Below w.heap.size w w' := by
  have H1 := Hid.mk' h1
  have H2 := Hid.mk' h2
  obtain ⟨n, hn⟩ : ∃ n, L.length = n := ⟨_, rfl⟩
  have HN := Hid.mk' hn
  obtain ⟨a1, c1, rfl, hc1, hm1, hx1⟩ := h1
  obtain ⟨a2, c2, rfl, hc2, hm2, hx2⟩ := h2
  rw [hn] at hc1 hc2 H1 H2 ⊢
  unfold maxLen at hm1 hm2
  have cS : Hid (∀ wx u1 u2 p, RdB wx u1 p → RdB wx u2 p → Calls Tryz.prog 55 #[u1, u2] wx fun e w' => e = .returned (.bool true) ∧ Below wx.heap.size wx w') := fun wx u1 u2 p q1 q2 => Pk.sameB_eq u1 u2 p wx q1 q2
  clear hx1 hx2 hn
  go_enter Tryz.func33, Tryz.ntmps33
  go_wp2
  go_loopw [5] (fun iv wr => ∃ k : Nat, k ≤ n ∧ iv = nu (k : Int) ∧ Hid (Below w.heap.size w wr)) (fun iv _ => n - (intOf iv).toNat)
  case atStart => exact ⟨0, Nat.zero_le _, rfl, Below.refl _ _⟩
  case round =>
  obtain ⟨k, hk, rfl, hB⟩ := hrel
  by_cases hkn : k < n
  · obtain ⟨p, hp⟩ : ∃ p, L[k]? = some p := ⟨L[k]'(by have := HN.out; omega), List.getElem?_eq_getElem _⟩
    obtain ⟨b1, d1, e1, _, _, q1⟩ := H1.out.below hB.out
    obtain ⟨b2, d2, e2, _, _, q2⟩ := H2.out.below hB.out
    obtain ⟨rfl, rfl⟩ : a1 = b1 ∧ c1 = d1 := by simp at e1; exact ⟨e1.1, e1.2.2⟩
    obtain ⟨rfl, rfl⟩ : a2 = b2 ∧ c2 = d2 := by simp at e2; exact ⟨e2.1, e2.2.2⟩
    obtain ⟨g1, o1, rfl, l1, y1⟩ := q1 (by have := HN.out; omega)
    obtain ⟨g2, o2, rfl, l2, y2⟩ := q2 (by have := HN.out; omega)
    obtain ⟨u1, f1, r1, _⟩ := y1 k p hp
    obtain ⟨u2, f2, r2, _⟩ := y2 k p hp
    have hkI : (k : Int) < (n : Int) := by omega
    have hk0 : (0 : Int) ≤ (k : Int) := by omega
    have C := Hid.mk' (show ∀ wx, Below wr.heap.size wr wx → Calls Tryz.prog 55 #[u1, u2] wx fun e w' => e = .returned (.bool true) ∧ (w'.cell? ⟨g1, o1 + k, none⟩ = some u1 ∧ w'.cell? ⟨g2, o2 + k, none⟩ = some u2) ∧ Below wr.heap.size wr w' from fun wx hx => by
      refine (cS.out wx u1 u2 p (r1.below hx) (r2.below hx)).mono ?_
      rintro e w' ⟨rfl, hb⟩
      have hbw : Below wr.heap.size wr w' := hx.trans (hb.mono hx.size)
      exact ⟨rfl, ⟨(hbw.cell (p := ⟨g1, o1 + k, none⟩) l1).trans f1, (hbw.cell (p := ⟨g2, o2 + k, none⟩) l2).trans f2⟩, hbw⟩)
    obtain ⟨s1, m1, rfl, _⟩ := r1
    obtain ⟨s2, m2, rfl, _⟩ := r2
    clear e1 e2 q1 q2 y1 y2 hp H1 H2
    go_upto_region 6 with fail
    go_cut [26] from 17 to 27 (fun r wx => r = .bool false ∧ Hid (Below w.heap.size w wx))
    case first =>
      go_wp2_with fail
      go_region_held3 (fun w' => w'.cell? ⟨g1, o1 + k, none⟩ = some (.slice s1 p.length m1) ∧ w'.cell? ⟨g2, o2 + k, none⟩ = some (.slice s2 p.length m2)) (first | assumption | exact ⟨f1, f2⟩ | go_keep) (first | (go_at_call 55; with_reducible refine (C.out _ ?hb).mono ?_; (case hb => (first | exact Below.refl _ _ | exact (Below.refl _ _).drew | fail)); rintro e w5 ⟨rfl, ⟨y1, y2⟩, hb5⟩) | fail)
      all_goals (go_wp2_with fail; go_meet; exact ⟨rfl, hB.out.trans (hb5.mono hB.out.size)⟩)
    case rest =>
      obtain ⟨rfl, hB2⟩ := hcut
      clear f1 f2 C
      go_wp2
      go_roundw
      case rel => exact ⟨k + 1, by omega, by go_num, hB2⟩
      case measure => simp [intOf]; omega
  · obtain rfl : k = n := by omega
    go_wp2
    go_ret
    exact ⟨rfl, hB.out⟩

theorem fit_may {l : Lg} {d : Dsk} (h : Fit l d) : may d l.at_ l.n = true := by
  have h1 := h.an
  exact decide_eq_true ⟨h.a0, h.n1, by omega⟩

theorem scan_le (ep : Nat) (T : List (List UInt8)) : (Rc.scan ep T).1.length ≤ T.length ∧ (Rc.scan ep T).2.2 ≤ T.length ∧ ∀ x ∈ (Rc.scan ep T).1, x.length ≤ 512 := by
  have h1 := Rc.scan_again ep T
  have h2 := (Rc.scan_recs ep T).1
  have h3 := Rc.recs_len ep T
  exact ⟨by omega, h1.1, h1.2.2.1⟩

set_option maxRecDepth 100000 in
set_option maxHeartbeats 8000000 in
theorem wopen_any {Rep : World → Nat → (Nat → Prop) → Dsk → Prop} (H : Says Rep) (SS : Rc.ScanC) (w wr : World) (B p q g m : Nat) (F G : Nat → Prop) (d : Dsk) (l : Lg) (τ : Nat → Nat) (ep : Nat) (hS : Sw Rep w wr B p q g m F G d l d l τ) (hE : Er.Handle w) (hf : Fit l d) (hs : Small d) (ht : d.tr.length ≤ 100000) (hep : ep < 4294967296) :
    Calls Tryz.prog 13 #[ptr B, .int .u32 (ep : Int)] wr fun e w' => e = .returned (.bool true) ∧ ∃ q' m' F' l' τ', Sw Rep w w' B p q' g m' F' G ⟨d.n, -1, d.tr⟩ l' ⟨d.n, -1, d.tr⟩ l' τ' ∧ Fit l' ⟨d.n, -1, d.tr⟩ ∧ l'.recs ≤ 4096 := by
  obtain ⟨N, hN⟩ : ∃ N : Nat, l.n = (N : Int) := ⟨l.n.toNat, by have := hf.n1; omega⟩
  have f1 := hf.an
  have f2 := hf.dn
  have f3 := hf.a0
  have f4 := hf.n1
  have hm : may ⟨d.n, -1, d.tr⟩ l.at_ (N : Int) = true := decide_eq_true ⟨f3, by omega, by simp only; omega⟩
  obtain ⟨S, hSc⟩ : ∃ S, Rc.scan ep (texts ⟨d.n, -1, d.tr⟩ l.at_ N) = S := ⟨_, rfl⟩
  have hle := scan_le ep (texts ⟨d.n, -1, d.tr⟩ l.at_ N)
  rw [hSc, texts_len] at hle
  have cR := Hid.mk' (H.restore wr p F d hS.rep)
  have cC : Hid (∀ wx e, RepR w.heap.size wx g G e → Calls Tryz.prog 21 #[ptr g, nu (-1)] wx fun r w' => (∃ u, r = .returned u) ∧ RepR w.heap.size w' g G ⟨e.n, -1, e.tr⟩ ∧ Keep G wx w') := fun wx e he => rcut w.heap.size wx g G e (-1) he
  have cO : Hid (∀ wx G, RepR w.heap.size wx g G ⟨d.n, -1, d.tr⟩ → Calls Tryz.prog 32 #[ptr g, nu l.at_, nu l.n, .int .u32 (ep : Int)] wx fun r w' => ∃ m2 a0 n0 c0, r = .returned (.tuple #[ptr m2, .slice a0 n0 c0, nu 0]) ∧ Ql w' m2 g ⟨l.at_, l.n, ep, S.2.2, S.1.length, false⟩ ∧ Rc.RdL w' (.slice a0 n0 c0) S.1 ∧ wx.heap.size ≤ m2 ∧ Below wx.heap.size wx w') := fun wx G he => by
    have := rlOpen_yes w.heap.size wx g G ⟨d.n, -1, d.tr⟩ l.at_ N ep he (by simp only; omega) (by omega) hm hep hs (by simp only; omega)
    rw [hSc, ← hN] at this
    exact this
  have cP : Hid (∀ wx F, Rep wx p F ⟨d.n, -1, d.tr⟩ → Calls Tryz.prog 9 #[ptr p, nu l.at_, nu l.n, .int .u32 (ep : Int)] wx fun r w' => ∃ q2 a0 c0 M vs, r = .returned (.tuple #[ptr q2, .slice a0 vs.length c0, .nilIface]) ∧ Told wx w' M q2 p ⟨l.at_, l.n, ep, S.2.2, S.1.length, false⟩ (.slice a0 vs.length c0) vs S.1) := fun wx F he => by
    have := open_yes H SS wx p F ⟨d.n, -1, d.tr⟩ l.at_ N ep he (by simp only; omega) (by omega) hm hep hs (by simp only; omega)
    rw [hSc, ← hN] at this
    refine this.mono ?_
    rintro e w' ⟨q2, r, M, vs, rfl, hT⟩
    obtain ⟨a0, c0, rfl, _⟩ := Nm.own_shape hT.out
    exact ⟨q2, a0, c0, M, vs, rfl, hT⟩
  have cQ : Hid (∀ wx, Er.Handle wx → Calls Tryz.prog 10 #[.nilIface, nu 0] wx fun e w' => e = .returned (.bool true) ∧ Below wx.heap.size wx w') := fun wx hg => plainL 0 (by decide) wx hg
  have cS : Hid (∀ wx v1 v2, Rc.RdL wx v1 S.1 → Rc.RdL wx v2 S.1 → Calls Tryz.prog 33 #[v1, v2] wx fun e w' => e = .returned (.bool true) ∧ Below wx.heap.size wx w') := fun wx v1 v2 h1 h2 => same_rows v1 v2 S.1 wx h1 h2
  have cA : Hid (∀ wx M r us, wx.ownsRow M 46 1 r us.length us → Rc.Rows wx M us S.1 → M ≤ wx.heap.size → Calls Tryz.prog 34 #[r] wx fun e w' => e = .returned (.bool true) ∧ Keep (Pk.Wb us) wx w') := fun wx M r us h1 h2 h3 => told_apart h1 h2 h3 (by have := h2.len; omega) hle.2.2
  have hfit : Hid (Fit ⟨l.at_, l.n, ep, S.2.2, S.1.length, false⟩ ⟨d.n, -1, d.tr⟩) := ⟨f3, f4, f1, f2, by simp only; omega, hep, by simp only; omega, by simp only; omega⟩
  have hrec : Hid (S.1.length ≤ 4096) := by show _ ≤ _; omega
  have HH := Hid.mk' H
  have HS := Hid.mk' hS
  have HE := Hid.mk' hE
  obtain ⟨b0, b1, b2, b3, bf⟩ := hS.cells
  clear hS hE hf hs ht hm hle hSc H SS f1 f2 f3 f4 hN
  go_enter Tryz.func13, Tryz.ntmps13
  go_wp2_with fail
  refine cR.out.mono ?_
  rintro e w1 ⟨⟨u1, rfl⟩, F1, r1, r2, r3⟩
  have hS1 := HS.out.turn1 HH.out r1 r2 r3
  have HS1 := Hid.mk' hS1
  obtain ⟨b0, b1, b2, b3, bf⟩ := hS1.cells
  have C2 := Hid.mk' (cC.out w1 d hS1.ref)
  clear r1 r2 r3 hS1 HS cR cC
  go_wp2_with fail
  refine C2.out.mono ?_
  rintro e w2 ⟨⟨u2, rfl⟩, r1, r2⟩
  have hS2 := HS1.out.turn2 HH.out r1 r2
  have HS2 := Hid.mk' hS2
  obtain ⟨b0, b1, b2, b3, bf⟩ := hS2.cells
  obtain ⟨m0, m1, m2, m3, m4, m5, m6, mf⟩ := hS2.ql.cells
  have hbl := hS2.blt
  have hml := hS2.ql.lt
  clear r1 r2 hS2 HS1 C2
  have hcel : Hid (∀ wx, Below w2.heap.size w2 wx → (wx.cell? ⟨B, 2, none⟩ = some (ptr g) ∧ wx.cell? ⟨B, 3, none⟩ = some (ptr m) ∧ wx.cell? ⟨m, 1, none⟩ = some (nu l.at_) ∧ wx.cell? ⟨m, 2, none⟩ = some (nu l.n))) := fun wx hb => ⟨(hb.cell (p := ⟨B, 2, none⟩) hbl).trans b2, (hb.cell (p := ⟨B, 3, none⟩) hbl).trans b3, (hb.cell (p := ⟨m, 1, none⟩) hml).trans m1, (hb.cell (p := ⟨m, 2, none⟩) hml).trans m2⟩
  have C3 : Hid (∀ wx, Below w2.heap.size w2 wx → Calls Tryz.prog 32 #[ptr g, nu l.at_, nu l.n, .int .u32 (ep : Int)] wx fun r w' => ∃ m2 a0 n0 c0, r = .returned (.tuple #[ptr m2, .slice a0 n0 c0, nu 0]) ∧ (w'.cell? ⟨B, 2, none⟩ = some (ptr g) ∧ w'.cell? ⟨B, 3, none⟩ = some (ptr m) ∧ w'.cell? ⟨m, 1, none⟩ = some (nu l.at_) ∧ w'.cell? ⟨m, 2, none⟩ = some (nu l.n)) ∧ Hid (Ql w' m2 g ⟨l.at_, l.n, ep, S.2.2, S.1.length, false⟩ ∧ Rc.RdL w' (.slice a0 n0 c0) S.1 ∧ w2.heap.size ≤ m2 ∧ Below w2.heap.size w2 w')) := fun wx hb => by
    refine (cO.out wx G (HS2.out.below HH.out hb).ref).mono ?_
    rintro e w' ⟨m2, a0, n0, c0, rfl, x1, x2, x3, x4⟩
    have hb' := below_fromS hb x4
    exact ⟨m2, a0, n0, c0, rfl, hcel.out w' hb', x1, x2, Nat.le_trans hb.size x3, hb'⟩
  have hS0 := hcel.out w2 (Below.refl _ _)
  go_upto_region 3 with fail
  go_wp2_with fail
  go_region_held3 (fun w' => w'.cell? ⟨B, 2, none⟩ = some (ptr g) ∧ w'.cell? ⟨B, 3, none⟩ = some (ptr m) ∧ w'.cell? ⟨m, 1, none⟩ = some (nu l.at_) ∧ w'.cell? ⟨m, 2, none⟩ = some (nu l.n)) (first | assumption | exact hS0 | go_keep) (first | (go_at_call 32; with_reducible refine (C3.out _ ?hb).mono ?_; (case hb => (first | exact Below.refl _ _ | exact (Below.refl _ _).drew | fail)); rintro e w3 ⟨q3, a3, n3, c3, rfl, hS3, hX3⟩) | fail)
  have hb23 := hX3.out.2.2.2
  have hcel2 : Hid (∀ wx, Below w2.heap.size w2 wx → (wx.cell? ⟨B, 0, none⟩ = some (ptr p) ∧ wx.cell? ⟨B, 3, none⟩ = some (ptr m) ∧ wx.cell? ⟨m, 1, none⟩ = some (nu l.at_) ∧ wx.cell? ⟨m, 2, none⟩ = some (nu l.n))) := fun wx hb => ⟨(hb.cell (p := ⟨B, 0, none⟩) hbl).trans b0, (hb.cell (p := ⟨B, 3, none⟩) hbl).trans b3, (hb.cell (p := ⟨m, 1, none⟩) hml).trans m1, (hb.cell (p := ⟨m, 2, none⟩) hml).trans m2⟩
  have C4 : Hid (∀ wx, Below w3.heap.size w3 wx → Calls Tryz.prog 9 #[ptr p, nu l.at_, nu l.n, .int .u32 (ep : Int)] wx fun r w' => ∃ q2 a0 n0 c0, r = .returned (.tuple #[ptr q2, .slice a0 n0 c0, .nilIface]) ∧ (w'.cell? ⟨B, 0, none⟩ = some (ptr p) ∧ w'.cell? ⟨B, 3, none⟩ = some (ptr m) ∧ w'.cell? ⟨m, 1, none⟩ = some (nu l.at_) ∧ w'.cell? ⟨m, 2, none⟩ = some (nu l.n)) ∧ Hid (∃ M vs, n0 = vs.length ∧ Told wx w' M q2 p ⟨l.at_, l.n, ep, S.2.2, S.1.length, false⟩ (.slice a0 vs.length c0) vs S.1 ∧ Below w3.heap.size w3 w' ∧ w3.heap.size ≤ q2)) := fun wx hb => by
    refine (cP.out wx F1 ((HS2.out.below HH.out hb23).below HH.out hb).rep).mono ?_
    rintro e w' ⟨q2, a0, c0, M, vs, rfl, hT⟩
    have hb' := below_fromS hb hT.bel
    exact ⟨q2, a0, _, c0, rfl, hcel2.out w' (below_fromS hb23 hb'), M, vs, rfl, hT, hb', Nat.le_trans hb.size hT.lo⟩
  have hS4 := hcel2.out w3 hb23
  have HX3 := Hid.mk' hX3.out
  clear hS0 hS3 hX3 C3 hcel cO b0 b1 b2 b3 bf m0 m1 m2 m3 m4 m5 m6 mf
  go_upto_region 4 with fail
  go_wp2_with fail
  go_region_held3 (fun w' => w'.cell? ⟨B, 0, none⟩ = some (ptr p) ∧ w'.cell? ⟨B, 3, none⟩ = some (ptr m) ∧ w'.cell? ⟨m, 1, none⟩ = some (nu l.at_) ∧ w'.cell? ⟨m, 2, none⟩ = some (nu l.n)) (first | assumption | exact hS4 | go_keep) (first | (go_at_call 9; with_reducible refine (C4.out _ ?hb).mono ?_; (case hb => (first | exact Below.refl _ _ | exact (Below.refl _ _).drew | fail)); rintro e w4 ⟨q4, a4, n4, c4, rfl, hS5, hX4⟩) | fail)
  obtain ⟨M, vs, rfl, hT, hb34, hlo4⟩ := hX4.out
  have HT := Hid.mk' hT
  have hb24 := below_fromS hb23 hb34
  have HB24 := Hid.mk' hb24
  have HB34 := Hid.mk' hb34
  have hS24 := HS2.out.below HH.out hb24
  have C5 := Hid.mk' (cQ.out w4 (HE.out.below hS24.bel))
  have HLO4 := Hid.mk' hlo4
  clear hS4 hS5 hX4 C4 cP hcel2 hT hb34 hb24 hlo4 hS24
  go_wp2_with fail
  refine C5.out.mono ?_
  rintro e w5 ⟨rfl, hb45⟩
  have C6 := Hid.mk' (cS.out w5 _ _ ((Rc.rows_rdl HT.out.out HT.out.rows).below hb45) ((HX3.out.2.1.below HB34.out).below hb45))
  have HB45 := Hid.mk' hb45
  clear C5 cQ cS hb45
  go_wp2_with fail
  refine C6.out.mono ?_
  rintro e w6 ⟨rfl, hb56⟩
  have hb46 := below_fromS HB45.out hb56
  have hb26 := below_fromS HB24.out hb46
  have hP6 : Pl w6 q4 p ⟨l.at_, l.n, ep, S.2.2, S.1.length, false⟩ := (hb46.block q4 HT.out.pl.lt).trans HT.out.pl
  have hQ6 : Ql w6 q3 g ⟨l.at_, l.n, ep, S.2.2, S.1.length, false⟩ := ((below_fromS HB34.out hb46).block q3 HX3.out.1.lt).trans HX3.out.1
  have hne : q4 ≠ q3 := fun e => by
    have h1 := HX3.out.1.lt
    have h2 := HLO4.out
    omega
  have hlo3 := HX3.out.2.2.1
  have hloq : w2.heap.size ≤ q4 := Nat.le_trans hb23.size HLO4.out
  obtain ⟨⟨e1, e2⟩, hSR⟩ := HS2.out.renew HH.out hb26 hP6 hQ6 hloq hlo3 hne
  obtain ⟨b0, b1, b2, b3, bf⟩ := wl_cells e1
  obtain ⟨y0, y1, y2, y3, yf⟩ := wl_cells e2
  have hbl6 := HS2.out.blt
  have hKB : Keep (fun k => k = B) w6 ((w6.setCell ⟨B, 1, none⟩ (ptr q4)).setCell ⟨B, 3, none⟩ (ptr q3)) := ((Keep.refl (fun k => k = B) w6).setCell (p := ⟨B, 1, none⟩) (.inl rfl) _).setCell (p := ⟨B, 3, none⟩) (.inl rfl) _
  have hMB : B < M := Nat.lt_of_lt_of_le hbl6 (Nat.le_trans hloq (Nat.le_of_lt HT.out.hi))
  have C7 := Hid.mk' (cA.out ((w6.setCell ⟨B, 1, none⟩ (ptr q4)).setCell ⟨B, 3, none⟩ (ptr q3)) M _ vs (hKB.own (ownB HT.out.out hb46) (fun b hb e => by have := (HT.out.out.lt b hb).1; omega)) ⟨HT.out.rows.len, fun j v x hj hx => hKB.own (ownB (HT.out.rows.own j v x hj hx) hb46) (fun b hb e => by have := ((HT.out.rows.own j v x hj hx).lt b hb).1; omega), HT.out.rows.apart⟩ (by
    have h2 := hKB.size
    have h3 := hb46.size
    have := HT.out.mle
    omega))
  have hmk : Hid (∀ k, Pk.Wb vs k → 6 ≤ (if k < w2.heap.size then (later w1 (later wr τ 1) 2) k else if k = q4 then 3 else if k = q3 then 4 else 8) ∧ w.heap.size ≤ k) := fun k hk => by
    obtain ⟨j, hj, hb⟩ := hk
    obtain ⟨x, hx⟩ := HT.out.rows.at_ (List.getElem_mem hj)
    have h1 := (hx.lt k hb).1
    have h2 := HT.out.hi
    have h3 := HX3.out.1.lt
    have h4 := HLO4.out
    have h5 := HS2.out.bel.size
    have h6 := hb23.size
    rw [if_neg (by omega), if_neg (by omega), if_neg (by omega)]
    exact ⟨by decide, by omega⟩
  have HSR := Hid.mk' hSR
  clear C6 hb56 hb46 hb26 hP6 hQ6 hSR hKB cA hMB e1 e2 hb23
  go_wp2_with fail
  refine C7.out.mono ?_
  rintro e w7 ⟨rfl, hk7⟩
  have HS7 := Hid.mk' (HSR.out.keep HH.out hk7 hmk.out)
  clear hk7 C7
  go_wp2
  go_ret
  exact ⟨rfl, _, _, _, _, _, HS7.out, hfit.out, hrec.out⟩
end Lo
end Go.Proofs.YthdibodmnpcekaaGreatDoor
