import Derived.Test.YthdibodmnpcekaaGreatDoorLogR
import Derived.Test.YthdibodmnpcekaaGreatDoorLadM
/- The document's Open. -/
namespace Go.Proofs.YthdibodmnpcekaaGreatDoor
set_option linter.ambiguousOpen false
open Go.RowKit
namespace Lo
open Sm Ft Dk
set_option linter.unusedSimpArgs false
set_option linter.unusedVariables false

set_option maxRecDepth 100000 in
theorem rlOpen_no (base : Nat) (w : World) (p : Nat) (F : Nat → Prop) (d : Dsk) (a n : Int) (ep : Nat) (hR : RepR base w p F d) (hd : 1 ≤ d.n ∧ d.n ≤ 4096) (ha : a ≤ 9223372036854775807) (hm : may d a n = false) :
    Calls Tryz.prog 32 #[ptr p, nu a, nu n, .int .u32 (ep : Int)] w fun e w' => e = .returned (.tuple #[.pointer none, .slice none 0 0, nu 1]) ∧ w' = w := by
  have c1 := Hid.mk' (rlNew_no base w p F d a n ep hR hd ha hm)
  clear hR hm
  go_enter Tryz.func32, Tryz.ntmps32
  go_wp2_with fail
  refine c1.out.mono ?_
  rintro e w1 ⟨rfl, hw⟩
  subst w1
  clear c1
  go_wp2
  go_ret3
  exact ⟨rfl, rfl⟩

set_option maxRecDepth 100000 in
set_option maxHeartbeats 4000000 in
theorem rlOpen_yes (base : Nat) (w : World) (p : Nat) (F : Nat → Prop) (d : Dsk) (a : Int) (n : Nat) (ep : Nat) (hR : RepR base w p F d) (hd : 1 ≤ d.n ∧ d.n ≤ 4096) (ha : a ≤ 9223372036854775807) (hm : may d a (n : Int) = true) (hep : ep < 4294967296) (hs : Small d) (ht : d.tr.length ≤ 1000000) :
    Calls Tryz.prog 32 #[ptr p, nu a, nu (n : Int), .int .u32 (ep : Int)] w fun e w' => ∃ q a0 n0 c0, e = .returned (.tuple #[ptr q, .slice a0 n0 c0, nu 0]) ∧ Ql w' q p ⟨a, (n : Int), ep, (Rc.scan ep (texts d a n)).2.2, (Rc.scan ep (texts d a n)).1.length, false⟩ ∧ Rc.RdL w' (.slice a0 n0 c0) (Rc.scan ep (texts d a n)).1 ∧ w.heap.size ≤ q ∧ Below w.heap.size w w' := by
  obtain ⟨i0, ji, hz0, hz1, hz2⟩ := info_parts info_str
  have c1 := Hid.mk' (rlNew_yes base w p F d a (n : Int) ep hR hd ha hm)
  have hmm : 0 ≤ a ∧ 1 ≤ (n : Int) ∧ (n : Int) ≤ d.n - a := of_decide_eq_true hm
  have HR := Hid.mk' hR
  obtain ⟨T, hT⟩ : ∃ T, texts d a n = T := ⟨_, rfl⟩
  have HT := Hid.mk' hT
  obtain ⟨S, hS⟩ : ∃ S, Rc.scan ep T = S := ⟨_, rfl⟩
  rw [hT, hS]
  have cS : Hid (∀ wx v, Nm.Rd wx v T → Calls Tryz.prog 54 #[.int .u32 (ep : Int), v] wx fun e w' => ∃ ov pv vs, e = .returned (.tuple #[ov, pv, nu (S.2.2 : Int)]) ∧ Rc.Sc wx w' S.1 S.2.1 ov pv vs) := fun wx v hv => by
    have := Rc.refscan ep v T wx hep hv (by rw [← hT, texts_len]; omega) (fun t ht => by
      rw [← hT] at ht
      have := texts_small hs a n t ht
      omega)
    rw [hS] at this
    exact this
  clear hR hm hs hT hS
  go_enter Tryz.func32, Tryz.ntmps32
  go_wp2_with fail
  refine c1.out.mono ?_
  rintro e w1 ⟨q, rfl, hP, hlo, hb⟩
  have HB1 := Hid.mk' hb
  have HP1 := Hid.mk' hP
  have HLO := Hid.mk' hlo
  clear hb hP hlo c1
  go_wp2
  go_loopw [13, 14, 15, 16] (fun bv iv _ _ wr => ∃ k : Nat, k ≤ n ∧ iv = nu (k : Int) ∧ Hid (wr.ownsRow w1.heap.size 9 1 bv k ((texts d a k).map Nm.txt)) ∧ Hid (Below w1.heap.size w1 wr)) (fun _ iv _ _ _ => n - (intOf iv).toNat)
  case atStart => exact ⟨0, Nat.zero_le _, rfl, World.ownsRow_nil _ _ _ _, Below.refl _ _⟩
  case round =>
    obtain ⟨k, hk, rfl, hRw, hBw⟩ := hrel
    by_cases hkn : k < n
    · have C : Hid (Calls Tryz.prog 53 #[ptr p, nu (a + (k : Int))] wr fun e w' => e = .returned (.tuple #[.string (tx (rdT d (a + (k : Int)))), nu 0]) ∧ w' = wr) := by
        have := rread base wr p F d (a + (k : Int)) ((HR.out.below HB1.out).below hBw.out) ht
        rw [show rdN d (a + (k : Int)) = 0 by unfold rdN; rw [if_pos (by omega)]] at this
        exact this
      have hset : Hid ((texts d a (k + 1)).map Nm.txt = (texts d a k).map Nm.txt ++ [.string (tx (rdT d (a + (k : Int))))]) := by
        show _ = _
        rw [texts_succ, List.map_append]
        rfl
      have hkI : (k : Int) < (n : Int) := by omega
      have hak : a + (k : Int) ≤ 4096 := by omega
      have hmx : Hid (k + 1 ≤ maxLen) := by show _ ≤ _; unfold maxLen; omega
      have hby : Hid ((k + 1) * 16 ≤ 140737488355328) := by show _ ≤ _; omega
      generalize tx (rdT d (a + (k : Int))) = f at *
      have ho := hRw.out.alloc (.cells #[.string f] 9)
      have HO := Hid.mk' ho
      have hbs : Hid (w1.heap.size ≤ (wr.alloc (.cells #[.string f] 9)).heap.size) := by show _ ≤ _; have := hBw.out.size; simp; omega
      have HBA : Hid (Below w1.heap.size w1 (wr.alloc (.cells #[.string f] 9))) := hBw.out.alloc hBw.out.size _
      clear ho
      go_wp2_with fail
      refine C.out.mono ?_
      rintro e w3 ⟨rfl, hw⟩
      subst w3
      clear C
      go_wp2_with (at_builtin; refine wpList_append_own _ rfl _ _ 63 rfl w1.heap.size 9 i0 (.string ⟨#[]⟩) 1 16 Tryz.underlying63 ji hz0 hz1 hz2 rfl (by decide) _ _ _ rfl HO.out ⟨wr.heap.size, 0, none⟩ 1 1 [.string f] rfl rfl (cell_one_new _ _ _) (by simp [Value.oneCell']) hmx.out hby.out hbs.out ?_; intro v' w4 hown4 hgrow _; have HO4 := Hid.mk' hown4; have HB4 := Hid.mk' (Below.grown HBA.out hgrow hbs.out (fun j hj => (hRw.out.lt j hj).1)); clear hown4 hgrow)
      go_roundw
      case rel => exact ⟨k + 1, by omega, by go_num, by show World.ownsRow _ _ _ _ _ _ _; rw [hset.out]; exact HO4.out, HB4⟩
      case measure => simp [intOf]; omega
    · obtain rfl : k = n := by omega
      have h5 := hRw.out
      rw [HT.out] at h5
      obtain ⟨ab, cb, rfl, _⟩ := Nm.own_shape h5
      have hRd : Nm.Rd wr (.slice ab k cb) T := by
        have hl : T.length = k := by rw [← HT.out, texts_len]
        exact Nm.rd_own (by rw [hl]; exact h5)
      have C := Hid.mk' (cS.out wr _ hRd)
      clear hRd cS h5
      go_wp2_with fail
      refine C.out.mono ?_
      rintro e w3 ⟨ov, pv, vs, rfl, hsc⟩
      have hlen := hsc.len
      have hrl : Rc.RdL w3 ov S.1 := Rc.reads_rdl hsc.out ⟨hsc.len, fun j v x hj hx => ⟨(hsc.row j v x hj hx).rd, (hsc.row j v x hj hx).nz⟩⟩
      have hnz : Hid (∀ W, Below w3.heap.size w3 W → Rc.RdL W ov S.1) := fun W hW => hrl.below hW
      have hol : ∀ g, ov.ownBlock = some g → wr.heap.size ≤ g := fun g hg => (hsc.out.lt g hg).1
      obtain ⟨ar, cr, rfl, _⟩ := Nm.own_shape hsc.out
      have hb13 : Below w1.heap.size w1 w3 := hBw.out.trans (hsc.bel.mono hBw.out.size)
      have hP3 : Ql w3 q p ⟨a, (k : Int), ep, 0, 0, false⟩ := (hb13.block q HP1.out.lt).trans HP1.out
      obtain ⟨z0, z1, z2, z3, z4, z5, z6, zf⟩ := hP3.cells
      have hP4 : Ql (w3.setCell ⟨q, 4, none⟩ (nu (S.2.2 : Int))) q p ⟨a, (k : Int), ep, S.2.2, 0, false⟩ := heap_setCell_same _ q 4 _ _ _ hP3
      obtain ⟨y0, y1, y2, y3, y4, y5, y6, yf⟩ := hP4.cells
      have hP5 : Ql ((w3.setCell ⟨q, 4, none⟩ (nu (S.2.2 : Int))).setCell ⟨q, 5, none⟩ (nu (vs.length : Int))) q p ⟨a, (k : Int), ep, S.2.2, S.1.length, false⟩ := by
        rw [hlen]
        exact heap_setCell_same _ q 5 _ _ _ hP4
      have hK : Keep (fun k => k = q) w3 ((w3.setCell ⟨q, 4, none⟩ (nu (S.2.2 : Int))).setCell ⟨q, 5, none⟩ (nu (vs.length : Int))) := ((Keep.refl (fun k => k = q) w3).setCell (p := ⟨q, 4, none⟩) (.inl rfl) _).setCell (p := ⟨q, 5, none⟩) (.inl rfl) _
      have hqB : q < wr.heap.size := Nat.lt_of_lt_of_le HP1.out.lt hBw.out.size
      have HRL : Hid (Rc.RdL ((w3.setCell ⟨q, 4, none⟩ (nu (S.2.2 : Int))).setCell ⟨q, 5, none⟩ (nu (vs.length : Int))) (.slice ar vs.length cr) S.1) := by
        refine Rc.reads_rdl (hK.own hsc.out (fun b hb e => ?_)) ⟨hsc.len, fun j v x hj hx => ⟨?_, (hsc.row j v x hj hx).nz⟩⟩
        · have := (hsc.out.lt b hb).1
          omega
        · have hr := hsc.row j v x hj hx
          obtain ⟨a1, c1, e1, e2, e3, e4⟩ := hr.rd
          refine ⟨a1, c1, e1, e2, e3, fun h0 => ?_⟩
          obtain ⟨g, o, f1, f2, f3⟩ := e4 h0
          have hgq : g ≠ q := fun e => by
            have hgb : v.ownBlock = some g := by
              rw [e1, f1]
              rfl
            have := (hr.lt g hgb).1
            omega
          exact ⟨g, o, f1, Nat.lt_of_lt_of_le f2 hK.size, fun j hj => (hK.cell (p := ⟨g, o + j, none⟩) f2 hgq).trans (f3 j hj)⟩
      have HBE : Hid (Below w.heap.size w ((w3.setCell ⟨q, 4, none⟩ (nu (S.2.2 : Int))).setCell ⟨q, 5, none⟩ (nu (vs.length : Int)))) := by
        have hb3w : Below w.heap.size w w3 := HB1.out.trans (hb13.mono HB1.out.size)
        exact (hb3w.setCell (p := ⟨q, 4, none⟩) HLO.out _).setCell (p := ⟨q, 5, none⟩) HLO.out _
      have HP5 := Hid.mk' hP5
      clear C hsc hrl hnz hol hb13 hP3 hP4 hP5 hK hqB hlen
      go_wp2
      go_ret3
      exact ⟨q, _, _, _, rfl, HP5.out, HRL.out, HLO.out, HBE.out⟩
end Lo
end Go.Proofs.YthdibodmnpcekaaGreatDoor
