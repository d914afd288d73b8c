/- The program's Load; what the laws ask of the program. -/
import Derived.Test.YtlgjnefieflmbaaDoorAreI
import Derived.Test.YtlgjnefieflmbaaDoorMore13
namespace Go.Proofs.YtlgjnefieflmbaaDoor
set_option linter.ambiguousOpen false
open Go.RowKit
namespace Ae
open Sm Ft Dk Pk
set_option linter.unusedSimpArgs false
set_option linter.unusedVariables false

/-- What Load answers. -/
def AnsQ (A : Nat × Nat × List UInt8) (w : World) (e : Ending) (w' : World) : Prop := ∃ r, e = .returned (.tuple #[.int .u32 (A.2.1 : Int), r, errE A.1]) ∧ w'.ownsRow w.heap.size 5 1 r A.2.2.length (A.2.2.map by1) ∧ Below w.heap.size w w'

theorem ansq_no {A : Nat × Nat × List UInt8} {w : World} {e : Ending} {w' : World} (c : Nat) (hA : A = (c, 0, [])) (he : e = .returned (.tuple #[.int .u32 0, .slice none 0 0, errE c])) (hb : Below w.heap.size w w') : AnsQ A w e w' := by
  subst hA
  exact ⟨_, he, World.ownsRow_nil _ _ _ _, hb⟩

theorem dnA {b : Nat} {w w' : World} (h : Below b w w') (n : Nat) : Below b w (w'.drewN n) := ⟨h.os, h.tape, h.output, h.size, h.block⟩

theorem cutM (l : List UInt8) (j k : Nat) (hj : j ≤ k) (h : k ≤ l.length) (w : World) : (Instr.slice 9 (.string (tx l)) (some (.int .i64 (j : Int))) (some (.int .i64 (k : Int))) none).run Tryd.prog w = .ok (.string (tx ((l.drop j).take (k - j)))) w := by
  have hs : (tx l).size = l.length := rfl
  have e : (tx l).extract j k = tx ((l.drop j).take (k - j)) := by
    apply ByteArray.ext
    apply Array.ext'
    simp [ByteArray.extract, ByteArray.copySlice, tx, List.take_drop, hj]
  simp [Instr.slice, Instr.sliceBounds, Instr.sliceBound, asIntOf, run_underlying Tryd.underlying9]
  rw [hs]
  simp only [h, hj, if_true, and_self]
  rw [e]

theorem num4_cut (s : List UInt8) (k : Nat) : num4 ((s.drop k).take 4) 0 = num4 s k := by
  unfold num4
  rw [List.drop_zero, List.take_take, Nat.min_self]

set_option maxRecDepth 100000 in
set_option maxHeartbeats 4000000 in
theorem load_any {Rep : World → Nat → (Nat → Prop) → Dsk → Prop} (H : Says Rep) : LoadC Rep := by
  intro w p F d a n hR hN ht ha hn
  show Calls _ _ _ _ (AnsQ (load d a n) w)
  have c1 := Hid.mk' (mayBe_p H w p F d a n hR ⟨hN.n1, hN.n2⟩ ha hn)
  have HH := Hid.mk' H
  have HR := Hid.mk' hR
  have HNb := Hid.mk' hN
  have hdn := hN.n2
  cases hm : may d a n with
  | false =>
    rw [hm] at c1
    have hA : Hid (load d a n = (1, 0, [])) := by
      show _ = _
      rw [load, if_neg (by rw [hm]; decide)]
    clear hR hm H hN
    go_enter Tryd.func38, Tryd.ntmps38
    go_wp2_with fail
    refine c1.out.mono ?_
    rintro e w1 ⟨rfl, hb⟩
    have HB := Hid.mk' hb
    clear hb c1
    go_wp2
    go_ret3
    exact ansq_no 1 hA.out rfl HB.out
  | true =>
    rw [hm] at c1
    obtain ⟨m1, m2, m3⟩ := may_out hm
    have c2 : Hid (∀ wx, Below w.heap.size w wx → Calls Tryd.prog 61 #[ptr p, nu a] wx fun e w' => e = .returned (.tuple #[.string (tx (rdT d a)), .nilIface]) ∧ Below wx.heap.size wx w') := fun wx hx => by
      have := HH.out.read wx p F d a (HH.out.keep HR.out (Keep.of_below (F := fun _ => False) hx) (fun _ _ h => h)) ht (by omega)
      rw [show rdN d a = 0 by unfold rdN; rw [if_pos (by omega)]] at this
      exact this
    obtain ⟨s, hs⟩ : ∃ s, rdT d a = s := ⟨_, rfl⟩
    rw [hs] at c2
    have hsl := hN.sm.read a
    rw [hs] at hsl
    have hL : load d a n = if s = [] then (10, 0, []) else if s.length ≠ 16 then (21, 0, []) else if n * 256 < (num4 s 4 : Int) then (21, 0, []) else told (num4 s 0) s (lie d (fst a n (num4 s 0)) (num4 s 4)) := by
      rw [load, if_pos hm, hs]
    have hsz : (tx s).size = s.length := rfl
    by_cases hnil : s = []
    · rw [if_pos hnil] at hL
      have HL := Hid.mk' hL
      rw [hnil] at c2
      clear hR hm hL hs H hN
      go_enter Tryd.func38, Tryd.ntmps38
      go_wp2_with fail
      refine c1.out.mono ?_
      rintro e w1 ⟨rfl, hb⟩
      have HB := Hid.mk' hb
      clear hb c1
      go_wp2_with fail
      refine (c2.out _ HB.out).mono ?_
      rintro e w2 ⟨rfl, hb⟩
      have HB2 : Hid (Below w.heap.size w w2) := HB.out.trans (hb.mono HB.out.size)
      clear hb c2
      go_wp2
      go_ret3
      exact ansq_no 10 HL.out rfl HB2.out
    rw [if_neg hnil] at hL
    have hne0 : (tx s).toList.isEmpty = false := by
      rw [tx_list]
      cases s with
      | nil => exact absurd rfl hnil
      | cons _ _ => rfl
    by_cases h16 : s.length ≠ 16
    · rw [if_pos h16] at hL
      have HL := Hid.mk' hL
      clear hR hm hL hs H hN
      generalize tx s = f at *
      have h16I : ((f.size : Int) == 16) = false := by simp; omega
      go_enter Tryd.func38, Tryd.ntmps38
      go_wp2_with fail
      refine c1.out.mono ?_
      rintro e w1 ⟨rfl, hb⟩
      have HB := Hid.mk' hb
      clear hb c1
      go_wp2_with fail
      refine (c2.out _ HB.out).mono ?_
      rintro e w2 ⟨rfl, hb⟩
      have HB2 : Hid (Below w.heap.size w w2) := HB.out.trans (hb.mono HB.out.size)
      clear hb c2
      go_wp2
      go_ret3
      exact ansq_no 21 HL.out rfl HB2.out
    rw [if_neg h16] at hL
    have h16' : s.length = 16 := by omega
    have k1 := fun wx => cutM s 0 4 (by omega) (by omega) wx
    have k2 := fun wx => cutM s 4 8 (by omega) (by omega) wx
    simp only [Int.cast_ofNat_Int, Nat.reduceSub] at k1 k2
    have c3 : Hid (∀ wx, Calls Tryd.prog 62 #[.string (tx ((s.drop 0).take 4))] wx fun e w' => e = .returned (.int .u32 (num4 s 0 : Int)) ∧ ∃ n, w' = wx.drewN n) := fun wx => by
      rw [← num4_cut s 0]
      exact number_p _ wx (by rw [List.length_take, List.length_drop]; omega)
    have c4 : Hid (∀ wx, Calls Tryd.prog 62 #[.string (tx ((s.drop 4).take 4))] wx fun e w' => e = .returned (.int .u32 (num4 s 4 : Int)) ∧ ∃ n, w' = wx.drewN n) := fun wx => by
      rw [← num4_cut s 4]
      exact number_p _ wx (by rw [List.length_take, List.length_drop]; omega)
    have hE := num4_lt s 0
    have hZ := num4_lt s 4
    obtain ⟨E, hEe⟩ : ∃ E, num4 s 0 = E := ⟨_, rfl⟩
    obtain ⟨Z, hZe⟩ : ∃ Z, num4 s 4 = Z := ⟨_, rfl⟩
    rw [hEe] at c3 hE hL
    rw [hZe] at c4 hZ hL
    have h16B : (((tx s).size : Int) == 16) = true := by rw [hsz, h16']; rfl
    generalize tx ((s.drop 0).take 4) = g1 at *
    generalize tx ((s.drop 4).take 4) = g2 at *
    by_cases hbig : n * 256 < (Z : Int)
    · rw [if_pos hbig] at hL
      have HL := Hid.mk' hL
      clear hR hm hL hs h16 h16' hEe hZe H hN
      generalize tx s = f at *
      go_enter Tryd.func38, Tryd.ntmps38
      go_wp2_with fail
      refine c1.out.mono ?_
      rintro e w1 ⟨rfl, hb⟩
      have HB := Hid.mk' hb
      clear hb c1
      go_wp2_with fail
      refine (c2.out _ HB.out).mono ?_
      rintro e w2 ⟨rfl, hb⟩
      have HB2 : Hid (Below w.heap.size w w2) := HB.out.trans (hb.mono HB.out.size)
      clear hb c2
      go_wp2_with fail
      go_quiet (first | (go_at_call 62; with_reducible exact Calls.quiet_of (c3.out _)) | (go_at_call 62; with_reducible exact Calls.quiet_of (c4.out _)))
      go_wp2
      go_ret3
      exact ansq_no 21 HL.out rfl (dnA HB2.out _)
    rw [if_neg hbig] at hL
    have c5 : Hid (∀ wx, Calls Tryd.prog 45 #[nu a, nu n, .int .u32 (E : Int)] wx fun e w' => e = .returned (nu (fst a n E)) ∧ Below wx.heap.size wx w') := fun wx => first_p a n E wx (by omega) (by omega) hE
    have hfi := fst_in a n E n.toNat m2 (by omega)
    obtain ⟨b, hb⟩ : ∃ b : Int, fst a n E = b := ⟨_, rfl⟩
    rw [hb] at c5 hfi hL
    obtain ⟨f1, f2⟩ := hfi
    have c6 : Hid (∀ wx, Below w.heap.size w wx → Calls Tryd.prog 63 #[ptr p, nu b, nu (Z : Int)] wx (AnsG (lie d b Z) Z wx)) := fun wx hx => gather_p HH.out wx p F d b Z (HH.out.keep HR.out (Keep.of_below (F := fun _ => False) hx) (fun _ _ h => h)) ht hdn (by omega) (by omega) HNb.out.sm
    have hZl : (Z : Int) ≤ 1048576 := by omega
    have c7 : Hid (∀ wx r x, x.length ≤ Z → RdB wx r x → Calls Tryd.prog 46 #[.int .u32 (E : Int), r] wx fun e w' => e = .returned (.string (tx (hdr E x))) ∧ Below wx.heap.size wx w') := fun wx r x h0 h1 => header_p E r x wx h1 hE (by omega)
    -- what is told of the bytes that were gathered
    have hT : Hid (∀ x, (lie d b Z = some x ∨ lie d b Z = none ∧ x.length < Z) → x.length ≤ Z ∧ (hdr E x = s → load d a n = (0, E, x)) ∧ (hdr E x ≠ s → load d a n = (21, 0, []))) := fun x hx => by
      rcases hx with hx | ⟨hx, hl⟩
      · have hxl := lie_len d Z b Z x (Nat.le_refl _) hx
        rw [hx, told] at hL
        exact ⟨by omega, fun e => by rw [hL, if_pos e], fun e => by rw [hL, if_neg e]⟩
      · rw [hx, told] at hL
        refine ⟨by omega, fun e => ?_, fun _ => hL⟩
        have := hdr_size E x (by omega)
        rw [e, hZe] at this
        omega
    have HTX : Hid (∀ y : List UInt8, ((tx s).toList == (tx y).toList) = decide (y = s)) := fun y => by
      rw [tx_list, tx_list]
      by_cases h : y = s
      · subst h
        simp
      · rw [decide_eq_false h]
        simp
        exact fun e => h e.symm
    clear hR hm hL hs h16 h16' hEe hZe H hN hb
    generalize tx s = f at *
    go_enter Tryd.func38, Tryd.ntmps38
    go_wp2_with fail
    refine c1.out.mono ?_
    rintro e w1 ⟨rfl, hb⟩
    have HB := Hid.mk' hb
    clear hb c1
    go_wp2_with fail
    refine (c2.out _ HB.out).mono ?_
    rintro e w2 ⟨rfl, hb⟩
    have HB2 : Hid (Below w.heap.size w w2) := HB.out.trans (hb.mono HB.out.size)
    clear hb c2
    go_wp2_with fail
    go_quiet (first | (go_at_call 62; with_reducible exact Calls.quiet_of (c3.out _)) | (go_at_call 62; with_reducible exact Calls.quiet_of (c4.out _)))
    clear c3 c4 k1 k2
    go_wp2_with fail
    refine (c5.out _).mono ?_
    rintro e w3 ⟨rfl, hb3⟩
    have HB3 : Hid (Below w.heap.size w w3) := (dnA HB2.out _).trans (hb3.mono (dnA HB2.out _).size)
    clear hb3 c5
    go_wp2_with fail
    refine (c6.out w3 HB3.out).mono ?_
    rintro e w4 ⟨x, r, rfl, ho, hb4, hx⟩
    have HB4 : Hid (Below w.heap.size w w4) := HB3.out.trans (hb4.mono HB3.out.size)
    obtain ⟨t0, t1, t2⟩ := hT.out x hx
    have C7 := Hid.mk' (c7.out w4 r x t0 (own_rd ho))
    have HO4 := Hid.mk' (own_mono ho HB3.out.size)
    obtain ⟨ar, kr, rfl, _⟩ := Nm.own_shape ho
    have hcmp := HTX.out (hdr E x)
    clear hb4 hx ho c7 c6 hT t0
    by_cases hq : hdr E x = s
    · have HL := Hid.mk' (t1 hq)
      rw [decide_eq_true hq] at hcmp
      clear t1 t2 hq
      generalize tx (hdr E x) = f2 at *
      go_wp2_with fail
      refine C7.out.mono ?_
      rintro e w5 ⟨rfl, hb5⟩
      have HB5 : Hid (Below w.heap.size w w5) := HB4.out.trans (hb5.mono HB4.out.size)
      have HO5 := Hid.mk' ((Keep.of_below (F := fun _ => False) hb5).own HO4.out (fun _ _ h => h))
      clear hb5 C7
      go_wp2
      go_ret3
      rw [HL.out]
      exact ⟨_, rfl, HO5.out, HB5.out⟩
    · have HL := Hid.mk' (t2 hq)
      rw [decide_eq_false hq] at hcmp
      clear t1 t2 hq
      generalize tx (hdr E x) = f2 at *
      go_wp2_with fail
      refine C7.out.mono ?_
      rintro e w5 ⟨rfl, hb5⟩
      have HB5 : Hid (Below w.heap.size w w5) := HB4.out.trans (hb5.mono HB4.out.size)
      clear hb5 C7
      go_wp2
      go_ret3
      exact ansq_no 21 HL.out rfl HB5.out

theorem save_p : SaveC Pd.Rep := save_any Pd.says

theorem load_p : LoadC Pd.Rep := load_any Pd.says
end Ae
end Go.Proofs.YtlgjnefieflmbaaDoor
