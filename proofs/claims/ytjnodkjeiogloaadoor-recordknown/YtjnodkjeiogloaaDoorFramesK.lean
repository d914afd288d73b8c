/- RecordFrames. -/
import Derived.Test.YtjnodkjeiogloaaDoorSayD
namespace Go.Proofs.YtjnodkjeiogloaaDoor
set_option linter.ambiguousOpen false
open Go.RowKit
namespace Rc
open Sm Pk
set_option linter.unusedSimpArgs false
set_option linter.unusedVariables false

set_option maxRecDepth 100000 in
set_option maxHeartbeats 4000000 in
theorem frames_yes (S : FrameC) (ep : Nat) (v : Value) (p : List UInt8) (w : World) (hep : ep < 4294967296) (hR : RdB w v p) (hz : Nz v) (hl : p.length ≤ 140737488351232) (hg : Er.Handle w) :
    Calls Tryd.prog 3 #[.int .u32 (ep : Int), v] w fun e w' => e = .returned (.bool true) ∧ Below w.heap.size w w' := by
  have c1 := Hid.mk' (lentB_any v p w hR hl)
  obtain ⟨no, hno⟩ : ∃ n : Nat, (if 512 < p.length then 3 else 0) = n := ⟨_, rfl⟩
  have hnl : no ≤ 24 := by
    rw [← hno]
    split <;> omega
  obtain ⟨F, hF⟩ : ∃ x, framed ep p = x := ⟨_, rfl⟩
  have hFl : F.length ≤ 3 := by
    rw [← hF]
    exact framed_len ep p
  obtain ⟨E, hE⟩ : ∃ x, errE no = x := ⟨_, rfl⟩
  obtain ⟨nI, hnI⟩ : ∃ x : Int, (no : Int) = x := ⟨_, rfl⟩
  obtain ⟨nf, hnf⟩ : ∃ x : Nat, F.length = x := ⟨_, rfl⟩
  have cF : Hid (∀ wx u, RdB wx u p → Nz u → Calls Tryd.prog 6 #[.int .u32 (ep : Int), u] wx fun e w' => ∃ r, e = .returned (.tuple #[r, E]) ∧ w'.ownsRow wx.heap.size 9 1 r nf (F.map Nm.txt) ∧ Below wx.heap.size wx w') := fun wx u hu hzu => by
    have := S wx ep u p hep hu hzu hl
    rw [hno, hF, hE, hnf] at this
    exact this
  have cR : Hid (∀ wx, RdB wx v p → Calls Tryd.prog 7 #[.int .u32 (ep : Int), v] wx fun e w' => ∃ r, e = .returned (.tuple #[r, .int .i64 nI]) ∧ w'.ownsRow wx.heap.size 9 1 r nf (F.map Nm.txt) ∧ Below wx.heap.size wx w') := fun wx hu => by
    have := refframe ep v p wx hep hu hz hl
    rw [hno, hF, hnI, hnf] at this
    exact this
  have cP : Hid (∀ wx, Er.Handle wx → Calls Tryd.prog 9 #[E, .int .i64 nI] wx fun e w' => e = .returned (.bool true) ∧ Below wx.heap.size wx w') := fun wx hgx => by
    have := plainR no hnl wx hgx
    rw [hE, hnI] at this
    exact this
  have cS : Hid (∀ wx u1 u2, Nm.Rd wx u1 F → Nm.Rd wx u2 F → Calls Tryd.prog 8 #[u1, u2] wx fun e w' => e = .returned (.bool true) ∧ Below wx.heap.size wx w') := fun wx u1 u2 h1 h2 => by
    refine (Nm.same_l u1 u2 F F wx h1 h2).mono ?_
    rintro e w' ⟨rfl, m, rfl⟩
    rw [decide_eq_true rfl]
    exact ⟨rfl, below_dn (Below.refl _ _) m⟩
  have HNF := Hid.mk' hnf
  have HR := Hid.mk' hR
  have HG := Hid.mk' hg
  have hNFl : nf ≤ 3 := by omega
  obtain ⟨av, cv, rfl, _⟩ := hR
  have HL := Hid.mk' hl
  obtain ⟨np, hnp⟩ : ∃ x, p.length = x := ⟨_, rfl⟩
  have HNP := Hid.mk' hnp
  clear hno hF hE hnI hnf hg hz hl hFl
  rw [hnp] at c1 HR cR ⊢
  clear hnp
  go_enter Tryd.func3, Tryd.ntmps3
  go_wp2_with fail
  refine c1.out.mono ?_
  rintro e x1 ⟨g, cap, rfl, hcap, hcm, hown, hb⟩
  have hgl : g < x1.heap.size := (hown.lt g rfl).2
  have HOW := Hid.mk' hown
  have HB1 := Hid.mk' hb
  have HLR : Hid (RdB x1 (.slice (some ⟨g, 0, none⟩) np cap) p) := by
    have h1 := HNP.out
    subst h1
    exact rdB_lent hown hcap hcm hgl
  have HLZ : Hid (Nz (.slice (some ⟨g, 0, none⟩) np cap)) := .inr ⟨_, _, _, rfl⟩
  have HCP := Hid.mk' hcap
  have HCM := Hid.mk' hcm
  have HGL := Hid.mk' hgl
  clear hown hb hcap hcm hgl c1
  go_wp2_with fail
  refine (cF.out _ _ HLR.out HLZ.out).mono ?_
  rintro e x2 ⟨r2, rfl, ho2, hb2⟩
  have HO2 := Hid.mk' ho2
  have HB2 := Hid.mk' hb2
  obtain ⟨a2, c2, rfl, _⟩ := Nm.own_shape ho2
  clear ho2 hb2
  go_wp2_with fail
  refine (cF.out _ _ (HLR.out.below HB2.out) HLZ.out).mono ?_
  rintro e x3 ⟨r3, rfl, ho3, hb3⟩
  have HO3 := Hid.mk' ho3
  have HB3 := Hid.mk' (HB2.out.trans (hb3.mono HB2.out.size))
  have HO23 := Hid.mk' (own_keptB HO2.out hb3)
  obtain ⟨a3, c3, rfl, _⟩ := Nm.own_shape ho3
  clear ho3 hb3
  go_wp2_with fail
  refine (cR.out _ (HR.out.below (HB1.out.trans (HB3.out.mono HB1.out.size)))).mono ?_
  rintro e x4 ⟨r4, rfl, ho4, hb4⟩
  have HB4 := Hid.mk' (HB3.out.trans (hb4.mono HB3.out.size))
  have HO24 := Hid.mk' (own_keptB HO23.out hb4)
  have HO34 := Hid.mk' (own_keptB HO3.out hb4)
  have HD2 : Hid (Nm.Rd x4 (.slice a2 nf c2) F) := Nm.rd_own (by rw [HNF.out]; exact HO24.out)
  have HD3 : Hid (Nm.Rd x4 (.slice a3 nf c3) F) := Nm.rd_own (by rw [HNF.out]; exact HO34.out)
  have HD4 : Hid (Nm.Rd x4 r4 F) := Nm.rd_own (by rw [HNF.out]; exact ho4)
  obtain ⟨a4, c4, rfl, _⟩ := Nm.own_shape ho4
  clear ho4 hb4 HO23 HB3 cF cR
  go_wp2_with fail
  refine (cS.out _ _ _ HD2.out HD4.out).mono ?_
  rintro e x5 ⟨rfl, hb5⟩
  have HB5 := Hid.mk' hb5
  clear hb5
  go_wp2_with fail
  refine (cS.out _ _ _ (HD3.out.below HB5.out) (HD4.out.below HB5.out)).mono ?_
  rintro e x6 ⟨rfl, hb6⟩
  have HB6 := Hid.mk' (HB5.out.trans (hb6.mono HB5.out.size))
  have HBW6 : Hid (Below w.heap.size w x6) := (HB1.out.trans (HB4.out.mono HB1.out.size)).trans (HB6.out.mono (HB1.out.trans (HB4.out.mono HB1.out.size)).size)
  clear hb6 HB5 HD2 HD3 HD4 cS
  go_wp2_with fail
  refine (cP.out _ (HG.out.below HBW6.out)).mono ?_
  rintro e x7 ⟨rfl, hb7⟩
  have HB7 := Hid.mk' (HB6.out.trans (hb7.mono HB6.out.size))
  have HBW7 := Hid.mk' (HBW6.out.trans (hb7.mono HBW6.out.size))
  clear hb7
  go_wp2_with fail
  refine (cP.out _ (HG.out.below HBW7.out)).mono ?_
  rintro e x8 ⟨rfl, hb8⟩
  have HB8 := Hid.mk' (HB7.out.trans (hb8.mono HB7.out.size))
  have HB48 : Hid (Below x1.heap.size x1 x8) := HB4.out.trans (HB8.out.mono HB4.out.size)
  have P2 : Hid (x8.ownsRow x1.heap.size 9 1 (.slice a2 nf c2) nf (F.map Nm.txt)) := own_keptB HO24.out HB8.out
  have P3 : Hid (x8.ownsRow x1.heap.size 9 1 (.slice a3 nf c3) nf (F.map Nm.txt)) := own_keptB (own_mono HO34.out HB2.out.size) HB8.out
  have HSP : Hid (Nm.Sep (.slice a2 nf c2) (.slice a3 nf c3)) := sep_later HO2.out HO3.out (Nat.le_refl _)
  have CA := Hid.mk' (Nm.apart_l [.slice a2 nf c2, .slice a3 nf c3] _ x1.heap.size x8.heap.size _ _ (two_ls P2.out P3.out HB48.out.size) (two_apart P2.out P3.out HSP.out) (by simp) (fun _ => by show nf < 900000; omega))
  clear hb8 HB7 HB6 HB8 HO2 HO3 HO24 HO34 P2 P3 HSP cP HBW6 HBW7
  go_wp2_with fail
  refine CA.out.mono ?_
  rintro e x9 ⟨rfl, hb9⟩
  have HB9 : Hid (Below x1.heap.size x1 x9) := (HB48.out.alloc HB48.out.size _).trans hb9
  have HBW9 := Hid.mk' (HB1.out.trans (HB9.out.mono HB1.out.size))
  have CK : Hid (Calls Tryd.prog 11 #[.slice (some ⟨g, 0, none⟩) np cap, .slice av np cv] x9 fun e w' => e = .returned (.bool true) ∧ Below x9.heap.size x9 w') := by
    have h1 := HNP.out
    subst h1
    exact keptB_any _ p g cap w.heap.size x9 (HR.out.below HBW9.out) HL.out HCP.out HCM.out (own_keptB HOW.out HB9.out) (Nat.lt_of_lt_of_le HGL.out HB9.out.size)
  clear hb9 CA
  go_wp2_with fail
  refine CK.out.mono ?_
  rintro e x10 ⟨rfl, hb10⟩
  have HBZ := Hid.mk' (HBW9.out.trans (hb10.mono HBW9.out.size))
  clear hb10
  go_wp2
  go_ret
  exact ⟨rfl, HBZ.out⟩
end Rc
end Go.Proofs.YtjnodkjeiogloaaDoor
