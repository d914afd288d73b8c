/- TagSums: a key's sum of any bytes is the document's. -/
import Derived.Test.YtfflmpmhacfijaaDoorRefT
namespace Go.Proofs.YtfflmpmhacfijaaDoor
set_option linter.ambiguousOpen false
open Go.RowKit
namespace Tg
open Sm
set_option linter.unusedSimpArgs false
set_option linter.unusedVariables false

theorem below_to {w a b : World} (h : Below w.heap.size w a) (k : Below a.heap.size a b) : Below w.heap.size w b := h.trans (k.mono h.size)

set_option maxHeartbeats 2000000 in
theorem tagSums_walk (kl : List UInt8) (v1 : Value) (l1 : List UInt8) (v2 : Value) (l2 : List UInt8) (w : World) (hkl : kl.length ≤ maxLen) (hR1 : RdB w v1 l1) (hz1 : l1.length ≤ 140737488351232) (hR2 : RdB w v2 l2) (hz2 : l2.length ≤ 140737488351232) (hB : Beg w) (hE : Er.Handle w) :
    Calls Tryd.prog 3 #[.string (tx kl), v1, v2] w fun e w' => e = .returned (.bool true) ∧ Below w.heap.size w w' := by
  have hs : (tx kl).size = kl.length := rfl
  obtain ⟨a1, cap1, rfl, hc1, hm1, hcell1⟩ := hR1
  obtain ⟨a2, cap2, rfl, hc2, hm2, hcell2⟩ := hR2
  have R1 : Hid (RdB w (.slice a1 l1.length cap1) l1) := ⟨a1, cap1, rfl, hc1, hm1, hcell1⟩
  have R2 : Hid (RdB w (.slice a2 l2.length cap2) l2) := ⟨a2, cap2, rfl, hc2, hm2, hcell2⟩
  clear hcell1 hcell2
  by_cases h16 : kl.length = 16
  · have hnb : ((kl.length : Int) != 16) = false := by rw [bne_eq_false_iff_eq]; omega
    have cN := new_ok kl w h16 hB
    by_cases hq : l1.length ≤ 16777216 ∧ l2.length ≤ 16777216
    · obtain ⟨hq1, hq2⟩ := hq
      have cR1 : Hid (∀ wx, Below w.heap.size w wx → Calls Tryd.prog 11 #[.string (tx kl), .slice a1 l1.length cap1] wx fun e w' => e = .returned (u8v (goes l1.length (keyV (k0L kl) (k1L kl)) l1)) ∧ Below wx.heap.size wx w') := fun wx hb => refSum_any kl _ l1 wx h16 (R1.out.below hb) hq1
      have cR2 : Hid (∀ wx, Below w.heap.size w wx → Calls Tryd.prog 11 #[.string (tx kl), .slice a2 l2.length cap2] wx fun e w' => e = .returned (u8v (goes l2.length (keyV (k0L kl) (k1L kl)) l2)) ∧ Below wx.heap.size wx w') := fun wx hb => refSum_any kl _ l2 wx h16 (R2.out.below hb) hq2
      generalize keyV (k0L kl) (k1L kl) = kv at *
      generalize tx kl = kb at *
      go_enter Tryd.func3, Tryd.ntmps3
      go_wp2_with fail
      refine cN.mono ?_
      rintro e w1 ⟨gk, rfl, hgk, hK, hb1⟩
      have cL := lentB_any _ l1 w1 (R1.out.below hb1) (by omega)
      go_wp2_with fail
      refine cL.mono ?_
      rintro e w2 ⟨g, cap, rfl, hcap, hcm, hown, hb2⟩
      have hB2 := below_to hb1 hb2
      have hK2 := Hid.mk' (hK.below hb2)
      have hgl : g < w2.heap.size := (hown.lt g rfl).2
      have HO := Hid.mk' hown
      have c3 := keySum_any kv gk _ l1 w2 hK2.out (rdB_lent hown hcap hcm hgl)
      clear hown cL hb2
      go_wp2_with fail
      refine c3.mono ?_
      rintro e w3 ⟨rfl, hb3⟩
      have hB3 := below_to hB2 hb3
      have hK3 := Hid.mk' (hK2.out.below hb3)
      have HO3 := Hid.mk' (own_keptB HO.out hb3)
      have hgl3 : g < w3.heap.size := Nat.lt_of_lt_of_le hgl hb3.size
      have c4 := keySum_any kv gk _ l2 w3 hK3.out (R2.out.below hB3)
      clear c3 hK2 HO hgl hb3
      go_wp2_with fail
      refine c4.mono ?_
      rintro e w4 ⟨rfl, hb4⟩
      have hB4 := below_to hB3 hb4
      have hK4 := Hid.mk' (hK3.out.below hb4)
      have HO4 := Hid.mk' (own_keptB HO3.out hb4)
      have hgl4 : g < w4.heap.size := Nat.lt_of_lt_of_le hgl3 hb4.size
      have c5 := keySum_any kv gk _ l1 w4 hK4.out (rdB_lent HO4.out hcap hcm hgl4)
      clear c4 hK3 HO3 hgl3 hb4
      go_wp2_with fail
      refine c5.mono ?_
      rintro e w5 ⟨rfl, hb5⟩
      have hB5 := below_to hB4 hb5
      have HO5 := Hid.mk' (own_keptB HO4.out hb5)
      have hgl5 : g < w5.heap.size := Nat.lt_of_lt_of_le hgl4 hb5.size
      have c6 := cR1.out w5 hB5
      clear c5 hK4 HO4 hgl4 hb5
      go_wp2_with fail
      refine c6.mono ?_
      rintro e w6 ⟨rfl, hb6⟩
      have hB6 := below_to hB5 hb6
      have HO6 := Hid.mk' (own_keptB HO5.out hb6)
      have hgl6 : g < w6.heap.size := Nat.lt_of_lt_of_le hgl5 hb6.size
      have c7 := cR2.out w6 hB6
      clear c6 HO5 hgl5 hb6
      generalize goes l1.length kv l1 = s1 at *
      generalize goes l2.length kv l2 = s2 at *
      go_wp2_with fail
      refine c7.mono ?_
      rintro e w7 ⟨rfl, hb7⟩
      have hB7 := below_to hB6 hb7
      have HO7 := Hid.mk' (own_keptB HO6.out hb7)
      have hgl7 : g < w7.heap.size := Nat.lt_of_lt_of_le hgl6 hb7.size
      have c8 := keptB_any _ l1 g cap w1.heap.size w7 (R1.out.below hB7) (by omega) hcap hcm HO7.out hgl7
      go_wp2_with fail
      refine c8.mono ?_
      rintro e w8 ⟨rfl, hb8⟩
      have hB8 := below_to hB7 hb8
      go_wp2
      go_ret
      exact ⟨rfl, hB8⟩
    · by_cases hq1 : l1.length ≤ 16777216
      · have hq2 : ¬ l2.length ≤ 16777216 := fun h => hq ⟨hq1, h⟩
        generalize tx kl = kb at *
        go_enter Tryd.func3, Tryd.ntmps3
        go_wp2_with fail
        refine cN.mono ?_
        rintro e w1 ⟨gk, rfl, hgk, hK, hb1⟩
        go_wp2
        go_ret
        exact ⟨rfl, hb1⟩
      · clear hq
        generalize tx kl = kb at *
        go_enter Tryd.func3, Tryd.ntmps3
        go_wp2_with fail
        refine cN.mono ?_
        rintro e w1 ⟨gk, rfl, hgk, hK, hb1⟩
        go_wp2
        go_ret
        exact ⟨rfl, hb1⟩
  · have hnb : ((kl.length : Int) != 16) = true := by rw [bne_iff_ne]; omega
    have cN := new_no kl w h16 hkl
    have cP := Er.plain_no 14 14 (by omega) (by omega) w hE
    unfold Er.noV at cN cP
    generalize tx kl = kb at *
    go_enter Tryd.func3, Tryd.ntmps3
    go_wp2_with fail
    refine cN.mono ?_
    rintro e w1 ⟨rfl, hw⟩
    subst w1
    go_wp2_with fail
    refine cP.mono ?_
    rintro e w1 ⟨rfl, hb1⟩
    go_wp2
    go_ret
    exact ⟨rfl, hb1⟩
end Tg
end Go.Proofs.YtfflmpmhacfijaaDoor
