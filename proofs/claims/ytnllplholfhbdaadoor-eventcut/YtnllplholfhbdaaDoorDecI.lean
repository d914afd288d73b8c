/- The document's answer what bytes tell, of each kind. -/
import Derived.Test.YtnllplholfhbdaaDoorDecG
namespace Go.Proofs.YtnllplholfhbdaaDoor
set_option linter.ambiguousOpen false
open Go.RowKit
namespace Ev
open Pk Sm Ft
set_option linter.unusedSimpArgs false
set_option linter.unusedVariables false

set_option maxRecDepth 100000 in
set_option maxHeartbeats 8000000 in
theorem decode_k2 (w : World) (v : Value) (b : List UInt8) (hR : RdB w v b) (l1 : List UInt8) (g1 : Bool) (hk : numT ⟨b, 0, false⟩ = (2, ⟨l1, 0, g1⟩)) (n : Int) (l2 : List UInt8) (no2 : Nat) (g2 : Bool) (hs : intT ⟨l1, 0, g1⟩ = (n, ⟨l2, no2, g2⟩))  :
    Calls Tryd.prog 12 #[v] w fun e w' => e = .returned (.tuple #[.agg (decE b).1.arr, nu ((decE b).2 : Int)]) ∧ Below w.heap.size w w' := by
  have hV0 : Hid (decE b = endT (⟨2, Sn.zero, 0, n⟩, ⟨l2, no2, g2⟩)) := by
    show _ = _
    rw [dec_go _ _ _ _ hk (by decide), rest2, hs]
  have hfit : Evt.fit ⟨2, Sn.zero, 0, n⟩ := ⟨by show ([] : List UInt8).length ≤ 65536; simp, by show ([] : List UInt8).length ≤ 65536; simp, by show (0 : Int) ≤ 0 ∧ (0 : Int) < _; decide⟩
  have cM : Hid (∀ wx, Calls Tryd.prog 22 #[.agg (Evt.arr ⟨2, Sn.zero, 0, n⟩)] wx fun x w' => x = .returned (.bool (mayE ⟨2, Sn.zero, 0, n⟩)) ∧ Below wx.heap.size wx w') := fun wx => may_ref _ wx hfit
  have HS := Hid.mk' hs
  clear hs
  have HK := Hid.mk' hk
  have hD0 : Dn w ((w.alloc (.cells Evt.zero.arr 29)).alloc (.cells #[v, nu 0, .bool false] 74)) (w.heap.size + 1) ⟨b, 0, false⟩ v w.heap.size := by
    have s1 : (w.alloc (.cells Evt.zero.arr 29)).heap.size = w.heap.size + 1 := by simp
    have a := heap_alloc_new w (.cells Evt.zero.arr 29)
    have b' := heap_alloc_new (w.alloc (.cells Evt.zero.arr 29)) (.cells #[v, nu 0, .bool false] 74)
    rw [s1] at b'
    exact ⟨⟨b', hR, ((Below.refl _ w).alloc (Nat.le_refl _) _).alloc (by simp) _, by omega⟩, by rw [Below.heap_alloc _ _ _ (by omega)]; exact a, by omega, Nat.le_refl _⟩
  have cK := Hid.mk' (tnumber _ _ _ _ _ hD0.tk)
  rw [hk] at cK
  have HD0 := Hid.mk' hD0
  obtain ⟨a, cap, rfl, hrest0⟩ := hR
  clear hrest0
  have HZ : Hid (Evt.zero.arr = #[nu 0, nu 0, nu 0, nu 0, nu 0, nu 0, .string ⟨#[]⟩, .string ⟨#[]⟩, .int .u64 0, nu 0, nu 0, nu 0, nu 0, nu 0, nu 0]) := rfl
  rw [HZ.out] at cK HD0
  clear hD0 hk
  have hEA : Evt.arr ⟨2, Sn.zero, 0, n⟩ = #[nu 2, nu 0, nu 0, nu 0, nu 0, nu 0, .string ⟨#[]⟩, .string ⟨#[]⟩, .int .u64 0, nu 0, nu 0, nu 0, nu 0, nu 0, nu n] := by
    skip
    rfl
  simp only [hEA] at cM
  obtain ⟨mv, hmv⟩ : ∃ m, mayE ⟨2, Sn.zero, 0, n⟩ = m := ⟨_, rfl⟩
  rw [hmv] at cM
  have HMV := Hid.mk' hmv
  clear hmv hfit hEA
  obtain ⟨D, hD⟩ : ∃ D, decE b = D := ⟨_, rfl⟩
  rw [hD] at hV0 ⊢
  have hVA : Hid (no2 ≠ 0 → D = (Evt.zero, no2)) := fun h => hV0.out.trans (end_no _ _ h)
  have hVB : Hid (no2 = 0 → l2 ≠ [] → D = (Evt.zero, 3)) := fun h0 h => by
    subst h0
    exact hV0.out.trans (end_left _ _ _ h)
  have hVC : Hid (no2 = 0 → l2 = [] → g2 = true → D = (Evt.zero, 1)) := fun h0 h1 h => by
    subst h0 h1
    exact hV0.out.trans (end_bad _ _ (.inl h))
  have hVD : Hid (no2 = 0 → l2 = [] → mv = false → D = (Evt.zero, 1)) := fun h0 h1 h => by
    subst h0 h1
    exact hV0.out.trans (end_bad _ _ (.inr (HMV.out.trans h)))
  have hVE : Hid (no2 = 0 → l2 = [] → g2 = false → mv = true → D = (⟨2, Sn.zero, 0, n⟩, 0)) := fun h0 h1 h2 h => by
    subst h0 h1 h2
    exact hV0.out.trans (end_ok _ (HMV.out.trans h))
  clear hV0 hD HMV HK
  go_enter Tryd.func12, Tryd.ntmps12
  go_wp2_with fail
  refine cK.out.mono ?_
  rintro e x1 ⟨rfl, y1, ht1, hk1⟩
  have hD1 := HD0.out.call ht1 hk1
  have hDa := hD1.alloc (.cells #[nu 2, nu 0, nu 0, nu 0, nu 0, nu 0, .string ⟨#[]⟩, .string ⟨#[]⟩, .int .u64 0, nu 0, nu 0, nu 0, nu 0, nu 0, nu 0] 29)
  have p1 : x1.cell? ⟨w.heap.size + 1, 1, none⟩ = some (nu 0) := ht1.cells.2.1
  have HD2 := Hid.mk' hDa
  have hx1 := ht1.lt
  have C := Hid.mk' (tint _ _ _ _ _ hDa.tk)
  rw [HS.out] at C
  simp only at C
  clear ht1 hk1 hD1 hDa HD0 cK HS
  go_wp2_with fail
  refine C.out.mono ?_
  rintro e x2 ⟨rfl, y2, ht2, hk2⟩
  have hD2 := HD2.out.call ht2 hk2
  have hp2 := hD2.n1
  have heb : x2.heap[x1.heap.size]? = some (.cells #[nu 2, nu 0, nu 0, nu 0, nu 0, nu 0, .string ⟨#[]⟩, .string ⟨#[]⟩, .int .u64 0, nu 0, nu 0, nu 0, nu 0, nu 0, nu 0] 29) := hk2.at (heap_alloc_new x1 _) (by omega)
  have a0 := cell_of (j := 14) heb rfl
  have af : ∀ i, _ := frz_of heb
  have hK3 : Keep (fun k => k = x1.heap.size) x2 ((x2).setCell ⟨x1.heap.size, 14, none⟩ (nu n)) := by
    iterate 1 (refine Keep.setCell (F := fun k => k = x1.heap.size) ?_ (.inl rfl) _)
    exact Keep.refl _ _
  have gc0 := heb
  have gc1 := heap_setCell_same _ x1.heap.size 14 _ _ (nu n) gc0
  have heb3 : ((x2).setCell ⟨x1.heap.size, 14, none⟩ (nu n)).heap[x1.heap.size]? = some (.cells #[nu 2, nu 0, nu 0, nu 0, nu 0, nu 0, .string ⟨#[]⟩, .string ⟨#[]⟩, .int .u64 0, nu 0, nu 0, nu 0, nu 0, nu 0, nu n] 29) := by
    refine gc1.trans (congrArg (fun c => some (Obj.cells c 29 (0, 0))) ?_)
    simp only [List.setIfInBounds_toArray, List.set]
  have hD3 : Dn w ((x2).setCell ⟨x1.heap.size, 14, none⟩ (nu n)) (w.heap.size + 1) ⟨l2, no2, g2⟩ y2 w.heap.size := hD2.other hK3 (by omega) (by omega) (by omega)
  have HD3 := Hid.mk' hD3
  have HE3 := Hid.mk' heb3
  clear hD3 heb3 hK3 heb hD2 ht2 hk2 HD2 C gc0 gc1 p1
  go_upto_region 15 with fail
  clear af a0
  generalize (x2).setCell ⟨x1.heap.size, 14, none⟩ (nu n) = x3 at *
  have ht3 := HD3.out.tk
  obtain ⟨p0, p1, p2, pf⟩ := ht3.cells
  simp only at p1 p2
  have HB := Hid.mk' ht3.bel
  have HH := Hid.mk' HD3.out.rblk
  obtain ⟨a2, cap2, hy2, hc1, hc2, hrest2⟩ := ht3.row
  clear hrest2
  simp only at hy2 hc1
  subst hy2
  unfold maxLen at hc2
  clear ht3
  by_cases h0 : no2 ≠ 0
  · have h0' : ((no2 : Int) != 0) = true := by simpa using h0
    have hV : Hid (D = (Evt.zero, no2)) := hVA.out h0
    clear h0 cM hc1 hc2 p0 p2
    have hrb := HD3.out.rcells
    have z0 := cell_of (j := 0) hrb rfl
    have s0 : x3.setCell ⟨w.heap.size, 0, none⟩ (nu 0) = x3 := setCell_self hrb rfl
    have d0 : x3.drew.setCell ⟨w.heap.size, 0, none⟩ (nu 0) = x3.drew := setCell_self (w := x3.drew) hrb rfl
    have z1 := cell_of (j := 1) hrb rfl
    have s1 : x3.setCell ⟨w.heap.size, 1, none⟩ (nu 0) = x3 := setCell_self hrb rfl
    have d1 : x3.drew.setCell ⟨w.heap.size, 1, none⟩ (nu 0) = x3.drew := setCell_self (w := x3.drew) hrb rfl
    have z2 := cell_of (j := 2) hrb rfl
    have s2 : x3.setCell ⟨w.heap.size, 2, none⟩ (nu 0) = x3 := setCell_self hrb rfl
    have d2 : x3.drew.setCell ⟨w.heap.size, 2, none⟩ (nu 0) = x3.drew := setCell_self (w := x3.drew) hrb rfl
    have z3 := cell_of (j := 3) hrb rfl
    have s3 : x3.setCell ⟨w.heap.size, 3, none⟩ (nu 0) = x3 := setCell_self hrb rfl
    have d3 : x3.drew.setCell ⟨w.heap.size, 3, none⟩ (nu 0) = x3.drew := setCell_self (w := x3.drew) hrb rfl
    have z4 := cell_of (j := 4) hrb rfl
    have s4 : x3.setCell ⟨w.heap.size, 4, none⟩ (nu 0) = x3 := setCell_self hrb rfl
    have d4 : x3.drew.setCell ⟨w.heap.size, 4, none⟩ (nu 0) = x3.drew := setCell_self (w := x3.drew) hrb rfl
    have z5 := cell_of (j := 5) hrb rfl
    have s5 : x3.setCell ⟨w.heap.size, 5, none⟩ (nu 0) = x3 := setCell_self hrb rfl
    have d5 : x3.drew.setCell ⟨w.heap.size, 5, none⟩ (nu 0) = x3.drew := setCell_self (w := x3.drew) hrb rfl
    have z6 := cell_of (j := 6) hrb rfl
    have s6 : x3.setCell ⟨w.heap.size, 6, none⟩ (.string ⟨#[]⟩) = x3 := setCell_self hrb rfl
    have d6 : x3.drew.setCell ⟨w.heap.size, 6, none⟩ (.string ⟨#[]⟩) = x3.drew := setCell_self (w := x3.drew) hrb rfl
    have z7 := cell_of (j := 7) hrb rfl
    have s7 : x3.setCell ⟨w.heap.size, 7, none⟩ (.string ⟨#[]⟩) = x3 := setCell_self hrb rfl
    have d7 : x3.drew.setCell ⟨w.heap.size, 7, none⟩ (.string ⟨#[]⟩) = x3.drew := setCell_self (w := x3.drew) hrb rfl
    have z8 := cell_of (j := 8) hrb rfl
    have s8 : x3.setCell ⟨w.heap.size, 8, none⟩ (.int .u64 0) = x3 := setCell_self hrb rfl
    have d8 : x3.drew.setCell ⟨w.heap.size, 8, none⟩ (.int .u64 0) = x3.drew := setCell_self (w := x3.drew) hrb rfl
    have z9 := cell_of (j := 9) hrb rfl
    have s9 : x3.setCell ⟨w.heap.size, 9, none⟩ (nu 0) = x3 := setCell_self hrb rfl
    have d9 : x3.drew.setCell ⟨w.heap.size, 9, none⟩ (nu 0) = x3.drew := setCell_self (w := x3.drew) hrb rfl
    have z10 := cell_of (j := 10) hrb rfl
    have s10 : x3.setCell ⟨w.heap.size, 10, none⟩ (nu 0) = x3 := setCell_self hrb rfl
    have d10 : x3.drew.setCell ⟨w.heap.size, 10, none⟩ (nu 0) = x3.drew := setCell_self (w := x3.drew) hrb rfl
    have z11 := cell_of (j := 11) hrb rfl
    have s11 : x3.setCell ⟨w.heap.size, 11, none⟩ (nu 0) = x3 := setCell_self hrb rfl
    have d11 : x3.drew.setCell ⟨w.heap.size, 11, none⟩ (nu 0) = x3.drew := setCell_self (w := x3.drew) hrb rfl
    have z12 := cell_of (j := 12) hrb rfl
    have s12 : x3.setCell ⟨w.heap.size, 12, none⟩ (nu 0) = x3 := setCell_self hrb rfl
    have d12 : x3.drew.setCell ⟨w.heap.size, 12, none⟩ (nu 0) = x3.drew := setCell_self (w := x3.drew) hrb rfl
    have z13 := cell_of (j := 13) hrb rfl
    have s13 : x3.setCell ⟨w.heap.size, 13, none⟩ (nu 0) = x3 := setCell_self hrb rfl
    have d13 : x3.drew.setCell ⟨w.heap.size, 13, none⟩ (nu 0) = x3.drew := setCell_self (w := x3.drew) hrb rfl
    have z14 := cell_of (j := 14) hrb rfl
    have s14 : x3.setCell ⟨w.heap.size, 14, none⟩ (nu 0) = x3 := setCell_self hrb rfl
    have d14 : x3.drew.setCell ⟨w.heap.size, 14, none⟩ (nu 0) = x3.drew := setCell_self (w := x3.drew) hrb rfl
    have zf : ∀ i, _ := frz_of hrb
    clear hrb
    go_wp2_with fail
    go_region
    go_wp2
    refine bodyPost_ret (results_evt rfl _ _ w.heap.size Evt.zero rfl HH.out) rfl ?_
    exact ⟨by rw [hV.out]; rfl, HB.out.drew⟩
  obtain rfl : no2 = 0 := by omega
  simp only [Int.natCast_zero, Int.cast_ofNat_Int] at p1
  by_cases h1 : l2 = []
  case neg =>
    have h1' : (0 : Int) < (l2.length : Int) := by have := List.length_pos_iff.2 h1; omega
    have hV : Hid (D = (Evt.zero, 3)) := hVB.out rfl h1
    clear h0 h1 cM
    have hrb := HD3.out.rcells
    have z0 := cell_of (j := 0) hrb rfl
    have s0 : x3.setCell ⟨w.heap.size, 0, none⟩ (nu 0) = x3 := setCell_self hrb rfl
    have z1 := cell_of (j := 1) hrb rfl
    have s1 : x3.setCell ⟨w.heap.size, 1, none⟩ (nu 0) = x3 := setCell_self hrb rfl
    have z2 := cell_of (j := 2) hrb rfl
    have s2 : x3.setCell ⟨w.heap.size, 2, none⟩ (nu 0) = x3 := setCell_self hrb rfl
    have z3 := cell_of (j := 3) hrb rfl
    have s3 : x3.setCell ⟨w.heap.size, 3, none⟩ (nu 0) = x3 := setCell_self hrb rfl
    have z4 := cell_of (j := 4) hrb rfl
    have s4 : x3.setCell ⟨w.heap.size, 4, none⟩ (nu 0) = x3 := setCell_self hrb rfl
    have z5 := cell_of (j := 5) hrb rfl
    have s5 : x3.setCell ⟨w.heap.size, 5, none⟩ (nu 0) = x3 := setCell_self hrb rfl
    have z6 := cell_of (j := 6) hrb rfl
    have s6 : x3.setCell ⟨w.heap.size, 6, none⟩ (.string ⟨#[]⟩) = x3 := setCell_self hrb rfl
    have z7 := cell_of (j := 7) hrb rfl
    have s7 : x3.setCell ⟨w.heap.size, 7, none⟩ (.string ⟨#[]⟩) = x3 := setCell_self hrb rfl
    have z8 := cell_of (j := 8) hrb rfl
    have s8 : x3.setCell ⟨w.heap.size, 8, none⟩ (.int .u64 0) = x3 := setCell_self hrb rfl
    have z9 := cell_of (j := 9) hrb rfl
    have s9 : x3.setCell ⟨w.heap.size, 9, none⟩ (nu 0) = x3 := setCell_self hrb rfl
    have z10 := cell_of (j := 10) hrb rfl
    have s10 : x3.setCell ⟨w.heap.size, 10, none⟩ (nu 0) = x3 := setCell_self hrb rfl
    have z11 := cell_of (j := 11) hrb rfl
    have s11 : x3.setCell ⟨w.heap.size, 11, none⟩ (nu 0) = x3 := setCell_self hrb rfl
    have z12 := cell_of (j := 12) hrb rfl
    have s12 : x3.setCell ⟨w.heap.size, 12, none⟩ (nu 0) = x3 := setCell_self hrb rfl
    have z13 := cell_of (j := 13) hrb rfl
    have s13 : x3.setCell ⟨w.heap.size, 13, none⟩ (nu 0) = x3 := setCell_self hrb rfl
    have z14 := cell_of (j := 14) hrb rfl
    have s14 : x3.setCell ⟨w.heap.size, 14, none⟩ (nu 0) = x3 := setCell_self hrb rfl
    have zf : ∀ i, _ := frz_of hrb
    clear hrb
    go_wp2
    refine bodyPost_ret (results_evt rfl _ _ w.heap.size Evt.zero rfl HH.out) rfl ?_
    exact ⟨by rw [hV.out]; rfl, HB.out⟩
  subst h1
  simp only [List.length_nil] at p0
  cases g2 with
  | true =>
    have hV : Hid (D = (Evt.zero, 1)) := hVC.out rfl rfl rfl
    clear h0 cM
    have hrb := HD3.out.rcells
    have z0 := cell_of (j := 0) hrb rfl
    have s0 : x3.setCell ⟨w.heap.size, 0, none⟩ (nu 0) = x3 := setCell_self hrb rfl
    have z1 := cell_of (j := 1) hrb rfl
    have s1 : x3.setCell ⟨w.heap.size, 1, none⟩ (nu 0) = x3 := setCell_self hrb rfl
    have z2 := cell_of (j := 2) hrb rfl
    have s2 : x3.setCell ⟨w.heap.size, 2, none⟩ (nu 0) = x3 := setCell_self hrb rfl
    have z3 := cell_of (j := 3) hrb rfl
    have s3 : x3.setCell ⟨w.heap.size, 3, none⟩ (nu 0) = x3 := setCell_self hrb rfl
    have z4 := cell_of (j := 4) hrb rfl
    have s4 : x3.setCell ⟨w.heap.size, 4, none⟩ (nu 0) = x3 := setCell_self hrb rfl
    have z5 := cell_of (j := 5) hrb rfl
    have s5 : x3.setCell ⟨w.heap.size, 5, none⟩ (nu 0) = x3 := setCell_self hrb rfl
    have z6 := cell_of (j := 6) hrb rfl
    have s6 : x3.setCell ⟨w.heap.size, 6, none⟩ (.string ⟨#[]⟩) = x3 := setCell_self hrb rfl
    have z7 := cell_of (j := 7) hrb rfl
    have s7 : x3.setCell ⟨w.heap.size, 7, none⟩ (.string ⟨#[]⟩) = x3 := setCell_self hrb rfl
    have z8 := cell_of (j := 8) hrb rfl
    have s8 : x3.setCell ⟨w.heap.size, 8, none⟩ (.int .u64 0) = x3 := setCell_self hrb rfl
    have z9 := cell_of (j := 9) hrb rfl
    have s9 : x3.setCell ⟨w.heap.size, 9, none⟩ (nu 0) = x3 := setCell_self hrb rfl
    have z10 := cell_of (j := 10) hrb rfl
    have s10 : x3.setCell ⟨w.heap.size, 10, none⟩ (nu 0) = x3 := setCell_self hrb rfl
    have z11 := cell_of (j := 11) hrb rfl
    have s11 : x3.setCell ⟨w.heap.size, 11, none⟩ (nu 0) = x3 := setCell_self hrb rfl
    have z12 := cell_of (j := 12) hrb rfl
    have s12 : x3.setCell ⟨w.heap.size, 12, none⟩ (nu 0) = x3 := setCell_self hrb rfl
    have z13 := cell_of (j := 13) hrb rfl
    have s13 : x3.setCell ⟨w.heap.size, 13, none⟩ (nu 0) = x3 := setCell_self hrb rfl
    have z14 := cell_of (j := 14) hrb rfl
    have s14 : x3.setCell ⟨w.heap.size, 14, none⟩ (nu 0) = x3 := setCell_self hrb rfl
    have zf : ∀ i, _ := frz_of hrb
    clear hrb
    go_wp2
    refine bodyPost_ret (results_evt rfl _ _ w.heap.size Evt.zero rfl HH.out) rfl ?_
    exact ⟨by rw [hV.out]; rfl, HB.out⟩
  | false =>
    have e0 := cell_of (j := 0) HE3.out rfl
    have e1 := cell_of (j := 1) HE3.out rfl
    have e2 := cell_of (j := 2) HE3.out rfl
    have e3 := cell_of (j := 3) HE3.out rfl
    have e4 := cell_of (j := 4) HE3.out rfl
    have e5 := cell_of (j := 5) HE3.out rfl
    have e6 := cell_of (j := 6) HE3.out rfl
    have e7 := cell_of (j := 7) HE3.out rfl
    have e8 := cell_of (j := 8) HE3.out rfl
    have e9 := cell_of (j := 9) HE3.out rfl
    have e10 := cell_of (j := 10) HE3.out rfl
    have e11 := cell_of (j := 11) HE3.out rfl
    have e12 := cell_of (j := 12) HE3.out rfl
    have e13 := cell_of (j := 13) HE3.out rfl
    have e14 := cell_of (j := 14) HE3.out rfl
    clear h0
    cases mv with
    | false =>
      have hV : Hid (D = (Evt.zero, 1)) := hVD.out rfl rfl rfl
      go_wp2_with fail
      refine (cM.out _).mono ?_
      rintro e x4 ⟨rfl, hb4⟩
      have hr4 : x4.heap[w.heap.size]? = some (.cells #[nu 0, nu 0, nu 0, nu 0, nu 0, nu 0, .string ⟨#[]⟩, .string ⟨#[]⟩, .int .u64 0, nu 0, nu 0, nu 0, nu 0, nu 0, nu 0] 29) := (hb4.block _ (Array.getElem?_eq_some_iff.1 HD3.out.rblk).1).trans HD3.out.rcells
      have HB4 := Hid.mk' (HB.out.trans (hb4.mono HB.out.size))
      have HH4 : Hid (x4.heap[w.heap.size]? = some (.cells Evt.zero.arr 29 (0, 0))) := hr4
      have hrb := hr4
      have z0 := cell_of (j := 0) hrb rfl
      have s0 : x4.setCell ⟨w.heap.size, 0, none⟩ (nu 0) = x4 := setCell_self hrb rfl
      have z1 := cell_of (j := 1) hrb rfl
      have s1 : x4.setCell ⟨w.heap.size, 1, none⟩ (nu 0) = x4 := setCell_self hrb rfl
      have z2 := cell_of (j := 2) hrb rfl
      have s2 : x4.setCell ⟨w.heap.size, 2, none⟩ (nu 0) = x4 := setCell_self hrb rfl
      have z3 := cell_of (j := 3) hrb rfl
      have s3 : x4.setCell ⟨w.heap.size, 3, none⟩ (nu 0) = x4 := setCell_self hrb rfl
      have z4 := cell_of (j := 4) hrb rfl
      have s4 : x4.setCell ⟨w.heap.size, 4, none⟩ (nu 0) = x4 := setCell_self hrb rfl
      have z5 := cell_of (j := 5) hrb rfl
      have s5 : x4.setCell ⟨w.heap.size, 5, none⟩ (nu 0) = x4 := setCell_self hrb rfl
      have z6 := cell_of (j := 6) hrb rfl
      have s6 : x4.setCell ⟨w.heap.size, 6, none⟩ (.string ⟨#[]⟩) = x4 := setCell_self hrb rfl
      have z7 := cell_of (j := 7) hrb rfl
      have s7 : x4.setCell ⟨w.heap.size, 7, none⟩ (.string ⟨#[]⟩) = x4 := setCell_self hrb rfl
      have z8 := cell_of (j := 8) hrb rfl
      have s8 : x4.setCell ⟨w.heap.size, 8, none⟩ (.int .u64 0) = x4 := setCell_self hrb rfl
      have z9 := cell_of (j := 9) hrb rfl
      have s9 : x4.setCell ⟨w.heap.size, 9, none⟩ (nu 0) = x4 := setCell_self hrb rfl
      have z10 := cell_of (j := 10) hrb rfl
      have s10 : x4.setCell ⟨w.heap.size, 10, none⟩ (nu 0) = x4 := setCell_self hrb rfl
      have z11 := cell_of (j := 11) hrb rfl
      have s11 : x4.setCell ⟨w.heap.size, 11, none⟩ (nu 0) = x4 := setCell_self hrb rfl
      have z12 := cell_of (j := 12) hrb rfl
      have s12 : x4.setCell ⟨w.heap.size, 12, none⟩ (nu 0) = x4 := setCell_self hrb rfl
      have z13 := cell_of (j := 13) hrb rfl
      have s13 : x4.setCell ⟨w.heap.size, 13, none⟩ (nu 0) = x4 := setCell_self hrb rfl
      have z14 := cell_of (j := 14) hrb rfl
      have s14 : x4.setCell ⟨w.heap.size, 14, none⟩ (nu 0) = x4 := setCell_self hrb rfl
      have zf : ∀ i, _ := frz_of hrb
      clear hrb
      clear hb4 hr4 cM
      go_wp2
      refine bodyPost_ret (results_evt rfl _ _ w.heap.size Evt.zero rfl HH4.out) rfl ?_
      exact ⟨by rw [hV.out]; rfl, HB4.out⟩
    | true =>
      have hV : Hid (D = (⟨2, Sn.zero, 0, n⟩, 0)) := hVE.out rfl rfl rfl rfl
      go_wp2_with fail
      refine (cM.out _).mono ?_
      rintro e x4 ⟨rfl, hb4⟩
      have hr4 : x4.heap[w.heap.size]? = some (.cells #[nu 0, nu 0, nu 0, nu 0, nu 0, nu 0, .string ⟨#[]⟩, .string ⟨#[]⟩, .int .u64 0, nu 0, nu 0, nu 0, nu 0, nu 0, nu 0] 29) := (hb4.block _ (Array.getElem?_eq_some_iff.1 HD3.out.rblk).1).trans HD3.out.rcells
      have HB4 := Hid.mk' (HB.out.trans (hb4.mono HB.out.size))
      have HH4 : Hid (x4.heap[w.heap.size]? = some (.cells Evt.zero.arr 29 (0, 0))) := hr4
      have z0 := cell_of (j := 0) hr4 rfl
      have z1 := cell_of (j := 1) hr4 rfl
      have z2 := cell_of (j := 2) hr4 rfl
      have z3 := cell_of (j := 3) hr4 rfl
      have z4 := cell_of (j := 4) hr4 rfl
      have z5 := cell_of (j := 5) hr4 rfl
      have z6 := cell_of (j := 6) hr4 rfl
      have z7 := cell_of (j := 7) hr4 rfl
      have z8 := cell_of (j := 8) hr4 rfl
      have z9 := cell_of (j := 9) hr4 rfl
      have z10 := cell_of (j := 10) hr4 rfl
      have z11 := cell_of (j := 11) hr4 rfl
      have z12 := cell_of (j := 12) hr4 rfl
      have z13 := cell_of (j := 13) hr4 rfl
      have z14 := cell_of (j := 14) hr4 rfl
      have zf : ∀ i, _ := frz_of hr4
      have k0 : x4.cell? ⟨x1.heap.size, 0, none⟩ = some (nu 2) := cell_of (j := 0) ((hb4.block _ (Array.getElem?_eq_some_iff.1 HE3.out).1).trans HE3.out) rfl
      have k1 : x4.cell? ⟨x1.heap.size, 1, none⟩ = some (nu 0) := cell_of (j := 1) ((hb4.block _ (Array.getElem?_eq_some_iff.1 HE3.out).1).trans HE3.out) rfl
      have k2 : x4.cell? ⟨x1.heap.size, 2, none⟩ = some (nu 0) := cell_of (j := 2) ((hb4.block _ (Array.getElem?_eq_some_iff.1 HE3.out).1).trans HE3.out) rfl
      have k3 : x4.cell? ⟨x1.heap.size, 3, none⟩ = some (nu 0) := cell_of (j := 3) ((hb4.block _ (Array.getElem?_eq_some_iff.1 HE3.out).1).trans HE3.out) rfl
      have k4 : x4.cell? ⟨x1.heap.size, 4, none⟩ = some (nu 0) := cell_of (j := 4) ((hb4.block _ (Array.getElem?_eq_some_iff.1 HE3.out).1).trans HE3.out) rfl
      have k5 : x4.cell? ⟨x1.heap.size, 5, none⟩ = some (nu 0) := cell_of (j := 5) ((hb4.block _ (Array.getElem?_eq_some_iff.1 HE3.out).1).trans HE3.out) rfl
      have k6 : x4.cell? ⟨x1.heap.size, 6, none⟩ = some (.string ⟨#[]⟩) := cell_of (j := 6) ((hb4.block _ (Array.getElem?_eq_some_iff.1 HE3.out).1).trans HE3.out) rfl
      have k7 : x4.cell? ⟨x1.heap.size, 7, none⟩ = some (.string ⟨#[]⟩) := cell_of (j := 7) ((hb4.block _ (Array.getElem?_eq_some_iff.1 HE3.out).1).trans HE3.out) rfl
      have k8 : x4.cell? ⟨x1.heap.size, 8, none⟩ = some (.int .u64 0) := cell_of (j := 8) ((hb4.block _ (Array.getElem?_eq_some_iff.1 HE3.out).1).trans HE3.out) rfl
      have k9 : x4.cell? ⟨x1.heap.size, 9, none⟩ = some (nu 0) := cell_of (j := 9) ((hb4.block _ (Array.getElem?_eq_some_iff.1 HE3.out).1).trans HE3.out) rfl
      have k10 : x4.cell? ⟨x1.heap.size, 10, none⟩ = some (nu 0) := cell_of (j := 10) ((hb4.block _ (Array.getElem?_eq_some_iff.1 HE3.out).1).trans HE3.out) rfl
      have k11 : x4.cell? ⟨x1.heap.size, 11, none⟩ = some (nu 0) := cell_of (j := 11) ((hb4.block _ (Array.getElem?_eq_some_iff.1 HE3.out).1).trans HE3.out) rfl
      have k12 : x4.cell? ⟨x1.heap.size, 12, none⟩ = some (nu 0) := cell_of (j := 12) ((hb4.block _ (Array.getElem?_eq_some_iff.1 HE3.out).1).trans HE3.out) rfl
      have k13 : x4.cell? ⟨x1.heap.size, 13, none⟩ = some (nu 0) := cell_of (j := 13) ((hb4.block _ (Array.getElem?_eq_some_iff.1 HE3.out).1).trans HE3.out) rfl
      have k14 : x4.cell? ⟨x1.heap.size, 14, none⟩ = some (nu n) := cell_of (j := 14) ((hb4.block _ (Array.getElem?_eq_some_iff.1 HE3.out).1).trans HE3.out) rfl
      clear hb4 hr4 cM e0 e1 e2 e3 e4 e5 e6 e7 e8 e9 e10 e11 e12 e13 e14 p0 p1 p2 pf
      go_wp2
      skip
      refine bodyPost_ret (results_evt rfl _ _ w.heap.size ⟨2, Sn.zero, 0, n⟩ rfl (putE_heap (z := Evt.zero) ⟨2, Sn.zero, 0, n⟩ HH4.out)) rfl ?_
      exact ⟨by rw [hV.out]; rfl, putE_below ⟨2, Sn.zero, 0, n⟩ HB4.out (Nat.le_refl _)⟩

end Ev
end Go.Proofs.YtnllplholfhbdaaDoor
