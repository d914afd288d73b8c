/- RecordAgain over every list of texts that fits. -/
import Derived.Test.YtjnodkjeiogloaaAgainK
import Derived.Test.YtjnodkjeiogloaaPrgW
namespace Go.Proofs.Ytjnodkjeiogloaa
set_option linter.ambiguousOpen false
open Go.RowKit
namespace Rc
open Sm Pk
set_option linter.unusedSimpArgs false
set_option linter.unusedVariables false

theorem flat_take_le (ep : Nat) (PS : List (List UInt8)) (j : Nat) : (flat ep (PS.take j)).length ≤ (flat ep PS).length := by
  have h : flat ep PS = flat ep (PS.take j) ++ flat ep (PS.drop j) := by
    unfold flat
    rw [← List.flatMap_append, List.take_append_drop]
  rw [h, List.length_append]
  omega

set_option maxRecDepth 100000 in
set_option maxHeartbeats 8000000 in
theorem again_wide (SF : FrameC) (SS : ScanC) (SW : Pr.ScanW) (ep : Nat) (lv : Value) (ls : List (List UInt8)) (w : World) (hep : ep < 4294967296) (hR : Nm.Rd w lv ls) (hN : ls.length ≤ 8796093021952) (hT : ∀ t ∈ ls, t.length ≤ 9223372036854775807) :
    Calls Try.prog 6 #[.int .u32 (ep : Int), lv] w fun e w' => e = .returned (.bool true) ∧ Below w.heap.size w w' := by
  obtain ⟨i0, ji, hz0, hz1, hz2⟩ := info_parts (show (Try.prog.info? 9).map (fun i => (i.zero, i.size, i.bytes)) = some (some (.string ⟨#[]⟩), 1, 16) by kernel_rfl)
  have c1 := Hid.mk' (SW w ep lv ls hep hR (by omega) hT)
  have cW := Hid.mk' (fun wx => works_yes SF SS wx)
  obtain ⟨s1, s2, s3, s4⟩ := scan_again ep ls
  obtain ⟨PS, hPS⟩ : ∃ x, (scan ep ls).1 = x := ⟨_, rfl⟩
  obtain ⟨k, hk⟩ : ∃ x, (scan ep ls).2.2 = x := ⟨_, rfl⟩
  rw [hPS, hk] at c1 s2
  rw [hPS] at s3
  rw [hk] at s1
  have hPN : PS.length ≤ 8796093021952 := by
    have := flat_len ep PS
    rw [s2, List.length_take] at this
    omega
  have HFT : Hid (∀ j, (flat ep (PS.take j)).length ≤ 8796093021952) := fun j => by
    have h1 := flat_take_le ep PS j
    rw [s2, List.length_take] at h1
    omega
  have HR := Hid.mk' hR
  have HS2 := Hid.mk' s2
  have HS3 := Hid.mk' s3
  obtain ⟨n, hn⟩ : ∃ x, ls.length = x := ⟨_, rfl⟩
  have HNL := Hid.mk' hn
  obtain ⟨al, cl, rfl, hc1, hc2, _⟩ := hR
  rw [hn] at HR hc1 s1 c1 hN ⊢
  have hsl := fun wx => slice_toT al n cl k (by omega) wx
  have HRT : Hid (∀ wx, Below w.heap.size w wx → Nm.Rd wx (.slice al k cl) (flat ep PS)) := fun wx hx => by
    rw [HS2.out]
    exact rd_takeT HNL.out (HR.out.below hx) k s1
  have hkI : ¬ (k : Int) < 0 := by omega
  have hkJ : ¬ (n : Int) < (k : Int) := by omega
  have hkB : decide ((k : Int) < 0) = false := decide_eq_false hkI
  have hkC : decide ((n : Int) < (k : Int)) = false := decide_eq_false hkJ
  have hkE : ¬ n < k := by omega
  have hkD : decide (n < k) = false := decide_eq_false hkE
  clear s2 s3 s4 hPS hk hn hT
  go_enter Try.func6, Try.ntmps6
  go_wp2_with fail
  refine c1.out.mono ?_
  rintro e x1 ⟨r, vs, rfl, ho, hr, _, hb⟩
  have HG1 := Hid.mk' (rows_rdl ho hr)
  have hvl := hr.len
  obtain ⟨a1, k1, rfl, _⟩ := Nm.own_shape ho
  obtain ⟨N, hNN⟩ : ∃ x, PS.length = x := ⟨_, rfl⟩
  rw [hvl, hNN] at HG1 ⊢
  rw [hNN] at hPN
  have HNN := Hid.mk' hNN
  have HB1 := Hid.mk' hb
  clear ho hr hb hvl hNN c1
  go_wp2_with fail
  refine (cW.out _).mono ?_
  rintro e x2 ⟨rfl, hb⟩
  have HG2 := Hid.mk' (HG1.out.below hb)
  have HB2 := Hid.mk' (HB1.out.trans (hb.mono HB1.out.size))
  clear hb HG1 HB1 cW
  go_wp2
  go_loopw [7, 8, 9, 10, 11, 12] (fun bv iv _ _ _ _ wr => ∃ (i m : Nat), i ≤ N ∧ m ≤ 3 * i ∧ iv = nu (i : Int) ∧ Hid (wr.ownsRow x2.heap.size 9 1 bv m ((flat ep (PS.take i)).map Nm.txt)) ∧ Hid ((flat ep (PS.take i)).length = m) ∧ Hid (Below x2.heap.size x2 wr)) (fun _ iv _ _ _ _ _ => N - (intOf iv).toNat)
  case atStart => exact ⟨0, 0, Nat.zero_le _, Nat.zero_le _, rfl, World.ownsRow_nil _ _ _ _, rfl, Below.refl _ _⟩
  case round =>
  obtain ⟨i, m, hi, hm3, rfl, hO, hml, hB⟩ := hrel
  by_cases hin : i < N
  · obtain ⟨p, hp⟩ : ∃ p, PS[i]? = some p := ⟨PS[i]'(by have := HNN.out; omega), List.getElem?_eq_getElem _⟩
    have hpl := HS3.out p (List.mem_of_getElem? hp)
    obtain ⟨a1', k1', hre, hrc1, hrc2, hrx⟩ := HG2.out
    obtain ⟨rfl, hrn, rfl⟩ : a1 = a1' ∧ N = PS.length ∧ k1 = k1' := by simpa using hre
    obtain ⟨g, o, rfl, hg, hy⟩ := hrx (by omega)
    obtain ⟨u, hc, hu, hzu⟩ := hy i p hp
    have hcw : wr.cell? ⟨g, o + i, none⟩ = some u := (hB.out.cell (p := ⟨g, o + i, none⟩) hg).trans hc
    have HGX := Hid.mk' hg
    have HU := Hid.mk' (hu.below hB.out)
    obtain ⟨np, hnp⟩ : ∃ x, p.length = x := ⟨_, rfl⟩
    obtain ⟨a, cp, hue, _⟩ := hu
    rw [hnp] at hue hpl
    subst hue
    have HNP := Hid.mk' hnp
    have HPT : Hid (PS.take (i + 1) = PS.take i ++ [p]) := by
      show _ = _
      rw [List.take_add_one, hp]
      rfl
    obtain ⟨k', hk'⟩ : ∃ x, (blocks ep p).length = x := ⟨_, rfl⟩
    have hkk : k' = 1 + (np - 245 + 254) / 255 := by rw [← hk', blocks_len, hnp]
    have hk3 : 1 ≤ k' ∧ k' ≤ 3 := by omega
    have C2 : Hid (Calls Try.prog 19 #[.int .u32 (ep : Int), .slice a np cp] wr fun e w' => ∃ gr cr, e = .returned (.tuple #[.slice (some ⟨gr, 0, none⟩) k' cr, .nilIface]) ∧ w'.ownsRow wr.heap.size 9 1 (.slice (some ⟨gr, 0, none⟩) k' cr) k' ((blocks ep p).map Nm.txt) ∧ Below wr.heap.size wr w') := by
      refine (SF wr ep (.slice a np cp) p hep HU.out hzu (by omega)).mono ?_
      rintro e w' ⟨r, rfl, ho, hb⟩
      rw [framed, if_neg (by omega)] at ho
      rw [if_neg (by omega)]
      rw [hk'] at ho
      rcases ho.2 with ⟨rfl, h0⟩ | ⟨gr, cr, cur, rfl, _⟩
      · omega
      · exact ⟨gr, cr, rfl, ho, hb⟩
    obtain ⟨BB, hBB⟩ : ∃ x, (blocks ep p).map Nm.txt = x := ⟨_, rfl⟩
    have HBB := Hid.mk' hBB
    have HBL : Hid (BB.length = k') := by show _ = _; rw [← hBB, List.length_map, hk']
    have HKK := Hid.mk' hk'
    have hone : Hid (∀ x ∈ BB, x.oneCell' = true) := by
      intro x hx
      rw [← hBB] at hx
      obtain ⟨b, _, rfl⟩ := List.mem_map.1 hx
      rfl
    have hiI : (i : Int) < (N : Int) := by omega
    have hi0 : (0 : Int) ≤ (i : Int) := by omega
    have hmk : m + k' ≤ 8796093021952 := by
      have h1 := HFT.out (i + 1)
      rw [HPT.out, flat_snoc, List.length_append, hml.out, hk'] at h1
      exact h1
    have hmx : Hid (m + k' ≤ maxLen) := by show _ ≤ _; unfold maxLen; omega
    have hby : Hid ((m + k') * 16 ≤ 140737488355328) := by show _ ≤ _; omega
    clear hmk
    have hk0 : Hid (0 < k') := hk3.1
    have hkt : Hid (k' ≤ 3) := hk3.2
    have hqI : (245 : Int) < (np : Int) → ((np : Int) - 245 + 254).tdiv 255 = ((k' - 1 : Nat) : Int) := fun h => by
      rw [Int.tdiv_eq_ediv_of_nonneg (by omega)]
      omega
    have HQI := Hid.mk' hqI
    have HK245 : Hid (¬ 245 < np → k' = 1) := fun h => by omega
    have hk1 : ((k' - 1 : Nat) : Int) = (k' : Int) - 1 := by omega
    have HK1 := Hid.mk' hk1
    clear hp hy hc hzu hnp hk' hBB hre hrx hg hkk hqI hk1 hrn
    go_wp2_with fail
    refine C2.out.mono ?_
    rintro e x3 ⟨gr, cr, rfl, ho, hb⟩
    have HO3 := Hid.mk' (own_keptB hO.out hb)
    have HB3 := Hid.mk' (hB.out.trans (hb.mono hB.out.size))
    rw [HBB.out] at ho
    have HR3 := Hid.mk' ho
    have HGR : Hid (gr < x3.heap.size) := (ho.lt gr rfl).2
    have hcw3 : x3.cell? ⟨g, o + i, none⟩ = some (.slice a np cp) := (hb.cell (p := ⟨g, o + i, none⟩) (Nat.lt_of_lt_of_le HGX.out hB.out.size)).trans hcw
    have HTX : Hid (∀ j, j < k' → ∃ tt, x3.cell? ⟨gr, j, none⟩ = some (.string (tx tt)) ∧ tt.length ≤ 256) := fun j hj => by
      have hjb : j < (blocks ep p).length := by rw [HKK.out]; exact hj
      refine ⟨(blocks ep p)[j], ?_, blocks_short ep p _ (List.getElem_mem hjb)⟩
      have := ho.cells (g := gr) rfl j (Nm.txt (blocks ep p)[j]) (by rw [← HBB.out, List.getElem?_map, List.getElem?_eq_getElem hjb]; rfl)
      rw [Addr.add_lit, Nat.zero_add] at this
      exact this
    clear ho hb C2 hcw hO hB
    by_cases h245 : 245 < np
    · have hI : (245 : Int) < (np : Int) := by omega
      have hq := HQI.out hI
      rw [HK1.out] at hq
      go_wp2
      go_loopw [12] (fun jv wq => ∃ j : Nat, j ≤ k' ∧ jv = nu (j : Int) ∧ Hid (Below x3.heap.size x3 wq)) (fun jv _ => k' - (intOf jv).toNat)
      case atStart => exact ⟨0, Nat.zero_le _, rfl, Below.refl _ _⟩
      case round =>
      obtain ⟨j, hj, rfl, hBq⟩ := hrel
      by_cases hjk : j < k'
      · obtain ⟨tt, htt, htl⟩ := HTX.out j hjk
        have hct : wr.cell? ⟨gr, j, none⟩ = some (.string (tx tt)) := (hBq.out.cell (p := ⟨gr, j, none⟩) HGR.out).trans htt
        have hts : (tx tt).size = tt.length := rfl
        obtain ⟨f, hf⟩ : ∃ f, tx tt = f := ⟨_, rfl⟩
        rw [hf] at hct hts
        have hfI : ¬ (256 : Int) < (f.size : Int) := by omega
        have hjI : (j : Int) < (k' : Int) := by omega
        clear hf hts htt htl
        go_wp2
        go_roundw
        case rel => exact ⟨j + 1, by omega, by go_num, hBq⟩
        case measure => simp [intOf]; omega
      · obtain rfl : j = k' := by omega
        have HOx := Hid.mk' (own_keptB HO3.out hBq.out)
        have HBx := Hid.mk' (HB3.out.trans (hBq.out.mono HB3.out.size))
        have HCx : Hid (∀ q v, BB[q]? = some v → wr.cell? ((⟨gr, 0, none⟩ : Addr).add q) = some v) := fun q v hq => (own_keptB HR3.out hBq.out).cells (g := gr) rfl q v hq
        clear hj hjk
        go_wp2_with (at_builtin; refine wpList_append_lies _ rfl _ _ 23 rfl x2.heap.size 9 i0 (.string ⟨#[]⟩) 1 16 Try.underlying23 ji hz0 hz1 hz2 rfl (by decide) _ m _ rfl HOx.out ⟨gr, 0, none⟩ j cr BB rfl (by have := HBL.out; omega) HCx.out hone.out hk0.out hmx.out hby.out HBx.out.size _ rfl ?_; intro g3 c3 w3 ho hg hl hlt; have HO4 := Hid.mk' ho; have HB4 : Hid (Below x2.heap.size x2 w3) := Below.grown HBx.out hg HBx.out.size (fun q hq => (HOx.out.lt q hq).1); clear ho hg hl hlt)
        go_roundw
        case rel =>
          refine ⟨i + 1, m + j, by omega, by have := hkt.out; omega, by go_num, ?_, ?_, HB4⟩
          · show World.ownsRow _ _ _ _ _ _ _
            rw [HPT.out, flat_snoc, List.map_append, HBB.out]
            exact HO4.out
          · show _ = _
            rw [HPT.out, flat_snoc, List.length_append, hml.out, HKK.out]
        case measure =>
          simp [intOf]
          omega
    · have hI : ¬ (245 : Int) < (np : Int) := by omega
      obtain rfl : k' = 1 := HK245.out h245
      go_wp2
      go_loopw [12] (fun jv wq => ∃ j : Nat, j ≤ 1 ∧ jv = nu (j : Int) ∧ Hid (Below x3.heap.size x3 wq)) (fun jv _ => 1 - (intOf jv).toNat)
      case atStart => exact ⟨0, Nat.zero_le _, rfl, Below.refl _ _⟩
      case round =>
      obtain ⟨j, hj, rfl, hBq⟩ := hrel
      by_cases hjk : j < 1
      · obtain ⟨tt, htt, htl⟩ := HTX.out j hjk
        have hct : wr.cell? ⟨gr, j, none⟩ = some (.string (tx tt)) := (hBq.out.cell (p := ⟨gr, j, none⟩) HGR.out).trans htt
        have hts : (tx tt).size = tt.length := rfl
        obtain ⟨f, hf⟩ : ∃ f, tx tt = f := ⟨_, rfl⟩
        rw [hf] at hct hts
        have hfI : ¬ (256 : Int) < (f.size : Int) := by omega
        have hjI : (j : Int) < (1 : Int) := by omega
        clear hf hts htt htl
        go_wp2
        go_roundw
        case rel => exact ⟨j + 1, by omega, by go_num, hBq⟩
        case measure => simp [intOf]; omega
      · obtain rfl : j = 1 := by omega
        have HOx := Hid.mk' (own_keptB HO3.out hBq.out)
        have HBx := Hid.mk' (HB3.out.trans (hBq.out.mono HB3.out.size))
        have HCx : Hid (∀ q v, BB[q]? = some v → wr.cell? ((⟨gr, 0, none⟩ : Addr).add q) = some v) := fun q v hq => (own_keptB HR3.out hBq.out).cells (g := gr) rfl q v hq
        clear hj hjk
        go_wp2_with (at_builtin; refine wpList_append_lies _ rfl _ _ 23 rfl x2.heap.size 9 i0 (.string ⟨#[]⟩) 1 16 Try.underlying23 ji hz0 hz1 hz2 rfl (by decide) _ m _ rfl HOx.out ⟨gr, 0, none⟩ 1 cr BB rfl (by have := HBL.out; omega) HCx.out hone.out hk0.out hmx.out hby.out HBx.out.size _ rfl ?_; intro g3 c3 w3 ho hg hl hlt; have HO4 := Hid.mk' ho; have HB4 : Hid (Below x2.heap.size x2 w3) := Below.grown HBx.out hg HBx.out.size (fun q hq => (HOx.out.lt q hq).1); clear ho hg hl hlt)
        go_roundw
        case rel =>
          refine ⟨i + 1, m + 1, by omega, by have := hkt.out; omega, by go_num, ?_, ?_, HB4⟩
          · show World.ownsRow _ _ _ _ _ _ _
            rw [HPT.out, flat_snoc, List.map_append, HBB.out]
            exact HO4.out
          · show _ = _
            rw [HPT.out, flat_snoc, List.length_append, hml.out, HKK.out]
        case measure =>
          simp [intOf]
          omega
  · obtain rfl : i = N := by omega
    have hfin : Hid (PS.take i = PS) := by
      show _ = _
      rw [List.take_of_length_le (by rw [HNN.out]; exact Nat.le_refl _)]
    rw [hfin.out] at hO hml
    have HBW := Hid.mk' (HB2.out.trans (hB.out.mono HB2.out.size))
    obtain ⟨ab, cb, hbv, _⟩ := Nm.own_shape hO.out
    subst hbv
    have C := Hid.mk' (Nm.same_l (.slice ab m cb) (.slice al k cl) (flat ep PS) (flat ep PS) wr (Nm.rd_own (by rw [hml.out]; exact hO.out)) (HRT.out _ HBW.out))
    rw [decide_eq_true rfl] at C
    clear hO hml hm3
    go_wp2_with fail
    refine C.out.mono ?_
    rintro e x9 ⟨rfl, j, rfl⟩
    have HBZ := Hid.mk' (below_dn HBW.out j)
    generalize wr.drewN j = x9 at *
    go_wp2
    go_ret
    exact ⟨rfl, HBZ.out⟩
end Rc
end Go.Proofs.Ytjnodkjeiogloaa
