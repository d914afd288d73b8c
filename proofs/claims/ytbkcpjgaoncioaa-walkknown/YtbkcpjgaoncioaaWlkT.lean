/- WalkPath: out of the contracts. -/
import Derived.Test.YtbkcpjgaoncioaaWlkF
import Derived.Test.YtbkcpjgaoncioaaWlkH
namespace Go.Proofs.Ytbkcpjgaoncioaa
set_option linter.ambiguousOpen false
open Go.RowKit
namespace Wk
open An Ft Lv
set_option linter.unusedSimpArgs false
set_option linter.unusedVariables false

theorem RdSl.below {w w' : World} {v : Value} {L : List Slt} (h : RdSl w v L) (hb : Below w.heap.size w w') : RdSl w' v L := by
  obtain ⟨a, cap, h1, h2, h3, h4⟩ := h
  refine ⟨a, cap, h1, h2, h3, fun h0 => ?_⟩
  obtain ⟨g, o, e1, e2, e3⟩ := h4 h0
  exact ⟨g, o, e1, Nat.lt_of_lt_of_le e2 hb.size, fun n x hx => range_bel (e3 n x hx) hb e2⟩

theorem below_dnW {b : Nat} {w w' : World} (h : Below b w w') (n : Nat) : Below b w (w'.drewN n) := ⟨h.os, h.tape, h.output, h.size, h.block⟩

set_option maxRecDepth 100000 in
set_option maxHeartbeats 8000000 in
theorem walkPath_yes {Rep : World → Nat → (Nat → Prop) → Arn → Prop} (H : KeepC Rep) (CN : NewC Rep) (CP : PutC Rep) (CG : GetC Rep) (C : WalkC Rep) (v : Value) (L : List Slt) (us ub : Int) (w : World) (hR : RdSl w v L) (hus : I64 us) (hub : I64 ub) (hbirth : ∀ x ∈ L, I64 x.s.birth) :
    Calls Try.prog 5 #[v, lkU us ub] w fun e w' => e = .returned (.bool true) ∧ Below w.heap.size w w' := by
  have hB0 : Below w.heap.size w (w.alloc (.cells #[nu us, nu ub] 33)) := (Below.refl _ _).alloc (Nat.le_refl _) _
  have hL0 := lnl_new w us ub
  obtain ⟨lb, hlb⟩ : ∃ lb, w.heap.size = lb := ⟨_, rfl⟩
  obtain ⟨W0, hW0⟩ : ∃ W0, w.alloc (.cells #[nu us, nu ub] 33) = W0 := ⟨_, rfl⟩
  rw [hW0] at hB0 hL0
  rw [hlb] at hL0
  have HW0 := Hid.mk' hW0
  have HLB := Hid.mk' hlb
  have HB0 := Hid.mk' hB0
  have HL0 := Hid.mk' hL0
  obtain ⟨A, hA⟩ : ∃ A : Arn, (⟨flS L (min L.length 32), arn0.fr, min L.length 32⟩ : Arn) = A := ⟨_, rfl⟩
  have hgood : An.Good A := by rw [← hA]; exact good_fl L _ _
  have c0 : Hid (∃ av nv cv, v = .slice av nv cv ∧ Calls Try.prog 7 #[.slice av nv cv] W0 fun e w' => ∃ p g, e = .returned (.tuple #[ptr p, ptr g, .bool true]) ∧ Hid (Two Rep W0 w' p g A)) := by
    have h' := hR.below hB0
    obtain ⟨av, cv, e, _⟩ := id h'
    have c := filled_any H CN CP v L W0 h'
    rw [hA] at c
    exact ⟨av, _, cv, e, by rw [← e]; exact c⟩
  have hbi : ∀ k : Nat, k < 32 → I64 (atW A.sl k).s.birth := fun k hk => by
    have key : ∀ n, n ≤ L.length → n ≤ 32 → I64 ((flS L n).getD k bare).s.birth := fun n => by
      induction n with
      | zero =>
        intro _ _
        have e : (flS L 0).getD k bare = bare := by
          show (List.replicate 32 bare).getD k bare = bare
          rw [List.getD_eq_getElem?_getD, List.getElem?_replicate, if_pos hk]
          rfl
        rw [e]
        exact ⟨by decide, by decide⟩
      | succ n ih =>
        intro h1 h2
        have hl := flS_len L n
        rw [flS, List.getD_eq_getElem?_getD, List.getElem?_set]
        by_cases e : n = k
        · rw [if_pos e, if_pos (by omega)]
          refine hbirth _ ?_
          show L.getD n bare ∈ L
          rw [List.getD_eq_getElem?_getD, List.getElem?_eq_getElem (by omega)]
          exact List.getElem_mem _
        · rw [if_neg e, ← List.getD_eq_getElem?_getD]
          exact ih (by omega) (by omega)
    have := key (min L.length 32) (Nat.min_le_left _ _) (Nat.min_le_right _ _)
    rw [← hA]
    unfold atW
    rw [Int.toNat_natCast]
    exact this
  have cWk : Hid (∀ wx, Calls Try.prog 17 #[] wx fun e w' => e = .returned (.bool true) ∧ Hid (Below wx.heap.size wx w')) := fun wx => works_any H CN CP C wx
  have cL : Hid (∀ ws wx p g s b, Two Rep W0 ws p g A → Below ws.heap.size ws wx → I64 s ∧ I64 b → Calls Try.prog 9 #[ptr p, lkU s b] wx fun e w' => e = .returned (.tuple #[.bool (livB A.sl s b), nun (livN A.sl s b)]) ∧ Hid (Below wx.heap.size wx w')) := fun ws wx p g s b h hb hi => by
    obtain ⟨F, G, h1⟩ := h.below H hb
    exact C.lives wx p F A s b h1.rep hgood hi.1 hi.2
  have cP : Hid (∀ ws wx p g, Two Rep W0 ws p g A → Below ws.heap.size ws wx → Calls Try.prog 11 #[ptr p, lkU us ub] wx fun e w' => ∃ a c, e = .returned (.slice a (pth A.sl us ub).length c) ∧ Hid (w'.ownsRow wx.heap.size 3 1 (.slice a (pth A.sl us ub).length c) (pth A.sl us ub).length ((pth A.sl us ub).map nun) ∧ Below wx.heap.size wx w')) := fun ws wx p g h hb => by
    obtain ⟨F, G, h1⟩ := h.below H hb
    refine (C.path wx p F A us ub h1.rep hgood hus hub).mono ?_
    rintro e w' ⟨v, rfl, ho, hb'⟩
    obtain ⟨a, c, rfl, _⟩ := Nm.own_shape ho
    exact ⟨a, c, rfl, ho, hb'⟩
  have cG : Hid (∀ ws wx p g (k : Nat), Two Rep W0 ws p g A → Below ws.heap.size ws wx → k < 32 → Calls Try.prog 19 #[ptr p, nun k] wx fun e w' => e = .returned (.tuple #[(atW A.sl k).v, .nilIface]) ∧ Hid (Below wx.heap.size wx w')) := fun ws wx p g k h hb hk => by
    obtain ⟨F, G, h1⟩ := h.below H hb
    have := CG wx p F A k h1.rep hgood (by omega)
    unfold Arn.at Arn.atE at this
    rw [if_pos (by omega), if_pos (by omega)] at this
    exact this
  have hn6 := livN_le A.sl us ub
  have hplen := pth_len A.sl us ub
  have HPF : Hid ((livB A.sl us ub = true → (pth A.sl us ub).length = livN A.sl us ub + 1) ∧ (livB A.sl us ub = false → (pth A.sl us ub).length = 0)) := ⟨fun h => (pth_yes h).2, fun h => by rw [pth_no h]; rfl⟩
  have HPA : Hid (livB A.sl us ub = true → ∀ (i x : Nat), (pth A.sl us ub)[i]? = some x → x < 32 ∧ livB A.sl x (atW A.sl x).s.birth = true ∧ livN A.sl x (atW A.sl x).s.birth + i = livN A.sl us ub ∧ ((atW A.sl x).s.ub = 0 ↔ i = livN A.sl us ub)) := fun h i x hx => by
    obtain ⟨hi, rfl⟩ := List.getElem?_eq_some_iff.1 hx
    exact ⟨pth_lt A.sl us ub _ (List.getElem_mem hi), pth_at h i hi⟩
  have HPO : Hid (∀ i j x, (pth A.sl us ub)[i]? = some x → (pth A.sl us ub)[j]? = some x → i = j) := fun i j x h1 h2 => by
    obtain ⟨hi, e1⟩ := List.getElem?_eq_some_iff.1 h1
    obtain ⟨hj, e2⟩ := List.getElem?_eq_some_iff.1 h2
    exact pth_once i j hi hj (e1.trans e2.symm)
  have HP1 : Hid (livB A.sl us ub = true → ∀ x : Nat, (pth A.sl us ub)[0]? = some x → (x : Int) = us) := fun h x hx => by
    obtain ⟨hi, rfl⟩ := List.getElem?_eq_some_iff.1 hx
    exact pth_first h hi
  have HBI := Hid.mk' hbi
  obtain ⟨B, hB⟩ : ∃ B, livB A.sl us ub = B := ⟨_, rfl⟩
  obtain ⟨n, hn⟩ : ∃ n, livN A.sl us ub = n := ⟨_, rfl⟩
  obtain ⟨PT, hPT⟩ : ∃ PT, pth A.sl us ub = PT := ⟨_, rfl⟩
  have cL0 : Hid (∀ ws wx p g, Two Rep W0 ws p g A → Below ws.heap.size ws wx → Calls Try.prog 9 #[ptr p, lkU us ub] wx fun e w' => e = .returned (.tuple #[.bool B, nun n]) ∧ Hid (Below wx.heap.size wx w')) := fun ws wx p g h hb => by
    have := cL.out ws wx p g us ub h hb ⟨hus, hub⟩
    rw [hB, hn] at this
    exact this
  simp only [hB, hn, hPT] at hn6 hplen HPF HPA HPO HP1 cP
  obtain ⟨N, hN⟩ : ∃ N, PT.length = N := ⟨_, rfl⟩
  rw [hN] at hplen
  simp only [hN] at cP HPF
  have HN := Hid.mk' hN
  have hn6I : ¬ (6 : Int) < (n : Int) := by omega
  have hn0I : ¬ (n : Int) < 0 := by omega
  obtain ⟨av, nv, cv, rfl, cF⟩ := c0.out
  have C0 := Hid.mk' cF
  clear hR hbirth hbi hB hn hPT hN hA hgood H CN CP CG C hB0 hL0 hW0 hlb hus hub c0 cF
  go_enter Try.func5, Try.ntmps5
  go_upto_region 1 with fail
  rw [HW0.out, HLB.out]
  go_wp2_with fail
  refine C0.out.mono ?_
  rintro e w1 ⟨p, g, rfl, hT⟩
  have HT := hT
  have HL1 := Hid.mk' (HL0.out.below hT.out.bel)
  have HB1 : Hid (Below w.heap.size w w1) := HB0.out.trans (hT.out.bel.mono HB0.out.size)
  clear hT C0 HL0 HB0 HW0 HLB
  have HLX : Hid (∀ wx, Below w1.heap.size w1 wx → wx.cell? ⟨lb, 0, none⟩ = some (nu us) ∧ wx.cell? ⟨lb, 1, none⟩ = some (nu ub)) := fun wx hb => ⟨(HL1.out.below hb).cells.1, (HL1.out.below hb).cells.2.1⟩
  go_wp2_with fail
  refine (cWk.out _).mono ?_
  rintro e w2 ⟨rfl, hb2⟩
  have HB2 : Hid (Below w1.heap.size w1 w2) := hb2.out
  obtain ⟨q0, q1⟩ := HLX.out w2 hb2.out
  clear hb2 cWk HL1
  go_wp2_with fail
  refine (cL0.out _ _ _ _ HT.out HB2.out).mono ?_
  rintro e w3 ⟨rfl, hb3⟩
  have HB3 : Hid (Below w1.heap.size w1 w3) := HB2.out.trans (hb3.out.mono HB2.out.size)
  clear q0 q1 hb3 cL0 HB2
  obtain ⟨q0, q1⟩ := HLX.out w3 HB3.out
  go_wp2_with fail
  refine (cP.out _ _ _ _ HT.out HB3.out).mono ?_
  rintro e w4 ⟨a4, c4, rfl, hQ4⟩
  have HB4 : Hid (Below w1.heap.size w1 w4) := HB3.out.trans (hQ4.out.2.mono HB3.out.size)
  have HO4 := Hid.mk' hQ4.out.1
  clear q0 q1 hQ4 cP HB3
  cases B with
  | false =>
    obtain rfl : N = 0 := HPF.out.2 rfl
    have h01 : ((0 : Int) == (n : Int) + 1) = false := by simp; omega
    clear HPF HPA HPO HP1 HBI cL cG HO4 HN
    go_wp2
    go_loopw [11] (fun iv wr => iv = nun 0 ∧ Hid (wr = w4)) (fun _ _ => 0)
    case atStart => exact ⟨rfl, rfl⟩
    case round =>
      obtain ⟨rfl, hw⟩ := hrel
      have hwr := hw.out
      subst hwr
      obtain ⟨q0, q1⟩ := HLX.out wr HB4.out
      go_wp2_with fail
      go_quiet (fail)
      go_wp2
      go_ret
      exact ⟨rfl, below_dnW (HB1.out.trans (HB4.out.mono HB1.out.size)) nq⟩
  | true =>
    obtain rfl : N = n + 1 := HPF.out.1 rfl
    have h01 : ((n : Int) + 1 == (n : Int) + 1) = true := by simp
    have HAT := Hid.mk' (HPA.out rfl)
    have HFI := Hid.mk' (HP1.out rfl)
    clear HPF HPA HP1
    obtain ⟨a', c', e4, hca, hcm, hcg⟩ := Nm.own_shape HO4.out
    obtain ⟨rfl, rfl⟩ : a4 = a' ∧ c4 = c' := by simpa using e4
    obtain ⟨pb, rfl⟩ := hcg (by omega)
    unfold maxLen at hcm
    have HPC : Hid (∀ k x wx, PT[k]? = some x → Below w4.heap.size w4 wx → wx.cell? ⟨pb, k, none⟩ = some (nun x)) := fun k x wx hx hb => by
      have hkl := (List.getElem?_eq_some_iff.1 hx).1
      have h1 := HO4.out.cellAt (g := pb) (cap := c4) k (by have := HN.out; omega)
      rw [List.getElem?_map, hx] at h1
      exact (hb.cell (p := ⟨pb, k, none⟩) (HO4.out.lt pb rfl).2).trans h1
    have HB4s := HB4.out.size
    clear e4 hcg hcm
    go_wp2
    go_loopw [11] (fun iv wr => ∃ i : Nat, i ≤ n + 1 ∧ iv = nun i ∧ Hid (Below w4.heap.size w4 wr)) (fun iv _ => n + 1 - (intOf iv).toNat)
    case atStart => exact ⟨0, by omega, rfl, Below.refl _ _⟩
    case round =>
      obtain ⟨i, hi, rfl, HB⟩ := hrel
      by_cases hlt : i < n + 1
      · have hltI : (i : Int) < (n : Int) + 1 := by omega
        obtain ⟨x, hx⟩ : ∃ x, PT[i]? = some x := ⟨_, List.getElem?_eq_getElem (by rw [HN.out]; exact hlt)⟩
        obtain ⟨hx32, hy1, hy2, hy3⟩ := HAT.out i x hx
        have qc := HPC.out i x wr hx HB.out
        have hB1r : Below w1.heap.size w1 wr := HB4.out.trans (HB.out.mono HB4s)
        have c5 := Hid.mk' (cG.out w1 wr p g x HT.out hB1r hx32)
        obtain ⟨y, hy⟩ : ∃ y, atW A.sl x = y := ⟨_, rfl⟩
        rw [hy] at c5 hy1 hy2 hy3
        have hI := HBI.out x hx32
        rw [hy] at hI
        obtain ⟨k, hk⟩ : ∃ k, livN A.sl x y.s.birth = k := ⟨_, rfl⟩
        rw [hk] at hy2
        have cLx : Hid (∀ wx, Below w1.heap.size w1 wx → Calls Try.prog 9 #[ptr p, lkU x y.s.birth] wx fun e w' => e = .returned (.tuple #[.bool true, nun k]) ∧ Hid (Below wx.heap.size wx w')) := fun wx hb => by
          have := cL.out w1 wx p g x y.s.birth HT.out hb ⟨⟨by omega, by omega⟩, hI⟩
          rw [hy1, hk] at this
          exact this
        have HX := Hid.mk' hx
        have HBr := Hid.mk' hB1r
        have hki : ((k : Int) != (n : Int) - (i : Int)) = false := by simp; omega
        have hue : (!((y.s.ub == 0) == ((i : Int) == (n : Int)))) = false := by
          by_cases e : i = n
          · have h1 := hy3.2 e
            have h2 : ((i : Int) == (n : Int)) = true := by simp [e]
            rw [h1, h2]
            rfl
          · have h1 : (y.s.ub == 0) = false := by simpa using (fun q => e (hy3.1 q))
            have h2 : ((i : Int) == (n : Int)) = false := by simp; omega
            rw [h1, h2]
            rfl
        have hi0 : (0 : Int) ≤ (i : Int) := by omega
        clear hx hy hI hk hB1r hy1 hy2 hy3
        go_wp2_with fail
        refine c5.out.mono ?_
        rintro e w6 ⟨rfl, hb6⟩
        have HB6 : Hid (Below w4.heap.size w4 w6) := HB.out.trans (hb6.out.mono HB.out.size)
        have HZ := Hid.mk' (lone_zero w6)
        have HBZ : Hid (Below w4.heap.size w4 (w6.alloc (.cells sltZ 52))) := HB6.out.alloc HB6.out.size _
        clear qc hb6 c5 HB
        go_upto_region 12 with (first | (refine wpList_store_lone rfl _ _ rfl w6.heap.size rfl y rfl slt0 HZ.out ?_; intro w7 hl7 hg7 hs7; have HL7 := Hid.mk' hl7; have HB7 : Hid (Below w4.heap.size w4 w7) := (HBZ.out.grown hg7 HBZ.out.size (fun r e => by cases e; exact HB6.out.size)); clear hl7 hg7 hs7) | fail)
        obtain ⟨sb, hsb⟩ : ∃ sb, w6.heap.size = sb := ⟨_, rfl⟩
        rw [hsb] at HL7
        simp only [hsb]
        have hls : sb < w7.heap.size := (Array.getElem?_eq_some_iff.1 HL7.out).1
        have HS : Hid (∀ wx, Below w7.drew.heap.size w7.drew wx → wx.cell? ⟨pb, i, none⟩ = some (nun x) ∧ wx.cell? ⟨sb, 6, none⟩ = some (nu y.s.birth)) := fun wx hb => by
          have hb' : Below w4.heap.size w4 wx := HB7.out.drew.trans (hb.mono HB7.out.drew.size)
          exact ⟨HPC.out i x wx HX.out hb', (Lone.cells (w := wx) ((hb.block sb hls).trans HL7.out)).2.2.2.2.2.2.1⟩
        have HSD := Hid.mk' (HS.out w7.drew (Below.refl _ _))
        have z0 : w7.cell? ⟨pb, i, none⟩ = some (nun x) := HSD.out.1
        have z1 : w7.cell? ⟨sb, 6, none⟩ = some (nu y.s.birth) := HSD.out.2
        have c8 := Hid.mk' (cLx.out w7.drew (HB4.out.trans (HB7.out.drew.mono HB4s)))
        have HUB : Hid (∀ wx, Below w7.drew.heap.size w7.drew wx → wx.cell? ⟨sb, 8, none⟩ = some (nu y.s.ub)) := fun wx hb => (Lone.cells (w := wx) ((hb.block sb hls).trans HL7.out)).2.2.2.2.2.2.2.2.1
        clear HZ HBZ hsb HB6 cLx
        go_region_held3 (fun w' => w'.cell? ⟨pb, i, none⟩ = some (nun x) ∧ w'.cell? ⟨sb, 6, none⟩ = some (nu y.s.birth)) (first | assumption | exact HSD.out | exact hs9 | fail) (first | (go_at_call 9; with_reducible refine c8.out.mono ?_; rintro e w9 ⟨rfl, hb9⟩; have hs9 := HS.out w9 hb9.out) | fail)
        have HB9 : Hid (Below w4.heap.size w4 w9) := HB7.out.drew.trans (hb9.out.mono HB7.out.drew.size)
        have z8 := HUB.out w9 hb9.out
        clear z0 z1 HS HSD HUB hb9 hs9 c8 HL7 HB7
        go_wp2
        clear z8
        rename World => wv
        go_loopw [16] (fun jv wr => ∃ j : Nat, j ≤ i ∧ jv = nun j ∧ Hid (Below w4.heap.size w4 wr)) (fun jv _ => i - (intOf jv).toNat)
        case atStart => exact ⟨0, by omega, rfl, HB9⟩
        case round =>
          obtain ⟨j, hj, rfl, HBj⟩ := hrel
          by_cases hji : j < i
          · have hjI : (j : Int) < (i : Int) := by omega
            have hj0 : (0 : Int) ≤ (j : Int) := by omega
            have hjn : (j : Int) < (n : Int) + 1 := by omega
            obtain ⟨x', hx'⟩ : ∃ x', PT[j]? = some x' := ⟨_, List.getElem?_eq_getElem (by rw [HN.out]; omega)⟩
            have qa := HPC.out j x' wr hx' HBj.out
            have qb := HPC.out i x wr HX.out HBj.out
            have hne : ((x' : Int) == (x : Int)) = false := by
              have : x' ≠ x := fun e => by have := HPO.out j i x (e ▸ hx') HX.out; omega
              simp
              omega
            clear hx'
            go_wp2_with fail
            go_quiet (fail)
            have HBq := Hid.mk' (below_dnW HBj.out nq)
            go_wp2
            go_roundw
            case rel => exact ⟨j + 1, by omega, by go_num, HBq⟩
            case measure => simp [intOf]; omega
          · have hjI : ¬ (j : Int) < (i : Int) := by omega
            go_wp2
            go_roundw
            case rel => exact ⟨i + 1, by omega, by go_num, HBj⟩
            case measure => simp [intOf]; omega
      · have hltI : ¬ (i : Int) < (n : Int) + 1 := by omega
        obtain ⟨x, hx⟩ : ∃ x, PT[0]? = some x := ⟨_, List.getElem?_eq_getElem (by rw [HN.out]; omega)⟩
        have hfx := HFI.out x hx
        have qc := HPC.out 0 x wr hx HB.out
        have HBr : Hid (Below w1.heap.size w1 wr) := HB4.out.trans (HB.out.mono HB4s)
        obtain ⟨q0, q1⟩ := HLX.out wr HBr.out
        have hxe : ((x : Int) == us) = true := by simpa using hfx
        clear hx hfx
        go_wp2_with fail
        go_quiet (fail)
        go_wp2
        go_ret
        exact ⟨rfl, below_dnW (HB1.out.trans (HBr.out.mono HB1.out.size)) nq⟩
end Wk
end Go.Proofs.Ytbkcpjgaoncioaa
