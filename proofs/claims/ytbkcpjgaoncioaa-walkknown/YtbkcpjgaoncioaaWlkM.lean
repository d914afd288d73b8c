/- WalkLives: out of the contracts, the walk. -/
import Derived.Test.YtbkcpjgaoncioaaWlkL
namespace Go.Proofs.Ytbkcpjgaoncioaa
set_option linter.ambiguousOpen false
open Go.RowKit
namespace Wk
open An Ft Lv
set_option linter.unusedSimpArgs false
set_option linter.unusedVariables false

theorem info_rowW : (Try.prog.info? 35).map (fun i => (i.zero, i.size, i.bytes)) = some (some (.slice none 0 0), 1, 24) := by kernel_rfl

theorem repA_open {base : Nat} {w : World} {g : Nat} {F : Nat → Prop} {A : Arn} (h : RepA base w g F A) (hl : A.sl.length = 32) : ∃ b cap fv, RAn base w g (.slice (some ⟨b, 0, none⟩) 32 cap) fv A ∧ (32 ≤ cap ∧ cap ≤ 9223372036854775807) := by
  obtain ⟨sv, fv, h1, _, _⟩ := h
  obtain ⟨b, cap, rfl, hc1, hc2, _, _⟩ := h1.slot hl 0 (by omega)
  unfold maxLen at hc2
  exact ⟨b, cap, fv, h1, hc1, by omega⟩

theorem cell_row_new (w : World) (cs : Array Value) (t : TypeId) (j : Nat) (u : Value) (h : cs.toList[j]? = some u) : (w.alloc (.cells cs t)).cell? ((⟨w.heap.size, 0, none⟩ : Addr).add j) = some u := by
  rw [Addr.add_mid, Nat.zero_add, cell_of_row _ _ j _ _ _ (heap_alloc_new _ _)]
  simpa using h

set_option maxRecDepth 100000 in
set_option maxHeartbeats 8000000 in
theorem walkLives_yes {Rep : World → Nat → (Nat → Prop) → Arn → Prop} (H : KeepC Rep) (CN : NewC Rep) (CP : PutC Rep) (CW : WritesC Rep) (C : WalkC Rep) (v : Value) (L : List Slt) (u : Value) (K : List (Int × Int)) (w : World) (hR : RdSl w v L) (hK : RdK w u K) (hI : ∀ x ∈ K, I64 x.1 ∧ I64 x.2) :
    Calls Try.prog 3 #[v, u] w fun e w' => e = .returned (.bool true) ∧ Below w.heap.size w w' := by
  obtain ⟨j0, hj, hy0, hy1, hy2⟩ := info_parts info_rowW
  have c0 := Hid.mk' (filled_any H CN CP v L w hR)
  obtain ⟨A, hA⟩ : ∃ A : Arn, (⟨flS L (min L.length 32), arn0.fr, min L.length 32⟩ : Arn) = A := ⟨_, rfl⟩
  have hwr : A.wr ≤ 32 := by rw [← hA]; exact Nat.min_le_right _ _
  have hgood : An.Good A := by rw [← hA]; exact good_fl L _ _
  rw [hA] at c0
  have hlen : A.sl.length = 32 := hgood.len
  obtain ⟨av, cv, rfl, hc1, hc2, hcell⟩ := hK
  obtain ⟨N, hN⟩ : ∃ N, K.length = N := ⟨_, rfl⟩
  rw [hN] at hc1 hcell ⊢
  unfold maxLen at hc2
  have hcI : (cv : Int) ≤ 9223372036854775807 := by omega
  have HN := Hid.mk' hN
  have HCL : Hid (∀ n x wx, K[n]? = some x → Below w.heap.size w wx → ∃ g o, av = some ⟨g, o, none⟩ ∧ wx.cell? ⟨g, o + n * 2, none⟩ = some (nu x.1) ∧ wx.cell? ⟨g, o + n * 2 + 1, none⟩ = some (nu x.2)) := fun n x wx hx hb => by
    obtain ⟨g, o, e1, e2, e3⟩ := hcell (by have := (List.getElem?_eq_some_iff.1 hx).1; omega)
    have := range_bel (e3 n x hx) hb e2
    exact ⟨g, o, e1, this 0 _ rfl, this 1 _ rfl⟩
  have HII := Hid.mk' hI
  have cL : Hid (∀ ws wx p g us ub, Two Rep w ws p g A → Below ws.heap.size ws wx → I64 us ∧ I64 ub → Calls Try.prog 9 #[ptr p, lkU us ub] wx fun e w' => e = .returned (.tuple #[.bool (livB A.sl us ub), nun (livN A.sl us ub)]) ∧ Hid (Below wx.heap.size wx w')) := fun ws wx p g us ub h hb hi => by
    obtain ⟨F, G, h1⟩ := h.below H hb
    exact C.lives wx p F A us ub h1.rep hgood hi.1 hi.2
  have cP : Hid (∀ ws wx p g us ub, Two Rep w ws p g A → Below ws.heap.size ws wx → I64 us ∧ I64 ub → Calls Try.prog 11 #[ptr p, lkU us ub] wx fun e w' => ∃ a c, e = .returned (.slice a (pth A.sl us ub).length c) ∧ Hid (w'.ownsRow wx.heap.size 3 1 (.slice a (pth A.sl us ub).length c) (pth A.sl us ub).length ((pth A.sl us ub).map nun) ∧ Below wx.heap.size wx w')) := fun ws wx p g us ub h hb hi => by
    obtain ⟨F, G, h1⟩ := h.below H hb
    refine (C.path wx p F A us ub h1.rep hgood hi.1 hi.2).mono ?_
    rintro e w' ⟨v, rfl, ho, hb'⟩
    obtain ⟨a, c, rfl, _⟩ := Nm.own_shape ho
    exact ⟨a, c, rfl, ho, hb'⟩
  have rL : Hid (∀ ws wx p g us ub, Two Rep w ws p g A → Below ws.heap.size ws wx → Calls Try.prog 10 #[ptr g, lkU us ub] wx fun e w' => e = .returned (.tuple #[.bool (livB A.sl us ub), nun (livN A.sl us ub)]) ∧ Hid (Below wx.heap.size wx w')) := fun ws wx p g us ub h hb => by
    obtain ⟨F, G, h1⟩ := h.below H hb
    obtain ⟨b, cap, fv, h2, hcc⟩ := repA_open h1.ref hlen
    exact lives_ref g wx g b cap fv A us ub h2 hlen hcc
  have rP : Hid (∀ ws wx p g us ub, Two Rep w ws p g A → Below ws.heap.size ws wx → Calls Try.prog 13 #[ptr g, lkU us ub] wx fun e w' => ∃ a c, e = .returned (.slice a (pth A.sl us ub).length c) ∧ Hid (w'.ownsRow wx.heap.size 3 1 (.slice a (pth A.sl us ub).length c) (pth A.sl us ub).length ((pth A.sl us ub).map nun) ∧ Below wx.heap.size wx w')) := fun ws wx p g us ub h hb => by
    obtain ⟨F, G, h1⟩ := h.below H hb
    obtain ⟨b, cap, fv, h2, hcc⟩ := repA_open h1.ref hlen
    refine (path_ref g wx g b cap fv A us ub h2 hlen hcc).mono ?_
    rintro e w' ⟨v, rfl, ho, hb'⟩
    obtain ⟨a, c, rfl, _⟩ := Nm.own_shape ho
    exact ⟨a, c, rfl, ho, hb'⟩
  have cW : Hid (∀ ws wx p g, Two Rep w ws p g A → Below ws.heap.size ws wx → Calls Try.prog 8 #[ptr p] wx fun e w' => e = .returned (nun A.wr) ∧ Hid (Below wx.heap.size wx w')) := fun ws wx p g h hb => by
    obtain ⟨F, G, h1⟩ := h.below H hb
    exact CW wx p F A h1.rep (by omega)
  have HPL : Hid (∀ us ub, (pth A.sl us ub).length ≤ 7) := fun us ub => pth_len A.sl us ub
  generalize A.wr = W9 at *
  clear hcell hN CN CP CW C H hI hA hgood hR hlen
  go_enter Try.func3, Try.ntmps3
  go_wp2_with fail
  refine c0.out.mono ?_
  rintro e w1 ⟨p, g, rfl, hT⟩
  have HT := Hid.mk' hT
  have HBT := Hid.mk' hT.bel
  clear hT c0
  go_wp2_with fail
  refine (cW.out _ _ _ _ HT.out (Below.refl _ _)).mono ?_
  rintro e w2 ⟨rfl, hb2⟩
  go_wp2_with fail
  go_loopw [9, 10] (fun pv iv wr => ∃ i : Nat, i ≤ N ∧ i ≤ 100 ∧ iv = nun i ∧ Hid (Below w1.heap.size w1 wr ∧ ∃ vs, vs.length = 2 * i ∧ Ps wr w1.heap.size pv vs)) (fun _ iv _ => N - (intOf iv).toNat)
  case atStart => exact ⟨0, by omega, by omega, rfl, hb2.out, [], rfl, Ps.nil _ _ hb2.out.size⟩
  case round =>
    clear hb2
    obtain ⟨i, hiN, hi1, rfl, HS⟩ := hrel
    obtain ⟨hbr, vs, hvl, hps⟩ := HS.out
    by_cases hgo : i < N ∧ i < 100
    · obtain ⟨hlt, h100⟩ := hgo
      have hlI : (i : Int) < (N : Int) := by omega
      have h1I : (i : Int) < 100 := by omega
      obtain ⟨x, hx⟩ : ∃ x, K[i]? = some x := ⟨_, List.getElem?_eq_getElem (by rw [HN.out]; exact hlt)⟩
      have HIX := Hid.mk' (HII.out x (List.mem_of_getElem? hx))
      have HCX : Hid (∀ wx, Below w1.heap.size w1 wx → ∃ g o, av = some ⟨g, o, none⟩ ∧ wx.cell? ⟨g, o + i * 2, none⟩ = some (nu x.1) ∧ wx.cell? ⟨g, o + i * 2 + 1, none⟩ = some (nu x.2)) := fun wx hb => HCL.out i x wx hx (HBT.out.trans (hb.mono HBT.out.size))
      obtain ⟨us, ub⟩ := x
      dsimp only at HIX HCX
      obtain ⟨g0, o0, rfl, q0, q1⟩ := HCX.out wr hbr
      have HCY : Hid (∀ wx, Below w1.heap.size w1 wx → wx.cell? ⟨g0, o0 + i * 2, none⟩ = some (nu us) ∧ wx.cell? ⟨g0, o0 + i * 2 + 1, none⟩ = some (nu ub)) := fun wx hb => by
        obtain ⟨g', o', e', h1, h2⟩ := HCX.out wx hb
        simp only [Option.some.injEq, Addr.mk.injEq, and_true] at e'
        obtain ⟨rfl, rfl⟩ := e'
        exact ⟨h1, h2⟩
      have hpl := HPL.out us ub
      have d1 : Hid (∀ wx, Below w1.heap.size w1 wx → _) := fun wx hb => cL.out w1 wx p g us ub HT.out hb HIX.out
      have d2 : Hid (∀ wx, Below w1.heap.size w1 wx → _) := fun wx hb => rL.out w1 wx p g us ub HT.out hb
      have d3 : Hid (∀ wx, Below w1.heap.size w1 wx → _) := fun wx hb => cP.out w1 wx p g us ub HT.out hb HIX.out
      have d4 : Hid (∀ wx, Below w1.heap.size w1 wx → _) := fun wx hb => rP.out w1 wx p g us ub HT.out hb
      generalize livB A.sl us ub = lb at *
      generalize livN A.sl us ub = ln at *
      generalize hPT : pth A.sl us ub = PT at *
      obtain ⟨n, hn⟩ : ∃ n, PT.length = n := ⟨_, rfl⟩
      have HPT := Hid.mk' hn
      rw [hn] at hpl
      simp only [hn] at d3 d4
      have hbb : (lb != lb) = false := by cases lb <;> rfl
      have hnn : ((ln : Int) != (ln : Int)) = false := by simp
      have HBR := Hid.mk' hbr
      have HPS := Hid.mk' hps
      have HVL := Hid.mk' hvl
      clear hx HCX hbr hps hvl HS hn hPT
      go_wp2_with fail
      refine (d1.out _ HBR.out).mono ?_
      rintro e w3 ⟨rfl, hb3⟩
      have HB3 : Hid (Below w1.heap.size w1 w3) := HBR.out.trans (hb3.out.mono HBR.out.size)
      have HP3 := Hid.mk' (HPS.out.below hb3.out)
      clear q0 q1 hb3 d1 HBR HPS
      obtain ⟨q0, q1⟩ := HCY.out w3 HB3.out
      go_wp2_with fail
      refine (d2.out _ HB3.out).mono ?_
      rintro e w4 ⟨rfl, hb4⟩
      have HB4 : Hid (Below w1.heap.size w1 w4) := HB3.out.trans (hb4.out.mono HB3.out.size)
      have HP4 := Hid.mk' (HP3.out.below hb4.out)
      clear q0 q1 hb4 d2 HB3 HP3
      obtain ⟨q0, q1⟩ := HCY.out w4 HB4.out
      go_wp2_with fail
      refine (d3.out _ HB4.out).mono ?_
      rintro e w5 ⟨a5, c5, rfl, hQ5⟩
      have HB5 : Hid (Below w1.heap.size w1 w5) := HB4.out.trans (hQ5.out.2.mono HB4.out.size)
      have HP5 := Hid.mk' (HP4.out.below hQ5.out.2)
      clear q0 q1
      obtain ⟨q0, q1⟩ := HCY.out w5 HB5.out
      go_wp2_with fail
      refine (d4.out _ HB5.out).mono ?_
      rintro e w6 ⟨a6, c6, rfl, hQ6⟩
      have HB6 : Hid (Below w1.heap.size w1 w6) := HB5.out.trans (hQ6.out.2.mono HB5.out.size)
      have HP6 := Hid.mk' (HP5.out.below hQ6.out.2)
      have HO6 := Hid.mk' (own_belW hQ5.out.1 hQ6.out.2)
      have C6 := Hid.mk' (sameN (.slice a5 n c5) (.slice a6 n c6) PT w6 (own_rdN HO6.out) (own_rdN hQ6.out.1))
      have h56 := hQ6.out.2.size
      clear q0 q1 hQ6 d4 HB5 HP5
      go_wp2_with fail
      refine C6.out.mono ?_
      rintro e w7 ⟨rfl, hb7⟩
      have HB7 : Hid (Below w1.heap.size w1 w7) := HB6.out.trans (hb7.mono HB6.out.size)
      have HP7 := Hid.mk' (HP6.out.below hb7)
      have HO7 := Hid.mk' (own_belW HO6.out hb7)
      have h45 := hQ5.out.2.size
      have h67 := hb7.size
      clear hb7 C6 HB6 HP6 HO6
      obtain ⟨q0, q1⟩ := HCY.out w7 HB7.out
      go_wp2_with fail
      refine (d3.out _ HB7.out).mono ?_
      rintro e w8 ⟨a8, c8, rfl, hQ8⟩
      have HB8 : Hid (Below w1.heap.size w1 w8) := HB7.out.trans (hQ8.out.2.mono HB7.out.size)
      have HP8 := Hid.mk' (HP7.out.below hQ8.out.2)
      have HO8 := Hid.mk' (own_belW HO7.out hQ8.out.2)
      have h14 := HB4.out.size
      have h17 := HB7.out.size
      have h78 := hQ8.out.2.size
      have HTW : Hid (∀ pv' w9, w9.ownsRow w1.heap.size 35 1 pv' (vs.length + 2) (vs ++ [.slice a5 n c5, .slice a8 n c8]) → (w8.alloc (.cells #[.slice a5 n c5, .slice a8 n c8] 35)).grownBy w9 u9.ownBlock → Ps w9 w1.heap.size pv' (vs ++ [.slice a5 n c5, .slice a8 n c8]) ∧ Below w1.heap.size w1 w9) := fun pv' w9 ho9 hg9 => by
        refine ⟨HP8.out.two ⟨n, _, hpl, own_monoA HO8.out h14⟩ ⟨n, _, hpl, own_monoA hQ8.out.1 h17⟩ (fun b e1 e2 => ?_) (fun l hl b e1 e2 => ?_) (fun l hl b e1 e2 => ?_) ho9 hg9, ?_⟩
        · have h1 := (HO7.out.lt b e1).2
          have h2 := (hQ8.out.1.lt b e2).1
          omega
        · obtain ⟨n', xs, _, h3⟩ := HP4.out.own l hl
          have h1 := (h3.lt b e1).2
          have h2 := (HO8.out.lt b e2).1
          omega
        · obtain ⟨n', xs, _, h3⟩ := HP7.out.own l hl
          have h1 := (h3.lt b e1).2
          have h2 := (hQ8.out.1.lt b e2).1
          omega
        · have hb9 := HB8.out.alloc (o := .cells #[.slice a5 n c5, .slice a8 n c8] 35) HB8.out.size
          exact hb9.grown hg9 hb9.size (fun k hk => (HP8.out.row.lt k hk).1)
      have hvl := HVL.out
      clear q0 q1 hQ8 d3 HB4 HP4 HB7 HP7 HO7 HO8 hQ5 HVL
      go_wp2_with (first | (at_builtin; refine wpList_append_own _ rfl _ _ 29 rfl w1.heap.size 35 j0 (.slice none 0 0) 1 24 Try.underlying29 hj hy0 hy1 hy2 rfl (by decide) _ _ _ rfl (HP8.out.row.alloc _) ⟨w8.heap.size, 0, none⟩ 2 2 [.slice a5 n c5, .slice a8 n c8] rfl rfl (fun j u hj => cell_row_new _ _ _ j u hj) (by simp [Value.oneCell']) (by unfold maxLen; omega) (by omega) (by simp; omega) ?_; intro v9 w9 ho9 hg9 _; have HPS9 := Hid.mk' (HTW.out v9 w9 ho9 hg9); clear ho9 hg9 HTW) | fail)
      go_roundw
      case rel => exact ⟨i + 1, by omega, by omega, by go_num, HPS9.out.2, _, by simp; omega, HPS9.out.1⟩
      case measure => simp [intOf]; omega
    · have c9 : Hid (Calls Try.prog 14 #[u9] wr fun e w' => e = .returned (.bool true) ∧ Hid (Below w1.heap.size w1 w')) := apart_ps w1 wr u9 vs hps hbr (by omega)
      have hww : ((W9 : Int) == (W9 : Int)) = true := by simp
      clear hps hbr HS cL rL cP rP HCL HII HPL
      by_cases hlt : i < N
      · have hlI : (i : Int) < (N : Int) := by omega
        have h1I : ¬ (i : Int) < 100 := by omega
        go_wp2_with fail
        refine c9.out.mono ?_
        rintro e w3 ⟨rfl, hb3⟩
        go_wp2_with fail
        refine (cW.out _ _ _ _ HT.out hb3.out).mono ?_
        rintro e w4 ⟨rfl, hb4⟩
        go_wp2
        go_ret
        exact ⟨rfl, HBT.out.trans ((hb3.out.trans (hb4.out.mono hb3.out.size)).mono HBT.out.size)⟩
      · have hlI : ¬ (i : Int) < (N : Int) := by omega
        go_wp2_with fail
        refine c9.out.mono ?_
        rintro e w3 ⟨rfl, hb3⟩
        go_wp2_with fail
        refine (cW.out _ _ _ _ HT.out hb3.out).mono ?_
        rintro e w4 ⟨rfl, hb4⟩
        go_wp2
        go_ret
        exact ⟨rfl, HBT.out.trans ((hb3.out.trans (hb4.out.mono hb3.out.size)).mono HBT.out.size)⟩
end Wk
end Go.Proofs.Ytbkcpjgaoncioaa
