import Derived.Test.YteclbmmhidmklaaDoorHfM
/- Whatever is set and dropped, each call answers as the document has it: HeapPlays out of what the program's calls must answer. -/
namespace Go.Proofs.YteclbmmhidmklaaDoor
set_option linter.ambiguousOpen false
open Go.RowKit
namespace Hh
open Ft
set_option linter.unusedSimpArgs false
set_option linter.unusedVariables false
attribute [local go_sem] Oper.semAt_some

set_option maxRecDepth 1000000 in
set_option maxHeartbeats 16000000 in
theorem heapPlays_yes {R : RepHT} (C : HeapC R) (n : Int) (sv : Value) (L : List Hact) (w : World) (hR : RdA w sv L) (hF : ∀ x ∈ L, x.fits) (hE : Er.Handle w) :
    Calls Tryd.prog 3 #[nu n, sv] w fun e w' => e = .returned (.bool true) ∧ Below w.heap.size w w' := by
  obtain ⟨av, cv, rfl, hc1, hc2, hcell⟩ := hR
  obtain ⟨m, hm⟩ : ∃ m, L.length = m := ⟨_, rfl⟩
  have HM := Hid.mk' hm
  have HCL := Hid.mk' hcell
  have HF := Hid.mk' hF
  rw [hm] at hc1 ⊢
  unfold maxLen at hc2
  have HC := Hid.mk' C
  have HE := Hid.mk' hE
  have hcI : (cv : Int) ≤ 9223372036854775807 := by omega
  have c1 := Hid.mk' (C.new w n)
  have cPl : Hid (∀ wx (z : Nat), z ≤ 24 → Below w.heap.size w wx → Calls Tryd.prog 7 #[errE z, nun z] wx fun e w' => e = .returned (.bool true) ∧ True ∧ Hid (Below wx.heap.size wx w')) := fun wx z hz hb => by
    refine (plainH z hz wx (hE.below hb)).mono ?_
    rintro e w' ⟨rfl, hb'⟩
    exact ⟨rfl, trivial, hb'⟩
  clear hcell hF hm hE
  by_cases hn : n < 1 ∨ 65536 < n
  · have c2 : Hid (∀ wx, Calls Tryd.prog 6 #[nu n] wx fun e w' => e = .returned (.tuple #[.pointer none, nu 1]) ∧ Below wx.heap.size wx w') := fun wx => by
      have := newH_ref n wx
      simpa only [if_pos hn] using this
    simp only [if_pos hn] at c1
    clear hn C
    go_enter Tryd.func3, Tryd.ntmps3
    go_wp2_with fail
    refine c1.out.mono ?_
    rintro e w1 ⟨hb1, rfl⟩
    go_wp2_with fail
    refine (c2.out w1).mono ?_
    rintro e w2 ⟨rfl, hb2⟩
    have HB2 : Hid (Below w.heap.size w w2) := hb1.trans (hb2.mono hb1.size)
    have c3 := Hid.mk' (cPl.out w2 1 (by decide) HB2.out)
    clear hb1 hb2 c1 c2 cPl
    go_wp2_with fail
    refine c3.out.mono ?_
    rintro e w5 ⟨rfl, hs5, HB5⟩
    go_wp2
    go_ret
    exact ⟨rfl, HB2.out.trans (HB5.out.mono HB2.out.size)⟩
  have HNN : Hid (1 ≤ n ∧ n ≤ 65536) := by show _ ∧ _; omega
  simp only [if_neg hn] at c1
  have c2 : Hid (∀ wx, Calls Tryd.prog 6 #[nu n] wx fun e w' => e = .returned (.tuple #[ptr wx.heap.size, nu 0]) ∧ RHp wx.heap.size w' wx.heap.size n (.slice none 0 0) [] ∧ Below wx.heap.size wx w') := fun wx => by
    have := newH_ref n wx
    simpa only [if_neg hn] using this
  clear hn
  go_enter Tryd.func3, Tryd.ntmps3
  go_wp2_with fail
  refine c1.out.mono ?_
  rintro e w1 ⟨hb1, p, F, rfl, hr1, hf1⟩
  have HR1 := Hid.mk' hr1
  have HB1 := Hid.mk' hb1
  have HF1 := Hid.mk' hf1
  clear hr1 hb1 hf1 c1
  go_wp2_with fail
  refine (c2.out w1).mono ?_
  rintro e w2 ⟨rfl, hr2, hb2⟩
  obtain ⟨t, ht⟩ : ∃ t, w1.heap.size = t := ⟨_, rfl⟩
  have HP2 : Hid (Hp R t w w2 p t F (fun k => k = t ∨ Value.ownBlock (.slice none 0 0) = some k) n [] []) := by
    have hs1 := HB1.out.size
    rw [ht] at hr2
    refine ⟨HC.out.below HR1.out hb2, ⟨_, hr2, rfl, by have := hb2.size; omega⟩, fun k hk hc => ?_, HF1.out, fun k hk => ?_, Hk.nil n, Hk.nil n, by simp, by simp, HB1.out.trans (hb2.mono hs1)⟩
    · have := HC.out.lt HR1.out k hk
      rcases hc with e | e
      · omega
      · simp [Value.ownBlock] at e
    · rcases hk with e | e
      · omega
      · simp [Value.ownBlock] at e
  rw [ht]
  clear hr2 hb2 ht c2 HR1 HF1 HB1
  generalize (fun k => k = t ∨ Value.ownBlock (.slice none 0 0) = some k) = G at *
  have c3 := Hid.mk' (cPl.out w2 0 (by decide) HP2.out.bel)
  go_wp2_with fail
  refine c3.out.mono ?_
  rintro e w5 ⟨rfl, hs5, HB5⟩
  have HP5 : Hid (Hp R t w w5 p t F G n [] []) := HP2.out.below C HB5.out
  clear HP2 HB5 hs5 c3
  by_cases hbig : 2000 < m
  · have hbI : (2000 : Int) < (m : Int) := by omega
    have HB := Hid.mk' HP5.out.bel
    clear HP5 C
    go_wp2
    go_ret
    exact ⟨rfl, HB.out⟩
  have hbI : ¬ (2000 : Int) < (m : Int) := by omega
  have c6 := Hid.mk' (C.all w5 p F n [] HP5.out.rep (Hk.nil n) (by simp))
  go_wp2_with fail
  refine c6.out.mono ?_
  rintro e w6 ⟨fv, X, rfl, hit6, hX6, hb6⟩
  have HP6 : Hid (Hp R t w w6 p t F G n [] []) := HP5.out.below C hb6
  have c7 := Hid.mk' (pairsH_r t w6 t G n [] HP6.out.ref (by simp))
  have HIT := Hid.mk' hit6
  have HXX : Hid (∀ b, X b → ¬ F b ∧ ¬ G b) := fun b hb => ⟨fun e => by have := C.lt HP5.out.rep b e; have := hX6 b hb; omega, fun e => by have := (HP5.out.ref.lt b e).2; have := hX6 b hb; omega⟩
  have HX0 : Hid (∀ b, X b → w.heap.size ≤ b) := fun b hb => by have := hX6 b hb; have := HP5.out.bel.size; omega
  obtain ⟨gf, lb, kk, hfv, _⟩ := id hit6
  clear c6 hit6 hX6 hb6 HP5
  go_wp2_with fail
  refine c7.out.mono ?_
  rintro e w7 ⟨a7, c7', rfl, hq7⟩
  have HS7 : Hid (Hs R t w w7 p t n 0 fv (.slice a7 0 c7') []) := by
    have hbl := HP6.out.bel.size
    refine ⟨⟨F, G, [], X, HP6.out.below C hq7.out.2, by simp, HIT.out.below hq7.out.2, HXX.out, HX0.out, own_monoI hq7.out.1 hbl, fun b hb => ⟨fun e => ?_, fun e => ?_⟩⟩, by have := HNN.out; simp; omega⟩
    · have := (hq7.out.1.lt b hb).1
      have := C.lt HP6.out.rep b e
      omega
    · have := (hq7.out.1.lt b hb).1
      have := (HP6.out.ref.lt b e).2
      omega
  clear c7 hq7 HP6 HIT HXX HX0
  subst hfv
  go_wp2_with fail
  go_loopw [9, 10, 11, 12, 13, 14] (fun f9 v10 iv _ _ _ wr => ∃ (k : Nat) (M : List It), k ≤ m ∧ iv = nun k ∧ Hid (Hs R t w wr p t n k f9 v10 M)) (fun _ _ iv _ _ _ _ => m - (intOf iv).toNat)
  case atStart => exact ⟨0, [], Nat.zero_le _, rfl, HS7⟩
  case round =>
    clear HS7
    obtain ⟨k, M, hk, rfl, HS⟩ := hrel
    by_cases hlt : k < m
    · have hkI : (k : Int) < (m : Int) := by omega
      obtain ⟨gv, ov, rfl, hgl, hcl⟩ := HCL.out (by rw [HM.out]; omega)
      obtain ⟨x, hx⟩ : ∃ x, L[k]? = some x := ⟨_, List.getElem?_eq_getElem (by rw [HM.out]; exact hlt)⟩
      have HXR : Hid (wr.rangeAt gv (ov + k * 3) x.cells) := range_belH (hcl k x hx) HS.out.bel hgl
      have hfx := HF.out x (List.mem_of_getElem? hx)
      clear hcl hx
      obtain ⟨F, G, S, X, h1, h2, h3, h4, h5, h6, h7⟩ := HS.out.ex
      have hfM := HS.out.few
      have HB0 : Below wr.heap.size wr (wr.alloc (.cells #[nu x.k, nu x.i, nu x.key] 38)) := (Below.refl _ _).alloc (Nat.le_refl _) _
      have HL0 : LoneH (wr.alloc (.cells #[nu x.k, nu x.i, nu x.key] 38)) wr.heap.size x := heap_alloc_new _ _
      obtain ⟨W, hW⟩ : ∃ W, wr.alloc (.cells #[nu x.k, nu x.i, nu x.key] 38) = W := ⟨_, rfl⟩
      rw [hW] at HB0 HL0
      have HW := Hid.mk' hW
      have HXF : ¬ F wr.heap.size ∧ ¬ G wr.heap.size := ⟨fun e => by have := C.lt h1.rep _ e; omega, fun e => by have := (h1.ref.lt _ e).2; omega⟩
      have HA0 : Hid (Ha R t w W W p t F G n S S) := ⟨F, G, Hd.start (h1.below C HB0)⟩
      have HST : Hid (∀ w' S' k', Ha R t w W w' p t F G n S' S' → S'.length ≤ k' → Hs R t w w' p t n k' u9 u10 M) := fun w' S' k' ha hl => ha.state hl (h3.below HB0) h4 h5 ((Keep.of_below (F := fun _ => False) HB0).own h6 (fun _ _ h => h)) h7 hfM
      have HLO : Hid (∀ w' S1 S2, Ha R t w W w' p t F G n S1 S2 → LoneH w' wr.heap.size x) := fun w' S1 S2 ha => ha.lone HL0 HXF
      have hS2000 : S.length ≤ 2000 := by omega
      have HH1 := Hid.mk' (h1.below C HB0)
      have HBW : Hid (w.heap.size ≤ W.heap.size) := Nat.le_trans h1.bel.size HB0.size
      have HFW : Hid (∀ b, W.heap.size ≤ b → ¬ (F b ∨ G b)) := fun b hb e => by
        have hs := HB0.size
        rcases e with e | e
        · have := C.lt h1.rep b e; omega
        · have := (h1.ref.lt b e).2; omega
      have hSk : Hid (S.length ≤ k) := h2
      obtain ⟨xk, xi, xkey⟩ := x
      have cK : Hid (∀ wx, Calls Tryd.prog 10 #[nu xk, nu 4] wx fun e w' => e = .returned (nu (xk % 4)) ∧ w' = wx) := fun wx => pickH xk 4 wx (by decide) (by decide) hfx.1
      obtain ⟨kd, hkd⟩ : ∃ kd, xk % 4 = kd := ⟨_, rfl⟩
      rw [hkd] at cK
      dsimp only at HW HLO HL0 HXR
      have HL0h := Hid.mk' HL0
      have cAsk : Hid (∀ wx, Hid (Hs R t w wx p t n (k + 1) u9 u10 M) → Calls Tryd.prog 17 #[ptr p, ptr t, nu xi] wx fun e w' => e = .returned (.bool true) ∧ Hid (Hs R t w w' p t n (k + 1) u9 u10 M)) := fun wx h => asked_hs C xi h.out
      clear h1 h2 h3 h4 h5 h6 h7 hW HB0 HS hkd HXF hfM HL0
      go_upto_region 13 with (first | (refine wpList_load_mid rfl 38 _ rfl gv (ov + k * 3) rfl [nu xk, nu xi, nu xkey] _ HXR.out Tryd.underlying38 rfl size_hact ?_) | fail)
      rw [HW.out]
      obtain ⟨xb, hxb⟩ : ∃ xb, wr.heap.size = xb := ⟨_, rfl⟩
      rw [hxb] at HLO HL0h ⊢
      obtain ⟨y0, y1, y2⟩ := HL0h.out.cells
      dsimp only at y0 y1 y2
      clear hxb HXR HW
      go_wp2_with fail
      refine (cK.out _).mono ?_
      rintro e w2 ⟨rfl, hw2⟩
      subst w2
      have hKD : kd = 2 ∨ kd = 3 ∨ ((kd == 2) = false ∧ (kd == 3) = false) := by
        by_cases e2 : kd = 2
        · exact .inl e2
        · by_cases e3 : kd = 3
          · exact .inr (.inl e3)
          · exact .inr (.inr ⟨by simpa using e2, by simpa using e3⟩)
      rcases hKD with rfl | rfl | ⟨hk2, hk3⟩
      · obtain ⟨bb, hbb⟩ : ∃ bb, hasH S xi = bb := ⟨_, rfl⟩
        have hne : (bb != bb) = false := by simp
        have cD1 : Hid (Calls Tryd.prog 11 #[ptr p, nu xi] W.drew fun e w' => e = .returned (.bool bb) ∧ w'.cell? ⟨xb, 1, none⟩ = some (nu xi) ∧ Hid (Ha R t w W w' p t F G n (dropH S xi) S)) := by
          refine ((HA0.out.below C (Below.refl W.heap.size W).drew).drop1 C xi).mono ?_
          rintro e w' ⟨rfl, ha⟩
          rw [hbb]
          exact ⟨rfl, (HLO.out _ _ _ ha).cells.2.1, ha⟩
        have cD2 : Hid (∀ wx, Hid (Ha R t w W wx p t F G n (dropH S xi) S) → Calls Tryd.prog 12 #[ptr t, nu xi] wx fun e w' => e = .returned (.bool bb) ∧ w'.cell? ⟨xb, 1, none⟩ = some (nu xi) ∧ Hid (Hs R t w w' p t n (k + 1) u9 u10 M)) := fun wx hx => by
          refine (hx.out.drop2 C xi).mono ?_
          rintro e w' ⟨rfl, ha⟩
          rw [hbb]
          exact ⟨rfl, (HLO.out _ _ _ ha).cells.2.1, HST.out _ _ _ ha (by have := drop_len S xi; have := hSk.out; omega)⟩
        clear hbb HST HLO HA0 cK
        go_wp2_with fail
        go_region_held3 (fun w' => w'.cell? ⟨xb, 1, none⟩ = some (nu xi)) (first | assumption | exact y1 | fail) (first | (go_at_call 11; with_reducible refine cD1.out.mono ?_; rintro e w5 ⟨rfl, hs5, hQ5⟩) | (go_at_call 12; with_reducible refine (cD2.out _ hQ5).mono ?_; rintro e w6 ⟨rfl, hs6, hQ6⟩) | fail)
        have cA := Hid.mk' (cAsk.out w6 hQ6)
        clear y0 y1 y2 hQ5 hs5 cD1 cD2
        go_wp2_with fail
        refine cA.out.mono ?_
        rintro e w7 ⟨rfl, hQ7⟩
        go_wp2
        go_roundw
        case rel => exact ⟨k + 1, M, by omega, by go_num, hQ7⟩
        case measure => simp [intOf]; omega
      · have hSn : (S.length : Int) ≤ n := by
          have hn1 := HNN.out
          have hg1 := HH1.out.good1
          have := Hk.few (N := n.toNat) (L := S) (by rw [show ((n.toNat : Nat) : Int) = n by omega]; exact hg1)
          omega
        obtain ⟨s0, hs0⟩ : ∃ s0, S.length = s0 := ⟨_, rfl⟩
        obtain ⟨q2, hq2⟩ : ∃ q2, 2 * S.length = q2 := ⟨_, rfl⟩
        have c1 := Hid.mk' (pairsH_r t W t G n S HH1.out.ref HH1.out.few2)
        rw [hq2] at c1
        have HLW : Hid (LoneH W xb ⟨xk, xi, xkey⟩) := HL0h.out
        have hxbW : xb < W.heap.size := (Array.getElem?_eq_some_iff.1 HL0h.out).1
        have hs2 : s0 ≤ 2000 := by omega
        clear cK HST HLO HA0 y0 y1 y2 hS2000
        go_wp2_with fail
        refine c1.out.mono ?_
        rintro e w1 ⟨a1, c1', rfl, hq1⟩
        have HP1 : Hid (Hp R t w w1 p t F G n S S) := HH1.out.below C hq1.out.2
        have HLX : Hid (∀ wx, Below w1.heap.size w1 wx → LoneH wx xb ⟨xk, xi, xkey⟩) := fun wx hb => by
          have hb2 : Below W.heap.size W wx := hq1.out.2.trans (hb.mono hq1.out.2.size)
          exact (hb2.block xb hxbW).trans HLW.out
        have em1 := Int.emod_nonneg xkey (b := (s0 : Int) + 2) (by omega)
        have em2 := Int.emod_lt_of_pos xkey (b := (s0 : Int) + 2) (by omega)
        obtain ⟨mo, hmo, hmo2⟩ : ∃ mo : Nat, xkey % ((s0 : Int) + 2) = mo ∧ mo ≤ s0 + 1 := ⟨(xkey % ((s0 : Int) + 2)).toNat, by omega, by omega⟩
        have cPk2 : Hid (∀ wx, Calls Tryd.prog 10 #[nu xkey, .int .i64 (IntKind.i64.wrap ((s0 : Int) + 2))] wx fun e w' => e = .returned (nun mo) ∧ w' = wx) := fun wx => by
          have := pickH xkey (s0 + 2) wx (by omega) (by omega) hfx.2
          rw [show ((s0 + 2 : Nat) : Int) = (s0 : Int) + 2 by omega, hmo] at this
          rw [show IntKind.i64.wrap ((s0 : Int) + 2) = (s0 : Int) + 2 by rw [IntKind.wrap_i64]; omega]
          exact this
        clear em1 em2 c1 HH1 HLW hmo
        obtain ⟨ra, rc, hra⟩ : ∃ ra rc, w1.cell? ⟨t, 1, none⟩ = some (.slice ra s0 rc) := by
          obtain ⟨lv, r1, _, _⟩ := HP1.out.ref
          obtain ⟨a, c, e, _, _⟩ := r1.shape
          exact ⟨a, c, by rw [r1.cells.2.1, e, hs0]⟩
        have z2 := (HLX.out w1 (Below.refl _ _)).cells.2.2
        dsimp only at z2
        have hq1s : w1.drew.cell? ⟨xb, 2, none⟩ = some (nu xkey) ∧ w1.drew.cell? ⟨t, 1, none⟩ = some (.slice ra s0 rc) := ⟨z2, hra⟩
        go_wp2_with fail
        go_region_held3 (fun w' => w'.cell? ⟨xb, 2, none⟩ = some (nu xkey) ∧ w'.cell? ⟨t, 1, none⟩ = some (.slice ra s0 rc)) (first | assumption | exact hq1s | fail) (first | (go_at_call 10; with_reducible refine (cPk2.out _).mono ?_; rintro e w2 ⟨rfl, hw2⟩; subst w2) | fail)
        clear hq1s z2 hra cPk2
        have HB1 : Hid (Below w1.heap.size w1 w1.drew) := (Below.refl _ _).drew
        have HO1 : Hid (w1.ownsRow W.heap.size 3 1 (.slice a1 q2 c1') q2 ((prs S).map nu)) := by rw [← hq2]; rw [← hq2] at hq1; exact hq1.out.1
        have hWW := hq1.out.2.size
        obtain ⟨b1, d1, e1, hcap, hmax⟩ := Nm.own_shape HO1.out
        simp only [Value.slice.injEq] at e1
        obtain ⟨rfl, _, rfl⟩ := e1
        obtain ⟨mn, hmn⟩ : ∃ mn : Nat, min (2 * mo) q2 = mn := ⟨_, rfl⟩
        have hmin : ∀ wx, (Builtin.min_ #[3, 3] 3 #[.int .i64 (2 * (mo : Int)), .int .i64 (q2 : Int)]).run Tryd.prog wx = .ok (.int .i64 (mn : Int)) wx := fun wx => by
          rw [min_twoZ]
          congr 3
          omega
        have hwr : IntKind.i64.wrap (2 * (mo : Int)) = 2 * (mo : Int) := by rw [IntKind.wrap_i64]; omega
        have hmin2 : ∀ wx, (Builtin.min_ #[3, 3] 3 #[.int .i64 (IntKind.i64.wrap (2 * (mo : Int))), .int .i64 (q2 : Int)]).run Tryd.prog wx = .ok (.int .i64 (mn : Int)) wx := fun wx => by rw [hwr]; exact hmin wx
        have hmn2 : mn ≤ q2 := by omega
        have hsl := slice_toZ a1 q2 c1' mn (by omega)
        have HTK : Hid ((prs S).take mn = prs (S.take mo)) := by
          show _ = _
          rw [← prs_take, ← hmn]
          rcases Nat.le_total (2 * mo) q2 with h | h
          · rw [Nat.min_eq_left h]
          · rw [Nat.min_eq_right h, List.take_of_length_le (by rw [prs_len]; omega), List.take_of_length_le (by rw [prs_len]; omega)]
        have HZ1 : Hid (∀ wx, Below w1.heap.size w1 wx → RdZ wx (.slice a1 mn c1') (prs (S.take mo))) := fun wx hb => by
          have h7 := (own_rdZ HO1.out).below hb
          have hl : (prs S).length = q2 := by rw [prs_len]; exact hq2
          rw [← hl] at h7
          have := RdZ.take h7 mn (by omega)
          rwa [HTK.out] at this
        obtain ⟨q3, hq3⟩ : ∃ q3, 2 * (S.take mo).length = q3 := ⟨_, rfl⟩
        have cA1 : Hid (∀ wx, Hid (Below w1.heap.size w1 wx) → Calls Tryd.prog 8 #[ptr p] wx fun e w' => ∃ gf lb, e = .returned (.func (.func gf) #[] lb) ∧ w'.cell? ⟨xb, 1, none⟩ = some (nu xi) ∧ Hid (Below w1.heap.size w1 w' ∧ ∃ X, IterH w' (.func (.func gf) #[] lb) X S ∧ ∀ b, X b → w1.heap.size ≤ b)) := fun wx hb => by
          refine (C.all wx p F _ S (HeapC.below C HP1.out.rep hb.out) HP1.out.good1 HP1.out.few1).mono ?_
          rintro e w' ⟨fv, X, rfl, hit, hX, hb'⟩
          obtain ⟨gf, lb, kk, rfl, _⟩ := id hit
          have hb2 := hb.out.trans (hb'.mono hb.out.size)
          exact ⟨gf, lb, rfl, (HLX.out w' hb2).cells.2.1, hb2, X, hit, fun b h => Nat.le_trans hb.out.size (hX b h)⟩
        have cP1 : Hid (∀ wx gf lb, Hid (Below w1.heap.size w1 wx ∧ ∃ X, IterH wx (.func (.func gf) #[] lb) X S ∧ ∀ b, X b → w1.heap.size ≤ b) → Calls Tryd.prog 14 #[.func (.func gf) #[] lb, nun mo] wx fun e w' => ∃ a c, e = .returned (.slice a q3 c) ∧ w'.cell? ⟨xb, 1, none⟩ = some (nu xi) ∧ Hid (Below w1.heap.size w1 w' ∧ RdZ w' (.slice a q3 c) (prs (S.take mo)))) := fun wx gf lb h => by
          obtain ⟨hb, X, hit, _⟩ := h.out
          refine (pairs_any _ X S wx mo hit (by omega) (by omega)).mono ?_
          rintro e w' ⟨v, rfl, ho, hb'⟩
          rw [hq3] at ho
          obtain ⟨a, c, rfl⟩ := own_shape ho
          have hb2 := hb.trans (hb'.mono hb.size)
          exact ⟨a, c, rfl, (HLX.out w' hb2).cells.2.1, hb2, own_rdZ ho⟩
        have cS1 : Hid (∀ wx v, Hid (Below w1.heap.size w1 wx ∧ RdZ wx v (prs (S.take mo))) → Calls Tryd.prog 13 #[v, .slice a1 mn c1'] wx fun e w' => e = .returned (.bool true) ∧ w'.cell? ⟨xb, 1, none⟩ = some (nu xi) ∧ Hid (Below w1.heap.size w1 w')) := fun wx v h => by
          refine (sameZ v _ (prs (S.take mo)) wx h.out.2 (HZ1.out wx h.out.1)).mono ?_
          rintro e w' ⟨rfl, hb'⟩
          have hb2 := h.out.1.trans (hb'.mono h.out.1.size)
          exact ⟨rfl, (HLX.out w' hb2).cells.2.1, hb2⟩
        have HEND : Hid (∀ wx gf lb, Hid (Below w1.heap.size w1 wx ∧ ∃ X, IterH wx (.func (.func gf) #[] lb) X S ∧ ∀ b, X b → w1.heap.size ≤ b) → Hid (Hs R t w wx p t n (k + 1) (.func (.func gf) #[] lb) (.slice a1 q2 c1') S)) := fun wx gf lb h => by
          obtain ⟨hb, X, hit, hX⟩ := h.out
          have hbw := HP1.out.bel.size
          have hp := HP1.out.below C hb
          have ho : wx.ownsRow W.heap.size 3 1 (.slice a1 q2 c1') q2 ((prs S).map nu) := (Keep.of_below (F := fun _ => False) hb).own HO1.out (fun _ _ h => h)
          refine ⟨⟨F, G, S, X, hp, by have := hSk.out; omega, hit, fun b h => ⟨fun e => ?_, fun e => ?_⟩, fun b h => Nat.le_trans hbw (hX b h), own_monoI (by rw [hq2]; exact ho) (Nat.le_trans HBW.out (Nat.le_refl _)), fun b h => ⟨fun e => ?_, fun e => ?_⟩⟩, by omega, hSn⟩
          · have := C.lt HP1.out.rep b e; have := hX b h; omega
          · have := (HP1.out.ref.lt b e).2; have := hX b h; omega
          · exact HFW.out b (ho.lt b h).1 (.inl e)
          · exact HFW.out b (ho.lt b h).1 (.inr e)
        have z1 : w1.drew.cell? ⟨xb, 1, none⟩ = some (nu xi) := (HLX.out w1.drew HB1.out).cells.2.1
        clear hmn hq3
        go_wp2_with fail
        go_region_held3 (fun w' => w'.cell? ⟨xb, 1, none⟩ = some (nu xi)) (first | assumption | exact z1 | fail) (first | (go_at_call 13; with_reducible refine (cS1.out _ _ hQ6).mono ?_; rintro e w7 ⟨rfl, hs7, hQ7⟩) | (go_at_call 14; with_reducible refine (cP1.out _ _ _ hQ5).mono ?_; rintro e w6 ⟨a6, c6, rfl, hs6, hQ6⟩) | (go_at_call 8; with_reducible refine (cA1.out _ ?hb).mono ?_; (case hb => exact Hid.mk' (by repeat (first | exact Below.refl _ _ | apply Below.drew))); rintro e w5 ⟨gf5, lb5, rfl, hs5, hQ5⟩) | fail)
        all_goals
          have cA2 := Hid.mk' (cA1.out w7 hQ7)
          clear z1 hQ6 hQ5 hs5 hs6 hs7 cA1 cP1 cS1
          go_wp2_with fail
          refine cA2.out.mono ?_
          rintro e w8 ⟨gf8, lb8, rfl, hs8, hQ8⟩
          have HQ8 := HEND.out w8 gf8 lb8 hQ8
          have hbe := Hid.mk' (asked_hs C xi HQ8.out)
          clear hQ8 cA2
          go_wp2_with fail
          refine hbe.out.mono ?_
          rintro e w9 ⟨rfl, hQ9⟩
          clear hbe HQ8 hs8
          go_wp2
          go_roundw
          case rel => exact ⟨k + 1, S, by omega, by go_num, hQ9⟩
          case measure => simp [intOf]; omega
      · have hz24 := setNo_le n xi
        obtain ⟨z, hz⟩ : ∃ z, setNo n xi = z := ⟨_, rfl⟩
        have cS1 : Hid (Calls Tryd.prog 15 #[ptr p, nu xi, nu xkey] W.drew fun e w' => e = .returned (errE z) ∧ (w'.cell? ⟨xb, 1, none⟩ = some (nu xi) ∧ w'.cell? ⟨xb, 2, none⟩ = some (nu xkey)) ∧ Hid (Ha R t w W w' p t F G n (setL n S xi xkey) S)) := by
          refine ((HA0.out.below C (Below.refl W.heap.size W).drew).set1 C xi xkey (by omega)).mono ?_
          rintro e w' ⟨rfl, ha⟩
          rw [hz]
          exact ⟨rfl, (HLO.out _ _ _ ha).cells.2, ha⟩
        have cS2 : Hid (∀ wx, Hid (Ha R t w W wx p t F G n (setL n S xi xkey) S) → Calls Tryd.prog 16 #[ptr t, nu xi, nu xkey] wx fun e w' => e = .returned (nun z) ∧ (w'.cell? ⟨xb, 1, none⟩ = some (nu xi) ∧ w'.cell? ⟨xb, 2, none⟩ = some (nu xkey)) ∧ Hid (Ha R t w W w' p t F G n (setL n S xi xkey) (setL n S xi xkey))) := fun wx hx => by
          refine (hx.out.set2 C xi xkey (by omega)).mono ?_
          rintro e w' ⟨rfl, ha⟩
          rw [hz]
          exact ⟨rfl, (HLO.out _ _ _ ha).cells.2, ha⟩
        have cS3 : Hid (∀ wx, Hid (Ha R t w W wx p t F G n (setL n S xi xkey) (setL n S xi xkey)) → Calls Tryd.prog 7 #[errE z, nun z] wx fun e w' => e = .returned (.bool true) ∧ (w'.cell? ⟨xb, 1, none⟩ = some (nu xi) ∧ w'.cell? ⟨xb, 2, none⟩ = some (nu xkey)) ∧ Hid (Hs R t w w' p t n (k + 1) u9 u10 M)) := fun wx hx => by
          refine (cPl.out wx z (by omega) hx.out.bel).mono ?_
          rintro e w' ⟨rfl, _, hb⟩
          have ha := hx.out.below C hb.out
          exact ⟨rfl, (HLO.out _ _ _ ha).cells.2, HST.out _ _ _ ha (by have := setL_len n S xi xkey; have := hSk.out; omega)⟩
        clear hz HST HLO HA0 cK
        have y12 : W.drew.cell? ⟨xb, 1, none⟩ = some (nu xi) ∧ W.drew.cell? ⟨xb, 2, none⟩ = some (nu xkey) := ⟨y1, y2⟩
        go_wp2_with fail
        go_region_held3 (fun w' => w'.cell? ⟨xb, 1, none⟩ = some (nu xi) ∧ w'.cell? ⟨xb, 2, none⟩ = some (nu xkey)) (first | assumption | exact y12 | fail) (first | (go_at_call 15; with_reducible refine cS1.out.mono ?_; rintro e w5 ⟨rfl, hs5, hQ5⟩) | (go_at_call 16; with_reducible refine (cS2.out _ hQ5).mono ?_; rintro e w6 ⟨rfl, hs6, hQ6⟩) | (go_at_call 7; with_reducible refine (cS3.out _ hQ6).mono ?_; rintro e w7 ⟨rfl, hs7, hQ7⟩) | fail)
        have cA := Hid.mk' (cAsk.out w7 hQ7)
        obtain ⟨hs71, hs72⟩ := hs7
        clear y0 y1 y2 y12 hQ5 hQ6 hs5 hs6 cS1 cS2 cS3
        go_wp2_with fail
        refine cA.out.mono ?_
        rintro e w8 ⟨rfl, hQ8⟩
        go_wp2
        go_roundw
        case rel => exact ⟨k + 1, M, by omega, by go_num, hQ8⟩
        case measure => simp [intOf]; omega
    · have hkI : ¬ (k : Int) < (m : Int) := by omega
      have hnn := HNN.out
      obtain ⟨nn, rfl⟩ : ∃ nn : Nat, n = nn := ⟨n.toNat, by omega⟩
      obtain ⟨F, G, S, X, h1, h2, h3, h4, h5, h6, h7⟩ := HS.out.ex
      have hfM := HS.out.few
      have hMn : M.length ≤ nn := by omega
      have hSn : S.length ≤ nn := h1.good1.few
      have HBR : Hid (Below w.heap.size w wr) := HS.out.bel
      have rW := own_rdZ h6
      obtain ⟨q, hq⟩ : ∃ q, 2 * M.length = q := ⟨_, rfl⟩
      obtain ⟨q2, hq2⟩ : ∃ q2, 2 * S.length = q2 := ⟨_, rfl⟩
      have HP : Hid (∀ wx, Hid (Below wr.heap.size wr wx) → Calls Tryd.prog 14 #[u9, nun nn] wx fun e w' => ∃ a c, e = .returned (.slice a q c) ∧ True ∧ Hid (Below wr.heap.size wr w' ∧ RdZ w' (.slice a q c) (prs M))) := fun wx hb => by
        refine (pairs_any u9 X M wx nn (h3.below hb.out) (by omega) (by omega)).mono ?_
        rintro e w' ⟨v, rfl, ho, hb'⟩
        rw [List.take_of_length_le hMn, hq] at ho
        obtain ⟨a, c, rfl⟩ := own_shape ho
        exact ⟨a, c, rfl, trivial, hb.out.trans (hb'.mono hb.out.size), own_rdZ ho⟩
      have HSm : Hid (∀ wx v, Hid (Below wr.heap.size wr wx ∧ RdZ wx v (prs M)) → Calls Tryd.prog 13 #[v, u10] wx fun e w' => e = .returned (.bool true) ∧ True ∧ Hid (Below wr.heap.size wr w')) := fun wx v h => by
        refine (sameZ v u10 (prs M) wx h.out.2 (rW.below h.out.1)).mono ?_
        rintro e w' ⟨rfl, hb'⟩
        exact ⟨rfl, trivial, h.out.1.trans (hb'.mono h.out.1.size)⟩
      have HAl : Hid (∀ wx, Hid (Below wr.heap.size wr wx) → Calls Tryd.prog 8 #[ptr p] wx fun e w' => ∃ gf lb, e = .returned (.func (.func gf) #[] lb) ∧ True ∧ Hid (Below wr.heap.size wr w' ∧ ∃ X, IterH w' (.func (.func gf) #[] lb) X S)) := fun wx hb => by
        refine (C.all wx p F _ S (HeapC.below C h1.rep hb.out) h1.good1 h1.few1).mono ?_
        rintro e w' ⟨fv, X, rfl, hit, _, hb'⟩
        obtain ⟨gf, lb, kk, rfl, _⟩ := id hit
        exact ⟨gf, lb, rfl, trivial, hb.out.trans (hb'.mono hb.out.size), X, hit⟩
      have HP3 : Hid (∀ wx gf lb, Hid (Below wr.heap.size wr wx ∧ ∃ X, IterH wx (.func (.func gf) #[] lb) X S) → Calls Tryd.prog 14 #[.func (.func gf) #[] lb, nun nn] wx fun e w' => ∃ a c, e = .returned (.slice a q2 c) ∧ True ∧ Hid (Below wr.heap.size wr w' ∧ RdZ w' (.slice a q2 c) (prs S))) := fun wx gf lb h => by
        obtain ⟨hb, X, hit⟩ := h.out
        refine (pairs_any _ X S wx nn hit (by omega) (by omega)).mono ?_
        rintro e w' ⟨v, rfl, ho, hb'⟩
        rw [List.take_of_length_le hSn, hq2] at ho
        obtain ⟨a, c, rfl⟩ := own_shape ho
        exact ⟨a, c, rfl, trivial, hb.trans (hb'.mono hb.size), own_rdZ ho⟩
      have HRP : Hid (∀ wx v, Hid (Below wr.heap.size wr wx ∧ RdZ wx v (prs S)) → Calls Tryd.prog 9 #[ptr t] wx fun e w' => ∃ a c, e = .returned (.slice a q2 c) ∧ True ∧ Hid (Below wr.heap.size wr w' ∧ RdZ w' v (prs S) ∧ RdZ w' (.slice a q2 c) (prs S))) := fun wx v h => by
        have := pairsH_r t wx t G _ S (h1.ref.below h.out.1) h1.few2
        rw [hq2] at this
        refine this.mono ?_
        rintro e w' ⟨a, c, rfl, ho⟩
        exact ⟨a, c, rfl, trivial, h.out.1.trans (ho.out.2.mono h.out.1.size), h.out.2.below ho.out.2, own_rdZ ho.out.1⟩
      have HS3 : Hid (∀ wx v1 v2, Hid (Below wr.heap.size wr wx ∧ RdZ wx v1 (prs S) ∧ RdZ wx v2 (prs S)) → Calls Tryd.prog 13 #[v1, v2] wx fun e w' => e = .returned (.bool true) ∧ True ∧ Hid (Below wr.heap.size wr w')) := fun wx v1 v2 h => by
        refine (sameZ v1 v2 (prs S) wx h.out.2.1 h.out.2.2).mono ?_
        rintro e w' ⟨rfl, hb'⟩
        exact ⟨rfl, trivial, h.out.1.trans (hb'.mono h.out.1.size)⟩
      have HB0 : Hid (Below wr.heap.size wr wr) := Below.refl _ _
      clear h1 h2 h3 h4 h5 h6 h7 HS rW hq hq2 hfM hMn hSn cPl
      go_wp2_with fail
      refine (HP.out wr HB0).mono ?_
      rintro e w1 ⟨a1, c1, rfl, _, hQ1⟩
      go_wp2_with fail
      refine (HSm.out w1 _ hQ1).mono ?_
      rintro e w2 ⟨rfl, _, hQ2⟩
      clear hQ1
      go_wp2_with fail
      refine (HP.out w2 hQ2).mono ?_
      rintro e w3 ⟨a3, c3, rfl, _, hQ3⟩
      clear hQ2
      go_wp2_with fail
      refine (HSm.out w3 _ hQ3).mono ?_
      rintro e w4 ⟨rfl, _, hQ4⟩
      clear hQ3
      go_wp2_with fail
      refine (HAl.out w4 hQ4).mono ?_
      rintro e w5 ⟨gf5, lb5, rfl, _, hQ5⟩
      clear hQ4
      go_wp2_with fail
      refine (HP3.out w5 gf5 lb5 hQ5).mono ?_
      rintro e w6 ⟨a6, c6, rfl, _, hQ6⟩
      clear hQ5
      go_wp2_with fail
      refine (HRP.out w6 _ hQ6).mono ?_
      rintro e w7 ⟨a7, c7, rfl, _, hQ7⟩
      clear hQ6
      go_wp2_with fail
      refine (HS3.out w7 _ _ hQ7).mono ?_
      rintro e w8 ⟨rfl, _, hQ8⟩
      clear hQ7
      go_wp2
      go_ret
      exact ⟨rfl, HBR.out.trans (hQ8.out.mono HBR.out.size)⟩
end Hh
end Go.Proofs.YteclbmmhidmklaaDoor
