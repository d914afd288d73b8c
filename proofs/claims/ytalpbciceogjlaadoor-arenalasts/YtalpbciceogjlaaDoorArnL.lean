/- What Frees hands out is as it was when it was got: out of what the program's calls must answer. -/
import Derived.Test.YtalpbciceogjlaaDoorArnK
namespace Go.Proofs.YtalpbciceogjlaaDoor
set_option linter.ambiguousOpen false
open Go.RowKit
namespace An
open Ft Lv
set_option linter.unusedSimpArgs false
set_option linter.unusedVariables false
attribute [local go_sem] Oper.semAt_some

set_option maxRecDepth 100000 in
set_option maxHeartbeats 1000000 in
theorem copyN (v : Value) (l : List Nat) (w : World) (hR : RdN w v l) (hl : l.length ≤ 1000) :
    Calls Tryd.prog 11 #[v] w fun e w' => ∃ r, e = .returned r ∧ w'.ownsRow w.heap.size 3 1 r l.length (l.map nun) ∧ Below w.heap.size w w' := by
  obtain ⟨i0, ji, hz0, hz1, hz2⟩ := info_parts info_int
  obtain ⟨av, cv, rfl, hc1, hc2, hcell⟩ := hR
  obtain ⟨n, hn⟩ : ∃ n, l.length = n := ⟨_, rfl⟩
  rw [hn] at hc1 hcell hl ⊢
  have HN := Hid.mk' hn
  have HC := Hid.mk' hcell
  unfold maxLen at hc2
  clear hcell hn
  go_enter Tryd.func11, Tryd.ntmps11
  go_wp2
  go_loopw [3, 4] (fun lv iv wr => ∃ (i : Nat), i ≤ n ∧ iv = nun i ∧ Hid (wr.ownsRow w.heap.size 3 1 lv i ((l.take i).map nun)) ∧ Hid (Below w.heap.size w wr)) (fun _ iv _ => n - (intOf iv).toNat)
  case atStart => exact ⟨0, Nat.zero_le _, rfl, World.ownsRow_nil _ _ _ _, Below.refl _ _⟩
  case round =>
    obtain ⟨i, hi, rfl, hO, hB⟩ := hrel
    obtain ⟨al, cl, hlv, hcl1, hcl2⟩ := Nm.own_shape hO.out
    subst hlv
    by_cases hlt : i < n
    · have hiI : (i : Int) < (n : Int) := by omega
      obtain ⟨b, rfl, hbl, hcx⟩ := HC.out (by omega)
      obtain ⟨x, hx⟩ : ∃ x, l[i]? = some x := ⟨_, List.getElem?_eq_getElem (by rw [HN.out]; exact hlt)⟩
      have hc : wr.cell? ⟨b, i, none⟩ = some (nun x) := (hB.out.cell (p := ⟨b, i, none⟩) hbl).trans (hcx i x hx)
      have HYM : Hid ((l.take (i + 1)).map nun = (l.take i).map nun ++ [nun x]) := by
        show _ = _
        rw [List.take_add_one, hx]
        simp
      have hone : Hid (∀ u ∈ [nun x], u.oneCell' = true) := by
        intro u hu
        simp at hu
        subst hu
        rfl
      have hmx : Hid (i + 1 ≤ maxLen) := by show _ ≤ _; unfold maxLen; omega
      have hby : Hid ((i + 1) * 8 ≤ 140737488355328) := by show _ ≤ _; omega
      have hbs : Hid (w.heap.size ≤ wr.heap.size) := hB.out.size
      clear hcx hx
      go_wp2_with (at_builtin; refine wpList_append_own _ rfl _ _ 44 rfl w.heap.size 3 i0 (.int .i64 0) 1 8 Tryd.underlying44 ji hz0 hz1 hz2 rfl (by decide) _ _ _ rfl (hO.out.alloc _) ⟨wr.heap.size, 0, none⟩ 1 1 [nun x] rfl rfl (World.news_of_block (heap_alloc_new _ _)) hone.out hmx.out hby.out (by have := hbs.out; simp; omega) ?_; intro v' w4 hown4 hgrow _; rw [← HYM.out] at hown4; have HO4 := Hid.mk' hown4; have HB4 : Hid (Below w.heap.size w w4) := Below.grown (hB.out.alloc hbs.out _) hgrow (by have := hbs.out; simp; omega) (fun j hj => (hO.out.lt j hj).1); clear hown4 hgrow)
      go_roundw
      case rel => exact ⟨i + 1, by omega, by go_num, HO4, HB4⟩
      case measure => simp [intOf]; omega
    · obtain rfl : i = n := by omega
      have hiI : ¬ (i : Int) < (i : Int) := by omega
      have HO : Hid (wr.ownsRow w.heap.size 3 1 (.slice al i cl) i (l.map nun)) := by
        have := hO.out
        rwa [List.take_of_length_le (by rw [HN.out]; exact Nat.le_refl _)] at this
      clear hO
      go_wp2
      go_ret
      exact ⟨_, rfl, HO.out, hB.out⟩

section
variable {Rep RepR : World → Nat → (Nat → Prop) → Arn → Prop} {w0 w w' : World} {p g : Nat} {F G F' G' X : Nat → Prop} {A A' : Arn} {fv vw : Value} {l : List Nat}

/-- Both arenas; an iterator that was got, and a list of what it hands out, that lie apart from them. -/
structure Ls (Rep RepR : World → Nat → (Nat → Prop) → Arn → Prop) (w0 w : World) (p g : Nat) (F G : Nat → Prop) (A : Arn) (fv : Value) (X : Nat → Prop) (vw : Value) (l : List Nat) : Prop where
  pr : Pr Rep RepR w0 w p g F G A A
  it : IterA w fv X l
  row : w.ownsRow w0.heap.size 3 1 vw l.length (l.map nun)
  offX : ∀ k, X k → ¬ F k ∧ ¬ G k
  offR : ∀ k, vw.ownBlock = some k → ¬ F k ∧ ¬ G k

theorem Ls.turn (H : KeepC Rep) (h : Ls Rep RepR w0 w p g F G A fv X vw l) (hd : Dn Rep RepR w0 w w' p g F G F' G' A' A') : Ls Rep RepR w0 w' p g F' G' A' fv X vw l := by
  have off : ∀ k, k < w.heap.size → ¬ F k ∧ ¬ G k → ¬ F' k ∧ ¬ G' k := fun k hk hn => ⟨fun e => by
    rcases hd.gf k e with h1 | h1
    · exact hn.1 h1
    · omega, fun e => by
    rcases hd.gg k e with h1 | h1
    · exact hn.2 h1
    · omega⟩
  have hX : ∀ b, X b → b < w.heap.size := by
    obtain ⟨_, _, _, _, _, h3, _⟩ := h.it
    exact h3
  exact ⟨hd.pr, h.it.keep hd.kp (fun b hb e => e.elim (h.offX b hb).1 (h.offX b hb).2), hd.kp.own h.row (fun k hk e => e.elim (h.offR k hk).1 (h.offR k hk).2), fun k hk => off k (hX k hk) (h.offX k hk), fun k hk => off k (h.row.lt k hk).2 (h.offR k hk)⟩

theorem Ls.below (H : KeepC Rep) (HR : KeepC RepR) (h : Ls Rep RepR w0 w p g F G A fv X vw l) (hb : Below w.heap.size w w') : Ls Rep RepR w0 w' p g F G A fv X vw l :=
  ⟨h.pr.below H HR hb, h.it.keep (Keep.of_below (F := fun _ => False) hb) (fun _ _ h => h), (Keep.of_below (F := fun _ => False) hb).own h.row (fun _ _ h => h), h.offX, h.offR⟩
end

set_option maxRecDepth 1000000 in
set_option maxHeartbeats 8000000 in
theorem arenaLasts_yes {Rep : World → Nat → (Nat → Prop) → Arn → Prop} (H : KeepC Rep) (CN : NewC Rep) (CG : GetC Rep) (CP : PutC Rep) (CT : TakeC Rep) (CL : PlaceC Rep) (CX : FreeC Rep) (CF : FreesC Rep) (CW : WritesC Rep) (sv tv : Value) (L M : List Actn) (w : World) (hR : RdT w sv L) (hF : ∀ x ∈ L, x.fits) (hR2 : RdT w tv M) (hF2 : ∀ x ∈ M, x.fits) (hE : Er.Handle w) :
    Calls Tryd.prog 4 #[sv, tv] w fun e w' => e = .returned (.bool true) ∧ Below w.heap.size w w' := by
  obtain ⟨i0, ji, hz0, hz1, hz2⟩ := info_parts info_int
  obtain ⟨av, cv, rfl, hc1, hc2, hcell⟩ := hR
  obtain ⟨bv, dv, rfl, hd1, hd2, hcell2⟩ := hR2
  obtain ⟨N, hN⟩ : ∃ N, L.length = N := ⟨_, rfl⟩
  obtain ⟨M2, hM⟩ : ∃ M2, M.length = M2 := ⟨_, rfl⟩
  have HN := Hid.mk' hN
  have HM := Hid.mk' hM
  have HC := Hid.mk' hcell
  have HC' := Hid.mk' hcell2
  have HF := Hid.mk' hF
  have HF' := Hid.mk' hF2
  rw [hN] at hc1 ⊢
  rw [hM] at hd1 ⊢
  unfold maxLen at hc2 hd2
  have c1 : Hid (∀ wx, _) := fun wx => CN wx
  have c2 : Hid (∀ wx, _) := fun wx => new_r wx
  have HR0 : Hid (∀ base, KeepC (RepA base)) := fun base => KeepC.refA base
  have cD : Hid (∀ wx base p g F G A k n s, Pr Rep (RepA base) w wx p g F G A A → A.wr ≤ 999999999 → (-9223372036854775808 ≤ k ∧ k ≤ 9223372036854775807) → (-9223372036854775808 ≤ n ∧ n ≤ 9223372036854775807) → Calls Tryd.prog 8 #[ptr p, ptr g, actV k n s] wx fun e w' => e = .returned (.bool true) ∧ Hid (∃ F' G' A', A'.wr ≤ A.wr + 1 ∧ Dn Rep (RepA base) w wx w' p g F G F' G' A' A')) := fun wx base p g F G A k n s h1 h2 h3 h4 => by
    refine (does_any H CG CP CT CL CX CF CW base w wx p g F G A k n s h1 h2 hE h3 h4).mono ?_
    rintro e w' ⟨rfl, F', G', hd⟩
    exact ⟨rfl, F', G', _, step_wr A k n s, hd⟩
  have cA : Hid (∀ wx base p g F G A, Rep wx p F A → RepA base wx g G A → Good A → A.wr ≤ 1000000000 → Below w.heap.size w wx → Calls Tryd.prog 9 #[ptr p, ptr g] wx fun e w' => e = .returned (.bool true) ∧ Below wx.heap.size wx w') := fun wx base p g F G A h1 h2 h3 h4 h5 => asked_any H CG CF CW base wx p g F G A h1 h2 h3 h4 (hE.below h5)
  have cF : Hid (∀ wx p F A, Rep wx p F A → Good A → Calls Tryd.prog 10 #[ptr p] wx fun e w' => ∃ fv X, e = .returned fv ∧ IterA w' fv X A.fr ∧ (∀ b, X b → wx.heap.size ≤ b) ∧ Below wx.heap.size wx w') := fun wx p F A h1 h2 => CF wx p F A h1 h2
  have HH := Hid.mk' H
  clear CN CG CP CT CL CX CF CW hcell hF hcell2 hF2 hE H hN hM
  by_cases hbig : 1000 < N ∨ 1000 < M2
  · clear c1 c2 cD cA cF HC HC' HF HF'
    by_cases hb1 : 1000 < N
    · have hbI : (1000 : Int) < (N : Int) := by omega
      refine (callsIn_wide (n := 8)).1 ?_
      refine callsIn_of_wp_marks Tryd.func4 rfl trivial ?_ rfl
      refine wpIn_wide.2 ?_
      simp only [Tryd.ntmps4, List.size_toArray, List.length_cons, List.length_nil, Nat.reduceAdd, Nat.reduceSub, Array.replicate_succ, Array.replicate_zero, List.push_toArray, List.append_toArray, List.nil_append, List.cons_append]
      go_wp2
      exact Rf.leaves_marks (B := w.heap.size) (Ds := []) ⟨List.nodup_nil, fun D hD => by simp at hD⟩ (Nat.le_refl _) (fun W' hW' => ⟨_, results_tmp rfl _ _ _, rfl, hW'⟩)
    · have hbI : ¬ (1000 : Int) < (N : Int) := by omega
      have hbJ : (1000 : Int) < (M2 : Int) := by omega
      refine (callsIn_wide (n := 8)).1 ?_
      refine callsIn_of_wp_marks Tryd.func4 rfl trivial ?_ rfl
      refine wpIn_wide.2 ?_
      simp only [Tryd.ntmps4, List.size_toArray, List.length_cons, List.length_nil, Nat.reduceAdd, Nat.reduceSub, Array.replicate_succ, Array.replicate_zero, List.push_toArray, List.append_toArray, List.nil_append, List.cons_append]
      go_wp2
      exact Rf.leaves_marks (B := w.heap.size) (Ds := []) ⟨List.nodup_nil, fun D hD => by simp at hD⟩ (Nat.le_refl _) (fun W' hW' => ⟨_, results_tmp rfl _ _ _, rfl, hW'⟩)
  have hb1 : ¬ (1000 : Int) < (N : Int) := by omega
  have hb2 : ¬ (1000 : Int) < (M2 : Int) := by omega
  refine (callsIn_wide (n := 8)).1 ?_
  refine callsIn_of_wp_marks Tryd.func4 rfl trivial ?_ rfl
  refine wpIn_wide.2 ?_
  simp only [Tryd.ntmps4, List.size_toArray, List.length_cons, List.length_nil, Nat.reduceAdd, Nat.reduceSub, Array.replicate_succ, Array.replicate_zero, List.push_toArray, List.append_toArray, List.nil_append, List.cons_append]
  go_wp2_with fail
  refine (c1.out _).mono ?_
  rintro e w1 ⟨p, F, rfl, hr1, hf1, hb1'⟩
  have HR1 : Hid (Rep w1 p F arn0 ∧ (∀ k, F k → w.heap.size ≤ k ∧ k < w1.heap.size) ∧ Below w.heap.size w w1) := ⟨hr1, fun k hk => ⟨hf1 k hk, HH.out.lt hr1 k hk⟩, hb1'⟩
  clear hr1 hf1 hb1' c1
  go_wp2_with fail
  refine (c2.out _).mono ?_
  rintro e w3 ⟨G, rfl, hr3, hb3⟩
  have HT3 : Hid (Pr Rep (RepA w1.heap.size) w w3 p w1.heap.size F G arn0 arn0) := by
    obtain ⟨z1, z3, z5⟩ := HR1.out
    refine ⟨HH.out.below z1 hb3, hr3, fun k hk e => ?_, fun k hk => (z3 k hk).1, fun k hk => Nat.le_trans z5.size (hr3.lt k hk).1, good0, good0, z5.trans (hb3.mono z5.size)⟩
    have h1 := (z3 k hk).2
    have h2 := (hr3.lt k e).1
    omega
  clear hr3 hb3 HR1 c2
  obtain ⟨bs, hbs⟩ : ∃ bs, w1.heap.size = bs := ⟨_, rfl⟩
  rw [hbs] at HT3 ⊢
  clear hbs
  go_wp2_with fail
  go_loopw [7] (fun iv wr => ∃ k : Nat, k ≤ N ∧ iv = nun k ∧ Hid (∃ F G A, A.wr ≤ k ∧ Pr Rep (RepA bs) w wr p bs F G A A)) (fun iv _ => N - (intOf iv).toNat)
  case atStart => exact ⟨0, Nat.zero_le _, rfl, F, G, arn0, Nat.le_refl _, HT3.out⟩
  case round =>
    clear HT3
    obtain ⟨j, hj, rfl, hq⟩ := hrel
    obtain ⟨F', G', A', ha, htr⟩ := hq.out
    have hbel := htr.bel
    by_cases hlt : j < N
    · have hjI : (j : Int) < (N : Int) := by omega
      obtain ⟨gv, ov, rfl, hgl, hcl⟩ := HC.out (by rw [HN.out]; omega)
      obtain ⟨x, hx⟩ : ∃ x, L[j]? = some x := ⟨_, List.getElem?_eq_getElem (by rw [HN.out]; exact hlt)⟩
      have HRG := Hid.mk' (range_below (hcl j x hx) hbel hgl)
      obtain ⟨f1, f2⟩ := HF.out x (List.mem_of_getElem? hx)
      have HC2 := Hid.mk' (cD.out wr bs p bs F' G' A' x.k x.n x.s htr (by omega) f1 f2)
      clear htr hq hcl hbel
      go_wp2_with (first | (refine wpList_load_act rfl _ rfl gv (ov + j * 19) rfl x.k x.n x.s HRG.out ?_) | fail)
      refine HC2.out.mono ?_
      rintro e w5 ⟨rfl, hq5⟩
      have HQ5 : Hid (∃ F G A, A.wr ≤ j + 1 ∧ Pr Rep (RepA bs) w w5 p bs F G A A) := by
        obtain ⟨F1, G1, A1, h1, h2⟩ := hq5.out
        exact ⟨F1, G1, A1, by omega, h2.pr⟩
      clear hq5 HC2 ha HRG
      go_wp2
      go_roundw
      case rel => exact ⟨j + 1, by omega, by go_num, HQ5⟩
      case measure => simp [intOf]; omega
    · have hjI : ¬ (j : Int) < (N : Int) := by omega
      have C1 := Hid.mk' (cF.out wr p F' A' htr.rep htr.good1)
      have HPR := Hid.mk' htr
      have hwr1 : A'.wr ≤ 1000 := by omega
      clear htr hq hbel cF ha
      go_wp2_with fail
      refine C1.out.mono ?_
      rintro e w5 ⟨fv, X, rfl, hit, hXn, hb5⟩
      have HIT := Hid.mk' hit
      have HP5 := Hid.mk' (HPR.out.below HH.out (HR0.out bs) hb5)
      have HX5 : Hid (∀ b, X b → ¬ F' b ∧ ¬ G' b) := fun b hb => ⟨fun e => by have h1 := HH.out.lt HPR.out.rep b e; have h2 := hXn b hb; omega, fun e => by have h1 := (HPR.out.ref.lt b e).2; have h2 := hXn b hb; omega⟩
      obtain ⟨gf, lb, kk, rfl, hent, _⟩ := hit
      have hnil := eq_func_nil gf lb
      obtain ⟨rs, rf, hra, _, _⟩ := HP5.out.ref
      have z1 := hra.cells.2.1
      have zf := hra.fr
      have hfew := HP5.out.good1.few
      have CC := Hid.mk' (copyN rf A'.fr w5 (own_rdN zf) (by omega))
      obtain ⟨ar, cr, rfl, _⟩ := Nm.own_shape zf
      clear hra zf C1 hXn HPR hb5
      go_wp2_with fail
      refine CC.out.mono ?_
      rintro e w6 ⟨vw, rfl, ho6, hb6⟩
      have HLS : Hid (Ls Rep (RepA bs) w w6 p bs F' G' A' (.func (.func gf) #[] lb) X vw A'.fr) := by
        have hP6 := HP5.out.below HH.out (HR0.out bs) hb6
        refine ⟨hP6, HIT.out.keep (Keep.of_below (F := fun _ => False) hb6) (fun _ _ h => h), own_monoA ho6 HP5.out.bel.size, HX5.out, fun k hk => ⟨fun e => ?_, fun e => ?_⟩⟩
        · have h1 := HH.out.lt HP5.out.rep k e
          have h2 := (ho6.lt k hk).1
          omega
        · have h1 := (HP5.out.ref.lt k e).2
          have h2 := (ho6.lt k hk).1
          omega
      obtain ⟨lf, hlf⟩ : ∃ lf, A'.fr = lf := ⟨_, rfl⟩
      rw [hlf] at HLS ho6 hfew
      obtain ⟨aw, cw, rfl, _⟩ := Nm.own_shape ho6
      obtain ⟨nw, hnw⟩ : ∃ nw, lf.length = nw := ⟨_, rfl⟩
      rw [hnw] at HLS hfew
      rw [hlf, hnw]
      have HNW := Hid.mk' hnw
      clear ho6 hb6 HP5 HIT HX5 CC hlf hnw z1
      rename World => wq
      go_wp2_with fail
      go_loopw [10] (fun iv wr => ∃ k : Nat, k ≤ M2 ∧ iv = nun k ∧ Hid (∃ F G A, A.wr ≤ 1000 + k ∧ Ls Rep (RepA bs) w wr p bs F G A (.func (.func gf) #[] lb) X (.slice aw nw cw) lf)) (fun iv _ => M2 - (intOf iv).toNat)
      case atStart => exact ⟨0, Nat.zero_le _, rfl, F', G', A', hwr1, HLS.out⟩
      case round =>
        clear HLS
        obtain ⟨j, hj, rfl, hq⟩ := hrel
        obtain ⟨F5, G5, A5, ha, hls⟩ := hq.out
        have hbel := hls.pr.bel
        by_cases hlt : j < M2
        · have hjI : (j : Int) < (M2 : Int) := by omega
          obtain ⟨gv, ov, rfl, hgl, hcl⟩ := HC'.out (by rw [HM.out]; omega)
          obtain ⟨x, hx⟩ : ∃ x, M[j]? = some x := ⟨_, List.getElem?_eq_getElem (by rw [HM.out]; exact hlt)⟩
          have HRG := Hid.mk' (range_below (hcl j x hx) hbel hgl)
          obtain ⟨f1, f2⟩ := HF'.out x (List.mem_of_getElem? hx)
          have HC2 := Hid.mk' (cD.out wr bs p bs F5 G5 A5 x.k x.n x.s hls.pr (by omega) f1 f2)
          have HLS5 := Hid.mk' hls
          clear hls hq hcl hbel
          go_wp2_with (first | (refine wpList_load_act rfl _ rfl gv (ov + j * 19) rfl x.k x.n x.s HRG.out ?_) | fail)
          refine HC2.out.mono ?_
          rintro e w7 ⟨rfl, hq5⟩
          have HQ5 : Hid (∃ F G A, A.wr ≤ 1000 + (j + 1) ∧ Ls Rep (RepA bs) w w7 p bs F G A (.func (.func gf) #[] lb) X (.slice aw nw cw) lf) := by
            obtain ⟨F1, G1, A1, h1, h2⟩ := hq5.out
            exact ⟨F1, G1, A1, by omega, HLS5.out.turn HH.out h2⟩
          clear hq5 HC2 ha HRG HLS5
          go_wp2
          go_roundw
          case rel => exact ⟨j + 1, by omega, by go_num, HQ5⟩
          case measure => simp [intOf]; omega
        · have hjI : ¬ (j : Int) < (M2 : Int) := by omega
          obtain ⟨gf', lb', kk', e, hent', hXl, hsq⟩ := id hls.it
          obtain ⟨rfl, rfl⟩ : gf = gf' ∧ lb = lb' := by simpa using e
          have HLS5 := Hid.mk' hls
          have HSQ := Hid.mk' hsq
          clear hls hq e hsq hbel cD
          go_wp2_with fail
          have s6 : (wr.alloc (.cells #[.slice none 0 0] 44)).heap.size = wr.heap.size + 1 := by simp
          have b1 : Boxed (wr.alloc (.cells #[.slice none 0 0] 44)) wr.heap.size 44 (.slice none 0 0) := Boxed.new wr _ _
          have q6 : Below wr.heap.size wr (wr.alloc (.cells #[.slice none 0 0] 44)) := (Below.refl _ wr).alloc (Nat.le_refl _) _
          generalize wr.alloc (.cells #[.slice none 0 0] 44) = W6 at *
          refine Rf.wp_range (L := lf) (w0 := W6) rfl hent' (HSQ.out W6 q6.size (fun b hb => q6.block b (hXl b hb))) (Below.refl _ _) (fun _ => rfl) (fun b hb => Nat.lt_of_lt_of_le (hXl b hb) q6.size)
            (fun pre W' => ∃ v, Boxed W' wr.heap.size 44 v ∧ W'.ownsRow (W6.heap.size + 2 + kk') 3 1 v pre.length (pre.map nun) ∧ Rf.But wr.heap.size W6 W')
            (fun _ _ _ => False) ?rest (fun _ _ _ _ _ hs _ _ => hs)
            ⟨_, b1, World.ownsRow_nil _ _ _ _, Rf.But.refl _ _⟩ ?act ?assign ?body ?done (fun _ _ _ _ h _ => h.elim)
          case assign =>
            intro l' x W2 K hK
            gi_wp2
            exact hK
          case rest =>
            rintro pre A B row ⟨v, h2, h4, h5⟩ hg hr
            exact ⟨v, h2.kept hg (fun e => by have := (hr _ e.symm).1; omega), hr.row h4 (Nat.le_refl _) hg, h5.rest (by omega) hg hr⟩
          case body =>
            rintro l' pre x W2 hpre hsz ⟨v, h2, h4, h5⟩
            have hc2 := h2.cell
            have hl64 : pre.length < 33 := by
              have := hpre.length_le
              have := HNW.out
              simp at *; omega
            have HS : Hid ((pre ++ [x]).map nun = pre.map nun ++ [nun x]) := by show _ = _; simp
            have HLn : Hid ((pre ++ [x]).length = pre.length + 1) := by show _ = _; simp
            obtain ⟨m, hm⟩ : ∃ m, pre.length = m := ⟨_, rfl⟩
            rw [hm] at h4 hl64 HLn
            gi_wp2_with (gi_at_builtin; refine wpListIn_append_own _ rfl _ _ 44 rfl (W6.heap.size + 2 + kk') 3 i0 (.int .i64 0) 1 8 Tryd.underlying44 ji hz0 hz1 hz2 rfl (by decide) _ _ _ rfl (h4.alloc _) ⟨W2.heap.size, 0, none⟩ 1 1 [nun x] rfl rfl (cell_one_new _ _ _) (by simp [Value.oneCell']) (by unfold maxLen; omega) (by omega) (by simp; omega) ?_; intro v' w1 hown' hgrow _; obtain ⟨g', cap', rfl⟩ := ownsRow_succ hown'; obtain ⟨hv1, hv2, hr2, hk2, hb2, ho2⟩ := Rf.collected (X := X) (lo := W6.heap.size) (n := wr.heap.size) h2 (by decide) h4 (by omega) (fun h => by have := hXl _ h; omega) (fun b hb => by have := hXl b hb; omega) (by omega) hsz (Nat.le_refl _) hown' hgrow; have hbt := Rf.But.step (v' := .slice (some ⟨g', 0, none⟩) (m + 1) cap') h5 h4 (by omega) hsz (by omega) hgrow; have hc1 := hv1.cell; have hf1 := hv1.frozen)
            exact ⟨hk2, _, hv2, by rw [HS.out, HLn.out]; exact hr2, hbt⟩
          case done =>
            rintro W7 ⟨v1, h2, h4, h5⟩ hK7
            have hb7 : Below wr.heap.size wr W7 := q6.trans h5.1
            have hL7 := HLS5.out.below HH.out (HR0.out bs) hb7
            have hc1 := h2.cell
            have hO7 : Rf.Open wr.heap.size [W6.heap.size] W7 := ⟨by simp, fun D hD => by
              obtain rfl : D = W6.heap.size := by simpa using hD
              exact ⟨by omega, hK7⟩⟩
            rw [s6] at hO7
            have r1 : RdN W7 v1 lf := own_rdN h4
            have C1 := Hid.mk' (sameN v1 (.slice aw nw cw) lf W7 r1 (own_rdN hL7.row))
            have C2 : Hid (∀ w9, Below W7.heap.size W7 w9 → Calls Tryd.prog 9 #[ptr p, ptr bs] w9 fun e w' => e = .returned (.bool true) ∧ Hid (Rf.Open wr.heap.size [wr.heap.size + 1] w' ∧ Below wr.heap.size wr w')) := fun w9 hb9 => by
              have hL9 := hL7.below HH.out (HR0.out bs) hb9
              refine (cA.out w9 bs p bs F5 G5 A5 hL9.pr.rep hL9.pr.ref hL9.pr.good1 (by omega) hL9.pr.bel).mono ?_
              rintro e w' ⟨rfl, hb'⟩
              have hbb : Below W7.heap.size W7 w' := hb9.trans (hb'.mono hb9.size)
              exact ⟨rfl, hO7.below hbb (Nat.le_refl _), hb7.trans (hbb.mono hb7.size)⟩
            have HBE := Hid.mk' HLS5.out.pr.bel
            obtain ⟨a1, c1, hv1, _⟩ := r1
            rw [HNW.out] at hv1
            subst hv1
            clear h2 h4 h5 hK7 hb7 hL7 hO7 b1 q6 HLS5 HSQ hXl cA
            go_wp2_with fail
            refine C1.out.mono ?_
            rintro e w9 ⟨rfl, hb9⟩
            have C3 := Hid.mk' (C2.out w9 hb9)
            clear C1 C2 hb9
            go_wp2_with fail
            refine C3.out.mono ?_
            rintro e w10 ⟨rfl, hq10⟩
            clear C3
            go_wp2
            exact Rf.leaves_marks (B := wr.heap.size) (Ds := [wr.heap.size + 1]) hq10.out.1 hq10.out.2.size (fun W' hW' => ⟨_, results_tmp rfl _ _ _, rfl, HBE.out.trans ((hq10.out.2.trans hW').mono HBE.out.size)⟩)
end An
end Go.Proofs.YtalpbciceogjlaaDoor
