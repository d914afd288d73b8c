/- RngI, RngJ, in one text. -/
import Derived.Test.YthabnombfbehkaaRngH
/- The program's rings: Push, Drop. -/
namespace Go.Proofs.Ythabnombfbehkaa
set_option linter.ambiguousOpen false
open Go.RowKit
namespace Rg
open An Ft Lv
set_option linter.unusedSimpArgs false
set_option linter.unusedVariables false

theorem errP_at (no : Nat) (pl : Int) (h : 0 ≤ pl) : errP no pl = .iface 96 (.agg #[.int .i64 (no : Int), .int .i64 pl]) := if_neg (by omega)

theorem chk_yes {S : List Slt} {i : Int} (h : well S i) : chk S i = .nilIface := if_pos h

theorem chk_no {S : List Slt} {i : Int} (h : ¬ well S i) (hi : there i) : chk S i = .iface 96 (.agg #[.int .i64 24, .int .i64 i]) := (if_neg h).trans (errP_at 24 i hi.1)

section
variable {Rep : World → Nat → (Nat → Prop) → Arn → Prop}

theorem left_self {w w' : World} {p : Nat} {F : Nat → Prop} {A : Arn} (H : KeepC Rep) (h : Rep w p F A) (hb : Below w.heap.size w w') : An.Left Rep w w' p F ⟨A.sl, A.fr, A.wr + 0⟩ := ⟨F, H.below h hb, Keep.of_below hb, Goes.refl _ _⟩

set_option maxRecDepth 100000 in
set_option maxHeartbeats 2000000 in
theorem push_u (H : KeepC Rep) (CG : GetC Rep) (CU : PutC Rep) : PushU Rep := fun w p F A last i h hg hwr => by
  have cs := Hid.mk' (isSlot_p p i w)
  have cr := Hid.mk' (isRing_p p last w)
  have HL0 : Hid (∀ w', Below w.heap.size w w' → An.Left Rep w w' p F ⟨A.sl, A.fr, A.wr + 0⟩) := fun w' hb => left_self H h hb
  obtain ⟨R, hR⟩ : ∃ R, push A.sl last i = R := ⟨_, rfl⟩
  rw [hR]
  unfold push at hR
  by_cases ht : there i
  · rw [decide_eq_true ht] at cs
    by_cases hr : ringI last
    · rw [decide_eq_true hr] at cr
      rw [if_neg (by rintro (q | q); exact q ht; exact q.2 (hr.resolve_left q.1))] at hR
      by_cases h1 : last = -1
      · rw [if_pos h1] at hR
        subst h1
        subst hR
        dsimp only
        have c5 := Hid.mk' (relink_p H CG CU w p F A i i i h hg (by omega) ht)
        rw [both_self hg.len i ht] at c5
        clear h hg hwr ht hr HL0
        go_enter Try.func30, Try.ntmps30
        go_wp2_with (first | (go_at_call 45; refine (cs.out).mono ?_; rintro e w1 ⟨rfl, hw1⟩; subst w1) | (go_at_call 50; refine (cr.out).mono ?_; rintro e w1 ⟨rfl, hw1⟩; subst w1) | fail)
        refine c5.out.mono ?_
        rintro e w2 ⟨⟨u, rfl⟩, hl⟩
        have HL := Hid.mk' hl
        clear hl
        go_wp2
        go_ret2
        exact ⟨rfl, 1, by omega, fun q => absurd rfl q, HL.out⟩
      · rw [if_neg h1] at hR
        have htl : there last := hr.resolve_left h1
        have c3 := Hid.mk' (check_p H CG w p F A last h hg htl)
        have hb1 : (last == -1) = false := by simpa using h1
        by_cases hw : well A.sl last
        · rw [if_neg (fun q => q hw)] at hR
          rw [chk_yes hw] at c3
          have c4 : Hid (∀ wx, Below w.heap.size w wx → Calls Try.prog 47 #[ptr p, nu last] wx fun e w' => e = .returned (lkv (pv A.sl last) (nx A.sl last)) ∧ Below w.heap.size w w') := fun wx hb => by
            have := linksOf_p H CG wx p F A last (H.below h hb) hg
            rw [pvN_in htl, nxN_in htl] at this
            refine this.mono ?_
            rintro e w' ⟨rfl, hb'⟩
            exact ⟨rfl, hb.trans (hb'.mono hb.size)⟩
          have htf : there (nx A.sl last) := hw.2.2.1
          obtain ⟨fi, hfi⟩ : ∃ fi, nx A.sl last = fi := ⟨_, rfl⟩
          obtain ⟨pl, hpl⟩ : ∃ pl, pv A.sl last = pl := ⟨_, rfl⟩
          rw [hfi] at hR htf
          simp only [hfi, hpl] at c4
          have hf1 := fld1 pl fi
          by_cases h2 : i = last
          · rw [if_pos (.inl h2)] at hR
            subst hR
            dsimp only
            have hb2 : (i == last) = true := by simpa using h2
            clear h hg hwr ht hr h1 htl hw htf hfi hpl h2
            go_enter Try.func30, Try.ntmps30
            go_wp2_with (first | (go_at_call 45; refine (cs.out).mono ?_; rintro e w1 ⟨rfl, hw1⟩; subst w1) | (go_at_call 50; refine (cr.out).mono ?_; rintro e w1 ⟨rfl, hw1⟩; subst w1) | fail)
            refine c3.out.mono ?_
            rintro e w2 ⟨rfl, hb2'⟩
            have HB2 := Hid.mk' hb2'
            clear hb2'
            go_wp2_with fail
            refine (c4.out _ HB2.out).mono ?_
            rintro e w3 ⟨rfl, hb3⟩
            have HB3 := Hid.mk' hb3
            clear hb3
            go_wp2
            go_ret2
            exact ⟨rfl, 0, by omega, fun _ => rfl, HL0.out _ HB3.out⟩
          · have hb2 : (i == last) = false := by simpa using h2
            by_cases h3 : i = fi
            · rw [if_pos (.inr h3)] at hR
              subst hR
              dsimp only
              have hb3 : (i == fi) = true := by simpa using h3
              clear h hg hwr ht hr h1 htl hw htf hfi hpl h2 h3
              go_enter Try.func30, Try.ntmps30
              go_wp2_with (first | (go_at_call 45; refine (cs.out).mono ?_; rintro e w1 ⟨rfl, hw1⟩; subst w1) | (go_at_call 50; refine (cr.out).mono ?_; rintro e w1 ⟨rfl, hw1⟩; subst w1) | fail)
              refine c3.out.mono ?_
              rintro e w2 ⟨rfl, hb2'⟩
              have HB2 := Hid.mk' hb2'
              clear hb2'
              go_wp2_with fail
              refine (c4.out _ HB2.out).mono ?_
              rintro e w3 ⟨rfl, hb3'⟩
              have HB3 := Hid.mk' hb3'
              clear hb3'
              go_wp2
              go_ret2
              exact ⟨rfl, 0, by omega, fun _ => rfl, HL0.out _ HB3.out⟩
            · rw [if_neg (by rintro (q | q); exact h2 q; exact h3 q)] at hR
              subst hR
              dsimp only
              have hb3 : (i == fi) = false := by simpa using h3
              have c5 : Hid (∀ wx, Below w.heap.size w wx → Calls Try.prog 49 #[ptr p, nu i, lkv last fi] wx fun e w' => (∃ u, e = .returned u) ∧ An.Left Rep w w' p F ⟨both A.sl i last fi, A.fr, A.wr + 1⟩) := fun wx hb => by
                refine (relink_p H CG CU wx p F A i last fi (H.below h hb) hg (by omega) ht).mono ?_
                rintro e w' ⟨q1, q2⟩
                exact ⟨q1, left_below hb q2⟩
              have c6 : Hid (∀ wx, An.Left Rep w wx p F ⟨both A.sl i last fi, A.fr, A.wr + 1⟩ → Calls Try.prog 51 #[ptr p, nu last, nu i] wx fun e w' => (∃ u, e = .returned u) ∧ An.Left Rep w w' p F ⟨setN (both A.sl i last fi) last i, A.fr, A.wr + 2⟩) := fun wx hl => by
                obtain ⟨G, q1, q2, q3⟩ := hl
                refine (setNext_p H CG CU wx p G _ last i q1 (good_sl hg (both_len _ _ _ _)) (by show A.wr + 1 ≤ _; omega) htl).mono ?_
                rintro e w' ⟨q4, q5⟩
                exact ⟨q4, left_more q2 q3 q5⟩
              have c7 : Hid (∀ wx, An.Left Rep w wx p F ⟨setN (both A.sl i last fi) last i, A.fr, A.wr + 2⟩ → Calls Try.prog 52 #[ptr p, nu fi, nu i] wx fun e w' => (∃ u, e = .returned u) ∧ An.Left Rep w w' p F ⟨link (link A.sl last i) i fi, A.fr, A.wr + 3⟩) := fun wx hl => by
                obtain ⟨G, q1, q2, q3⟩ := hl
                have q := setPrev_p H CG CU wx p G _ fi i q1 (good_sl hg ((setN_len _ _ _).trans (both_len _ _ _ _))) (by show A.wr + 2 ≤ _; omega) htf
                dsimp only at q
                rw [both_push hg.len i last fi ht htl h2] at q
                refine q.mono ?_
                rintro e w' ⟨q4, q5⟩
                exact ⟨q4, left_more q2 q3 q5⟩
              clear h hg hwr ht hr h1 htl hw htf hfi hpl h2 h3 HL0
              go_enter Try.func30, Try.ntmps30
              go_wp2_with (first | (go_at_call 45; refine (cs.out).mono ?_; rintro e w1 ⟨rfl, hw1⟩; subst w1) | (go_at_call 50; refine (cr.out).mono ?_; rintro e w1 ⟨rfl, hw1⟩; subst w1) | fail)
              refine c3.out.mono ?_
              rintro e w2 ⟨rfl, hb2'⟩
              have HB2 := Hid.mk' hb2'
              clear hb2'
              go_wp2_with fail
              refine (c4.out _ HB2.out).mono ?_
              rintro e w3 ⟨rfl, hb3'⟩
              have HB3 := Hid.mk' hb3'
              clear hb3' HB2 c3 c4
              go_wp2_with fail
              refine (c5.out _ HB3.out).mono ?_
              rintro e w4 ⟨⟨u4, rfl⟩, hl4⟩
              have HL4 := Hid.mk' hl4
              clear hl4 HB3 c5
              go_wp2_with fail
              refine (c6.out _ HL4.out).mono ?_
              rintro e w5 ⟨⟨u5, rfl⟩, hl5⟩
              have HL5 := Hid.mk' hl5
              clear hl5 HL4 c6
              go_wp2_with fail
              refine (c7.out _ HL5.out).mono ?_
              rintro e w6 ⟨⟨u6, rfl⟩, hl6⟩
              have HL6 := Hid.mk' hl6
              clear hl6 HL5 c7
              go_wp2
              go_ret2
              exact ⟨rfl, 3, by omega, fun q => absurd rfl q, HL6.out⟩
        · rw [if_pos hw] at hR
          subst hR
          dsimp only
          rw [chk_no hw htl] at c3
          have he := errP_at 24 last htl.1
          rw [he]
          clear h hg hwr ht hr h1 htl hw he
          go_enter Try.func30, Try.ntmps30
          go_wp2_with (first | (go_at_call 45; refine (cs.out).mono ?_; rintro e w1 ⟨rfl, hw1⟩; subst w1) | (go_at_call 50; refine (cr.out).mono ?_; rintro e w1 ⟨rfl, hw1⟩; subst w1) | fail)
          refine c3.out.mono ?_
          rintro e w2 ⟨rfl, hb2⟩
          have HB2 := Hid.mk' hb2
          clear hb2
          go_wp2
          go_ret2
          exact ⟨rfl, 0, by omega, fun _ => rfl, HL0.out _ HB2.out⟩
    · rw [decide_eq_false hr] at cr
      rw [if_pos (.inr ⟨fun q => hr (.inl q), fun q => hr (.inr q)⟩)] at hR
      subst hR
      dsimp only
      clear h hg hwr ht hr
      go_enter Try.func30, Try.ntmps30
      go_wp2_with (first | (go_at_call 45; refine (cs.out).mono ?_; rintro e w1 ⟨rfl, hw1⟩; subst w1) | (go_at_call 50; refine (cr.out).mono ?_; rintro e w1 ⟨rfl, hw1⟩; subst w1) | fail)
      go_ret2
      exact ⟨rfl, 0, by omega, fun _ => rfl, HL0.out _ (Below.refl _ _)⟩
  · rw [decide_eq_false ht] at cs
    rw [if_pos (.inl ht)] at hR
    subst hR
    dsimp only
    clear h hg hwr ht
    go_enter Try.func30, Try.ntmps30
    go_wp2_with (first | (go_at_call 45; refine (cs.out).mono ?_; rintro e w1 ⟨rfl, hw1⟩; subst w1) | (go_at_call 50; refine (cr.out).mono ?_; rintro e w1 ⟨rfl, hw1⟩; subst w1) | fail)
    go_ret2
    exact ⟨rfl, 0, by omega, fun _ => rfl, HL0.out _ (Below.refl _ _)⟩

theorem push_p (H : KeepC Rep) (CG : GetC Rep) (CU : PutC Rep) : PushC Rep := fun w p F A last i h hg hwr _ _ => push_u H CG CU w p F A last i h hg hwr

/-- Amid Drop: the arena, and the links that were read. -/
def Dst (Rep : World → Nat → (Nat → Prop) → Arn → Prop) (w wx : World) (p : Nat) (F : Nat → Prop) (A : Arn) (b : Nat) (pp nn : Int) : Prop := ∃ G, Rep wx p G A ∧ Keep F w wx ∧ Goes w F G ∧ ¬ G b ∧ Lnk wx b pp nn

theorem Dst.turn {w wx w' : World} {p : Nat} {F F' : Nat → Prop} {A' : Arn} {b : Nat} {pp nn : Int} (h1 : Keep F w wx) (h2 : Goes w F F') (hn : ¬ F' b) (hk : Lnk wx b pp nn) (hl : An.Left Rep wx w' p F' A') : Dst Rep w w' p F A' b pp nn := by
  obtain ⟨G, q1, q2, q3⟩ := hl
  refine ⟨G, q1, keep_goes h1 h2 q2, goes_trans h2 q3 h1.size, fun e => ?_, (q2.block b hk.lt hn).trans hk⟩
  rcases q3 b e with e | e
  · exact hn e
  · have := hk.lt
    omega

set_option maxRecDepth 100000 in
set_option maxHeartbeats 2000000 in
theorem drop_u (H : KeepC Rep) (CG : GetC Rep) (CU : PutC Rep) : DropU Rep := fun w p F A last i h hg hwr => by
  have cs := Hid.mk' (isSlot_p p i w)
  have cl := Hid.mk' (isSlot_p p last w)
  have HL0 : Hid (∀ w', Below w.heap.size w w' → An.Left Rep w w' p F ⟨A.sl, A.fr, A.wr + 0⟩) := fun w' hb => left_self H h hb
  obtain ⟨R, hR⟩ : ∃ R, drop A.sl last i = R := ⟨_, rfl⟩
  rw [hR]
  unfold drop at hR
  by_cases ht : there i
  · rw [decide_eq_true ht] at cs
    by_cases htl : there last
    · rw [decide_eq_true htl] at cl
      rw [if_neg (by rintro (q | q); exact q ht; exact q htl)] at hR
      have c3 := Hid.mk' (check_p H CG w p F A i h hg ht)
      by_cases hw : well A.sl i
      · rw [if_neg (fun q => q hw)] at hR
        rw [chk_yes hw] at c3
        have c4 : Hid (∀ wx, Below w.heap.size w wx → Calls Try.prog 47 #[ptr p, nu i] wx fun e w' => e = .returned (lkv (pv A.sl i) (nx A.sl i)) ∧ Below w.heap.size w w') := fun wx hb => by
          have := linksOf_p H CG wx p F A i (H.below h hb) hg
          rw [pvN_in ht, nxN_in ht] at this
          refine this.mono ?_
          rintro e w' ⟨rfl, hb'⟩
          exact ⟨rfl, hb.trans (hb'.mono hb.size)⟩
        obtain ⟨_, htp, htn, hnp, hpn⟩ := hw
        have hself : pv A.sl i = i → nx A.sl i = i := fun q => by rw [q] at hnp; exact hnp
        obtain ⟨nn, hnn⟩ : ∃ nn, nx A.sl i = nn := ⟨_, rfl⟩
        obtain ⟨pp, hpp⟩ : ∃ pp, pv A.sl i = pp := ⟨_, rfl⟩
        rw [hnn, hpp] at hR hself
        rw [hpp] at htp
        rw [hnn] at htn
        simp only [hnn, hpp] at c4
        have c5 : Hid (∀ wx b, Below w.heap.size w wx → Lnk wx b pp nn → w.heap.size ≤ b → Calls Try.prog 48 #[ptr p, nu pp, nu nn] wx fun e w' => (∃ u, e = .returned u) ∧ Dst Rep w w' p F ⟨link A.sl pp nn, A.fr, A.wr + 2⟩ b pp nn) := fun wx b hb hk hbb => by
          refine (join_p H CG CU wx p F A pp nn (H.below h hb) hg (by omega) htp htn).mono ?_
          rintro e w' ⟨q1, q2⟩
          exact ⟨q1, Dst.turn (Keep.of_below hb) (Goes.refl _ _) (fun e => by have := H.lt h b e; omega) hk q2⟩
        have c6 : Hid (∀ wx b, Dst Rep w wx p F ⟨link A.sl pp nn, A.fr, A.wr + 2⟩ b pp nn → Calls Try.prog 49 #[ptr p, nu i, lkv (-1) (-1)] wx fun e w' => (∃ u, e = .returned u) ∧ Dst Rep w w' p F ⟨setN (setP (link A.sl pp nn) i (-1)) i (-1), A.fr, A.wr + 3⟩ b pp nn) := fun wx b hd => by
          obtain ⟨G, q1, q2, q3, q4, q5⟩ := hd
          have q := relink_p H CG CU wx p G _ i (-1) (-1) q1 (good_sl hg (link_len _ _ _)) (by show A.wr + 2 ≤ _; omega) ht
          dsimp only at q
          rw [both_eq (by rw [link_len, hg.len]) i (-1) (-1) ht] at q
          refine q.mono ?_
          rintro e w' ⟨z1, z2⟩
          exact ⟨z1, Dst.turn q2 q3 q4 q5 z2⟩
        obtain ⟨sl, hsl⟩ : ∃ sl, setN (setP (link A.sl pp nn) i (-1)) i (-1) = sl := ⟨_, rfl⟩
        rw [hsl] at hR
        simp only [hsl] at c6
        obtain ⟨sl1, hsl1⟩ : ∃ sl1, link A.sl pp nn = sl1 := ⟨_, rfl⟩
        simp only [hsl1] at c5 c6
        have hlen := H.lt h
        subst hR
        dsimp only
        obtain ⟨an, han⟩ : ∃ an, (if i ≠ last then last else if pp = i then -1 else pp) = an := ⟨_, rfl⟩
        rw [han]
        clear h hg hwr ht htl htp htn hnp hpn hnn hpp hsl hsl1 HL0 hlen
        go_enter Try.func26, Try.ntmps26
        go_wp2_with (first | (go_at_call 45; (first | with_reducible refine cs.out.mono ?_ | with_reducible refine cl.out.mono ?_ | fail); rintro e w1 ⟨rfl, hw1⟩; subst w1) | fail)
        refine c3.out.mono ?_
        rintro e w2 ⟨rfl, hb2⟩
        have HB2 := Hid.mk' hb2
        clear hb2
        go_wp2_with fail
        refine (c4.out _ HB2.out).mono ?_
        rintro e w3 ⟨rfl, hb3⟩
        have HB3 := Hid.mk' hb3
        have hZ : Lnk (w3.alloc (.cells #[nu 0, nu 0] 88)) w3.heap.size 0 0 := lnk_new _ _ _
        have HBZ : Hid (Below w.heap.size w (w3.alloc (.cells #[nu 0, nu 0] 88))) := hb3.alloc hb3.size _
        obtain ⟨b, hbb⟩ : ∃ b, w3.heap.size = b := ⟨_, rfl⟩
        rw [hbb] at hZ
        have HZ := Hid.mk' hZ
        have hlw : w.heap.size ≤ b := by rw [← hbb]; exact hb3.size
        have HLB := Hid.mk' hbb
        clear hb3 c3 c4 hZ hbb HB2
        go_wp2_with (first | (rw [HLB.out]; refine wpList_store_lnk rfl _ _ rfl b rfl pp nn rfl 0 0 HZ.out ?_; intro W4 hl4 hg4 hs4; have HK4 := Hid.mk' hl4; have HB4 : Hid (Below w.heap.size w W4) := (HBZ.out.grown hg4 HBZ.out.size (fun r e => by cases e; exact hlw)); have x0 := hl4.cells.1; have x1 := hl4.cells.2; clear hl4 hg4 hs4) | fail)
        refine (c5.out _ b HB4.out HK4.out hlw).mono ?_
        rintro e w5 ⟨⟨u5, rfl⟩, hd5⟩
        have HD5 := Hid.mk' hd5
        clear hd5 c5 x0 x1 HK4 HB4 HBZ HZ HB3
        go_wp2_with fail
        refine (c6.out _ b HD5.out).mono ?_
        rintro e w6 ⟨⟨u6, rfl⟩, hd6⟩
        have hk6 : Lnk w6 b pp nn := by
          obtain ⟨G, q1, q2, q3, q4, q5⟩ := hd6
          exact q5
        have HL6 : Hid (An.Left Rep w w6 p F ⟨sl, A.fr, A.wr + 3⟩) := by
          obtain ⟨G, q1, q2, q3, q4, q5⟩ := hd6
          exact ⟨G, q1, q2, q3⟩
        have HR6 := Hid.mk' hk6.range
        have x0 := hk6.cells.1
        clear hd6 c6 HD5 hk6
        by_cases h1 : i = last
        · have e1 : (i == last) = true := by simpa using h1
          by_cases h2 : pp = i
          · have e2 : (pp == i) = true := by simpa using h2
            have e3 : (nn == i) = true := by simpa using hself h2
            have ha : Hid (an = -1) := by show _ = _; rw [← han, if_neg (fun q => q h1), if_pos h2]
            clear han h1 h2 hself
            go_wp2_with (first | (refine wpList_load_lnk rfl _ rfl b rfl pp nn HR6.out ?_) | fail)
            go_ret2
            exact ⟨by rw [ha.out]; rfl, 3, by omega, fun q => absurd rfl q, HL6.out⟩
          · have e2 : (pp == i) = false := by simpa using h2
            have ha : Hid (an = pp) := by show _ = _; rw [← han, if_neg (fun q => q h1), if_neg h2]
            clear han h1 h2 hself
            go_wp2_with (first | (refine wpList_load_lnk rfl _ rfl b rfl pp nn HR6.out ?_) | fail)
            go_ret2
            exact ⟨by rw [ha.out]; rfl, 3, by omega, fun q => absurd rfl q, HL6.out⟩
        · have e1 : (i == last) = false := by simpa using h1
          have ha : Hid (an = last) := by show _ = _; rw [← han, if_pos h1]
          clear han h1 hself
          go_wp2_with (first | (refine wpList_load_lnk rfl _ rfl b rfl pp nn HR6.out ?_) | fail)
          go_ret2
          exact ⟨by rw [ha.out]; rfl, 3, by omega, fun q => absurd rfl q, HL6.out⟩
      · rw [if_pos hw] at hR
        subst hR
        dsimp only
        rw [chk_no hw ht] at c3
        have he := errP_at 24 i ht.1
        rw [he]
        clear h hg hwr ht htl hw he
        go_enter Try.func26, Try.ntmps26
        go_wp2_with (first | (go_at_call 45; (first | with_reducible refine cs.out.mono ?_ | with_reducible refine cl.out.mono ?_ | fail); rintro e w1 ⟨rfl, hw1⟩; subst w1) | fail)
        refine c3.out.mono ?_
        rintro e w2 ⟨rfl, hb2⟩
        have HB2 := Hid.mk' hb2
        clear hb2
        go_wp2
        go_ret2
        exact ⟨rfl, 0, by omega, fun _ => rfl, HL0.out _ HB2.out⟩
    · rw [decide_eq_false htl] at cl
      rw [if_pos (.inr htl)] at hR
      subst hR
      dsimp only
      clear h hg hwr ht htl
      go_enter Try.func26, Try.ntmps26
      go_wp2_with (first | (go_at_call 45; (first | with_reducible refine cs.out.mono ?_ | with_reducible refine cl.out.mono ?_ | fail); rintro e w1 ⟨rfl, hw1⟩; subst w1) | fail)
      go_ret2
      exact ⟨rfl, 0, by omega, fun _ => rfl, HL0.out _ (Below.refl _ _)⟩
  · rw [decide_eq_false ht] at cs
    rw [if_pos (.inl ht)] at hR
    subst hR
    dsimp only
    clear h hg hwr ht
    go_enter Try.func26, Try.ntmps26
    go_wp2_with (first | (go_at_call 45; (first | with_reducible refine cs.out.mono ?_ | with_reducible refine cl.out.mono ?_ | fail); rintro e w1 ⟨rfl, hw1⟩; subst w1) | fail)
    go_ret2
    exact ⟨rfl, 0, by omega, fun _ => rfl, HL0.out _ (Below.refl _ _)⟩

theorem drop_p (H : KeepC Rep) (CG : GetC Rep) (CU : PutC Rep) : DropC Rep := fun w p F A last i h hg hwr _ _ => drop_u H CG CU w p F A last i h hg hwr

end
end Rg
end Go.Proofs.Ythabnombfbehkaa
/- The program's rings: Splice. -/
namespace Go.Proofs.Ythabnombfbehkaa
set_option linter.ambiguousOpen false
open Go.RowKit
namespace Rg
open An Ft Lv
set_option linter.unusedSimpArgs false
set_option linter.unusedVariables false

set_option maxRecDepth 100000 in
theorem idx0 (a b : Int) (w : World) : (Instr.index 92 (.agg #[nu a, nu b]) (nun 0)).run Try.prog w = .ok (nu a) w := by kernel_rfl

set_option maxRecDepth 100000 in
theorem idx1 (a b : Int) (w : World) : (Instr.index 92 (.agg #[nu a, nu b]) (nun 1)).run Try.prog w = .ok (nu b) w := by kernel_rfl

section
variable {Rep : World → Nat → (Nat → Prop) → Arn → Prop}

set_option maxRecDepth 100000 in
set_option maxHeartbeats 2000000 in
theorem splice_u (H : KeepC Rep) (CG : GetC Rep) (CU : PutC Rep) : SpliceU Rep := fun w p F A one two h hg hwr => by
  have c1 := Hid.mk' (isRing_p p one w)
  have c2 := Hid.mk' (isRing_p p two w)
  have HL0 : Hid (∀ w', Below w.heap.size w w' → An.Left Rep w w' p F ⟨A.sl, A.fr, A.wr + 0⟩) := fun w' hb => left_self H h hb
  obtain ⟨R, hR⟩ : ∃ R, splice A.sl one two = R := ⟨_, rfl⟩
  rw [hR]
  unfold splice at hR
  by_cases hr1 : ringI one
  · rw [decide_eq_true hr1] at c1
    by_cases hr2 : ringI two
    · rw [decide_eq_true hr2] at c2
      rw [if_neg (by rintro (q | q); exact q.2 (hr1.resolve_left q.1); exact q.2 (hr2.resolve_left q.1))] at hR
      by_cases h1 : one = -1
      · rw [if_pos h1] at hR
        subst h1
        subst hR
        dsimp only
        clear hr1 hr2
        clear h hg hwr
        go_enter Try.func33, Try.ntmps33
        go_wp2_with (first | (go_at_call 50; (first | with_reducible refine c1.out.mono ?_ | with_reducible refine c2.out.mono ?_ | fail); rintro e w1 ⟨rfl, hw1⟩; subst w1) | fail)
        go_ret2
        exact ⟨rfl, 0, by omega, fun _ => rfl, HL0.out _ (Below.refl _ _)⟩
      · rw [if_neg h1] at hR
        have ht1 : there one := hr1.resolve_left h1
        have b1 : (one == -1) = false := by simpa using h1
        by_cases h2 : two = -1
        · rw [if_pos h2] at hR
          have b2 : (two == -1) = true := by simpa using h2
          subst hR
          dsimp only
          clear hr1 hr2 h1 h2 ht1
          clear h hg hwr
          go_enter Try.func33, Try.ntmps33
          go_wp2_with (first | (go_at_call 50; (first | with_reducible refine c1.out.mono ?_ | with_reducible refine c2.out.mono ?_ | fail); rintro e w1 ⟨rfl, hw1⟩; subst w1) | fail)
          go_ret2
          exact ⟨rfl, 0, by omega, fun _ => rfl, HL0.out _ (Below.refl _ _)⟩
        · rw [if_neg h2] at hR
          have ht2 : there two := hr2.resolve_left h2
          have b2 : (two == -1) = false := by simpa using h2
          by_cases h3 : one = two
          · rw [if_pos h3] at hR
            have b3 : (one == two) = true := by simpa using h3
            subst hR
            dsimp only
            clear hr1 hr2 h1 h2 ht1 ht2 h3
            clear h hg hwr
            go_enter Try.func33, Try.ntmps33
            go_wp2_with (first | (go_at_call 50; (first | with_reducible refine c1.out.mono ?_ | with_reducible refine c2.out.mono ?_ | fail); rintro e w1 ⟨rfl, hw1⟩; subst w1) | fail)
            go_ret2
            exact ⟨rfl, 0, by omega, fun _ => rfl, HL0.out _ (Below.refl _ _)⟩
          · rw [if_neg h3] at hR
            have b3 : (one == two) = false := by simpa using h3
            have cc1 : Hid (∀ wx, Below w.heap.size w wx → Calls Try.prog 46 #[ptr p, nu one] wx fun e w' => e = .returned (chk A.sl one) ∧ Below w.heap.size w w') := fun wx hb => by
              refine (check_p H CG wx p F A one (H.below h hb) hg ht1).mono ?_
              rintro e w' ⟨rfl, hb'⟩
              exact ⟨rfl, hb.trans (hb'.mono hb.size)⟩
            have cc2 : Hid (∀ wx, Below w.heap.size w wx → Calls Try.prog 46 #[ptr p, nu two] wx fun e w' => e = .returned (chk A.sl two) ∧ Below w.heap.size w w') := fun wx hb => by
              refine (check_p H CG wx p F A two (H.below h hb) hg ht2).mono ?_
              rintro e w' ⟨rfl, hb'⟩
              exact ⟨rfl, hb.trans (hb'.mono hb.size)⟩
            have c4 : Hid (∀ wx, Below w.heap.size w wx → Calls Try.prog 47 #[ptr p, nu one] wx fun e w' => e = .returned (lkv (pv A.sl one) (nx A.sl one)) ∧ Below w.heap.size w w') := fun wx hb => by
              have := linksOf_p H CG wx p F A one (H.below h hb) hg
              rw [pvN_in ht1, nxN_in ht1] at this
              refine this.mono ?_
              rintro e w' ⟨rfl, hb'⟩
              exact ⟨rfl, hb.trans (hb'.mono hb.size)⟩
            have c5 : Hid (∀ wx, Below w.heap.size w wx → Calls Try.prog 47 #[ptr p, nu two] wx fun e w' => e = .returned (lkv (pv A.sl two) (nx A.sl two)) ∧ Below w.heap.size w w') := fun wx hb => by
              have := linksOf_p H CG wx p F A two (H.below h hb) hg
              rw [pvN_in ht2, nxN_in ht2] at this
              refine this.mono ?_
              rintro e w' ⟨rfl, hb'⟩
              exact ⟨rfl, hb.trans (hb'.mono hb.size)⟩
            have c6 : Hid (well A.sl one → well A.sl two → ∀ wx, Below w.heap.size w wx → Calls Try.prog 48 #[ptr p, nu one, nu (nx A.sl two)] wx fun e w' => (∃ u, e = .returned u) ∧ An.Left Rep w w' p F ⟨link A.sl one (nx A.sl two), A.fr, A.wr + 2⟩) := fun k1 k2 wx hb => by
              refine (join_p H CG CU wx p F A one (nx A.sl two) (H.below h hb) hg (by omega) ht1 k2.2.2.1).mono ?_
              rintro e w' ⟨q1, q2⟩
              exact ⟨q1, left_below hb q2⟩
            have c7 : Hid (well A.sl one → well A.sl two → ∀ wx, An.Left Rep w wx p F ⟨link A.sl one (nx A.sl two), A.fr, A.wr + 2⟩ → Calls Try.prog 48 #[ptr p, nu two, nu (nx A.sl one)] wx fun e w' => (∃ u, e = .returned u) ∧ An.Left Rep w w' p F ⟨link (link A.sl one (nx A.sl two)) two (nx A.sl one), A.fr, A.wr + 4⟩) := fun k1 k2 wx hl => by
              obtain ⟨G, q1, q2, q3⟩ := hl
              refine (join_p H CG CU wx p G _ two (nx A.sl one) q1 (good_sl hg (link_len _ _ _)) (by show A.wr + 2 ≤ _; omega) ht2 k1.2.2.1).mono ?_
              rintro e w' ⟨q4, q5⟩
              exact ⟨q4, left_more q2 q3 q5⟩
            have hx0 := idx0 one two
            have hx1 := idx1 one two
            have z1 := ht1.1
            have z2 := ht2.1
            have HR := Hid.mk' hR
            have HN1 : Hid (¬ well A.sl one → chk A.sl one = .iface 96 (.agg #[.int .i64 24, .int .i64 one])) := fun q => chk_no q ht1
            have HN2 : Hid (¬ well A.sl two → chk A.sl two = .iface 96 (.agg #[.int .i64 24, .int .i64 two])) := fun q => chk_no q ht2
            clear hr1 hr2 h1 h2 h3 h hg hwr hR ht1 ht2
            go_enter Try.func33, Try.ntmps33
            go_wp2_with (first | (go_at_call 50; (first | with_reducible refine c1.out.mono ?_ | with_reducible refine c2.out.mono ?_ | fail); rintro e w1 ⟨rfl, hw1⟩; subst w1) | fail)
            go_loopw [9, 10, 37, 38, 39, 40, 41, 42, 43, 44, 45, 46] (fun _ _ iv _ _ _ _ _ _ _ _ _ wr => ∃ k : Nat, k ≤ 2 ∧ iv = nun k ∧ Hid (Below w.heap.size w wr) ∧ Hid (1 ≤ k → well A.sl one) ∧ Hid (2 ≤ k → well A.sl two)) (fun _ _ iv _ _ _ _ _ _ _ _ _ _ => 2 - (intOf iv).toNat)
            case atStart => exact ⟨0, by omega, rfl, Below.refl _ _, fun q => by omega, fun q => by omega⟩
            case round =>
              obtain ⟨k, hk, rfl, HB, HW1, HW2⟩ := hrel
              rcases k with _ | (_ | (_ | k))
              · have d1 := Hid.mk' (cc1.out wr HB.out)
                by_cases hw : well A.sl one
                · rw [chk_yes hw] at d1
                  have HW := Hid.mk' hw
                  clear hw
                  go_wp2_with fail
                  refine d1.out.mono ?_
                  rintro e w2 ⟨rfl, hb2⟩
                  have HB2 := Hid.mk' hb2
                  clear hb2
                  go_wp2
                  go_roundw
                  case rel => exact ⟨1, by omega, by go_num, HB2, fun _ => HW.out, fun q => by omega⟩
                  case measure => simp [intOf]
                · rw [HN1.out hw] at d1
                  have hr : Hid (R = ⟨0, 24, one, A.sl⟩) := by
                    have := HR.out
                    rw [if_pos hw] at this
                    exact this.symm
                  clear hw
                  go_wp2_with fail
                  refine d1.out.mono ?_
                  rintro e w2 ⟨rfl, hb2⟩
                  have HB2 := Hid.mk' hb2
                  clear hb2
                  go_wp2
                  go_ret2
                  rw [hr.out]
                  dsimp only
                  rw [errP_at 24 one z1]
                  exact ⟨rfl, 0, by omega, fun _ => rfl, HL0.out _ HB2.out⟩
              · have d1 := Hid.mk' (cc2.out wr HB.out)
                by_cases hw : well A.sl two
                · rw [chk_yes hw] at d1
                  have HW := Hid.mk' hw
                  clear hw
                  go_wp2_with fail
                  refine d1.out.mono ?_
                  rintro e w2 ⟨rfl, hb2⟩
                  have HB2 := Hid.mk' hb2
                  clear hb2
                  go_wp2
                  go_roundw
                  case rel => exact ⟨2, by omega, by go_num, HB2, fun _ => HW1.out (by omega), fun _ => HW.out⟩
                  case measure => simp [intOf]
                · rw [HN2.out hw] at d1
                  have hr : Hid (R = ⟨0, 24, two, A.sl⟩) := by
                    have := HR.out
                    rw [if_neg (fun q => q (HW1.out (by omega))), if_pos hw] at this
                    exact this.symm
                  clear hw
                  go_wp2_with fail
                  refine d1.out.mono ?_
                  rintro e w2 ⟨rfl, hb2⟩
                  have HB2 := Hid.mk' hb2
                  clear hb2
                  go_wp2
                  go_ret2
                  rw [hr.out]
                  dsimp only
                  rw [errP_at 24 two z2]
                  exact ⟨rfl, 0, by omega, fun _ => rfl, HL0.out _ HB2.out⟩
              · have k1 := HW1.out (by omega)
                have k2 := HW2.out (by omega)
                have hr : Hid (R = ⟨two, 0, -1, link (link A.sl one (nx A.sl two)) two (nx A.sl one)⟩) := by
                  have := HR.out
                  rw [if_neg (fun q => q k1), if_neg (fun q => q k2)] at this
                  exact this.symm
                have d6 := Hid.mk' (c6.out k1 k2)
                have d7 := Hid.mk' (c7.out k1 k2)
                clear k1 k2 c6 c7 HW1 HW2 HR HN1 HN2 cc1 cc2
                generalize link (link A.sl one (nx A.sl two)) two (nx A.sl one) = S4 at *
                generalize link A.sl one (nx A.sl two) = S2 at *
                generalize nx A.sl one = n1 at *
                generalize pv A.sl one = p1 at *
                generalize nx A.sl two = n2 at *
                generalize pv A.sl two = p2 at *
                have f1 := fld1 p1 n1
                have f2 := fld1 p2 n2
                go_wp2_with fail
                refine (c4.out _ HB.out).mono ?_
                rintro e w2 ⟨rfl, hb2⟩
                have HB2 := Hid.mk' hb2
                clear hb2
                go_wp2_with fail
                refine (c5.out _ HB2.out).mono ?_
                rintro e w3 ⟨rfl, hb3⟩
                have HB3 := Hid.mk' hb3
                clear hb3
                go_wp2_with fail
                refine (d6.out _ HB3.out).mono ?_
                rintro e w4 ⟨⟨u4, rfl⟩, hl4⟩
                have HL4 := Hid.mk' hl4
                clear hl4
                go_wp2_with fail
                refine (d7.out _ HL4.out).mono ?_
                rintro e w5 ⟨⟨u5, rfl⟩, hl5⟩
                have HL5 := Hid.mk' hl5
                clear hl5
                go_wp2
                go_ret2
                rw [hr.out]
                exact ⟨rfl, 4, by omega, fun q => absurd rfl q, HL5.out⟩
              · omega
    · rw [decide_eq_false hr2] at c2
      rw [if_pos (.inr ⟨fun q => hr2 (.inl q), fun q => hr2 (.inr q)⟩)] at hR
      subst hR
      dsimp only
      clear hr1 hr2
      clear h hg hwr
      go_enter Try.func33, Try.ntmps33
      go_wp2_with (first | (go_at_call 50; (first | with_reducible refine c1.out.mono ?_ | with_reducible refine c2.out.mono ?_ | fail); rintro e w1 ⟨rfl, hw1⟩; subst w1) | fail)
      go_ret2
      exact ⟨rfl, 0, by omega, fun _ => rfl, HL0.out _ (Below.refl _ _)⟩
  · rw [decide_eq_false hr1] at c1
    rw [if_pos (.inl ⟨fun q => hr1 (.inl q), fun q => hr1 (.inr q)⟩)] at hR
    subst hR
    dsimp only
    clear hr1
    clear h hg hwr
    go_enter Try.func33, Try.ntmps33
    go_wp2_with (first | (go_at_call 50; (first | with_reducible refine c1.out.mono ?_ | with_reducible refine c2.out.mono ?_ | fail); rintro e w1 ⟨rfl, hw1⟩; subst w1) | fail)
    go_ret2
    exact ⟨rfl, 0, by omega, fun _ => rfl, HL0.out _ (Below.refl _ _)⟩

theorem splice_p (H : KeepC Rep) (CG : GetC Rep) (CU : PutC Rep) : SpliceC Rep := fun w p F A last i h hg hwr _ _ => splice_u H CG CU w p F A last i h hg hwr
end
end Rg
end Go.Proofs.Ythabnombfbehkaa
