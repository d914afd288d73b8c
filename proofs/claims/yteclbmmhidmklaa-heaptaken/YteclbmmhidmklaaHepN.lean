/- HeapTaken: its walk, out of what the program's heap answers. -/
import Derived.Test.YteclbmmhidmklaaHepM
namespace Go.Proofs.Yteclbmmhidmklaa
set_option linter.ambiguousOpen false
open Go.RowKit
namespace Hh
open Ft
set_option linter.unusedSimpArgs false
set_option linter.unusedVariables false
attribute [local go_sem] Oper.semAt_some

theorem hk_get {N : Int} {S : List It} (h : Hk N S) {j : Nat} {x y : It} (hy : S[j]? = some y) (hx : S[j + 1]? = some x) : y.k < x.k ∨ (y.k = x.k ∧ y.i < x.i) := by
  obtain ⟨h1, e1⟩ := List.getElem?_eq_some_iff.1 hy
  obtain ⟨h2, e2⟩ := List.getElem?_eq_some_iff.1 hx
  have := (List.pairwise_iff_getElem.1 h.srt) j (j + 1) h1 h2 (by omega)
  rw [e1, e2] at this
  exact ahd_iff.1 this

set_option maxRecDepth 1000000 in
set_option maxHeartbeats 16000000 in
theorem heapTaken_yes {R : RepHT} (C : HeapC R) (v : Value) (l : List It) (w : World) (hR : RdQ w v l) (hF : ∀ x ∈ l, I64 x.i) :
    Calls Try.prog 3 #[v] w fun e w' => e = .returned (.bool true) ∧ Below w.heap.size w w' := by
  obtain ⟨i0, ji, hz0, hz1, hz2⟩ := info_parts infoZ
  have HRQ := Hid.mk' hR
  obtain ⟨av, cv, rfl, hc1, hc2, hcell⟩ := hR
  have cW : Hid (∀ wx, Calls Try.prog 6 #[] wx fun e w' => e = .returned (.bool true) ∧ Below wx.heap.size wx w') := fun wx => works_any C.toHeapB wx
  obtain ⟨m, hm⟩ : ∃ m, l.length = m := ⟨_, rfl⟩
  have HM := Hid.mk' hm
  have HF := Hid.mk' hF
  rw [hm] at hc1 HRQ ⊢
  unfold maxLen at hc2
  have hcI : (cv : Int) ≤ 9223372036854775807 := by omega
  clear hcell hF hm
  by_cases hbig : m > 1000
  · have hbI : (m : Int) > 1000 := by omega
    go_enter Try.func3, Try.ntmps3
    go_wp2_with fail
    refine (cW.out w).mono ?_
    rintro e w1 ⟨rfl, b1⟩
    have HB1 := Hid.mk' b1
    clear b1
    go_wp2_with fail
    refine (cW.out w1).mono ?_
    rintro e w2 ⟨rfl, b2⟩
    have HB2 := Hid.mk' (HB1.out.trans (b2.mono HB1.out.size))
    clear b2
    go_wp2
    go_ret
    exact ⟨rfl, HB2.out⟩
  · have hbI : ¬ (m : Int) > 1000 := by omega
    go_enter Try.func3, Try.ntmps3
    go_wp2_with fail
    refine (cW.out w).mono ?_
    rintro e w1 ⟨rfl, b1⟩
    have HB1 := Hid.mk' b1
    have c2 := Hid.mk' (filled_any C.toHeapB _ l w1 (HRQ.out.below b1) HF.out)
    clear b1
    go_wp2_with fail
    refine c2.out.mono ?_
    rintro e w2 ⟨p, F, rfl, h2, f2, b2⟩
    have hgood := fill_good l
    have hfew := fill_few l
    obtain ⟨S, hS⟩ : ∃ S, fill l = S := ⟨_, rfl⟩
    rw [hS] at h2 hgood hfew
    have HB2 := Hid.mk' (HB1.out.trans (b2.mono HB1.out.size))
    have HF2 : Hid (∀ k, F k → w.heap.size ≤ k) := fun k hk => Nat.le_trans HB1.out.size (f2 k hk)
    have H2 := Hid.mk' h2
    have HG := Hid.mk' hgood
    have c3 := Hid.mk' (C.all w2 p F 64 S h2 hgood (by omega))
    clear h2 f2 b2 c2 hgood hS cW
    go_wp2_with fail
    refine c3.out.mono ?_
    rintro e w3 ⟨fv, X, rfl, hit, hX, b3⟩
    have HB3 := Hid.mk' (HB2.out.trans (b3.mono HB2.out.size))
    have HL3 := Hid.mk' (C.lt H2.out)
    have H3 := Hid.mk' (C.below H2.out b3)
    have HS3 := Hid.mk' b3.size
    have c4 := Hid.mk' (pairs_any fv X S w3 64 hit (by omega) (by decide))
    rw [List.take_of_length_le (show S.length ≤ 64 by omega)] at c4
    obtain ⟨gf, lb, kk, hfv, _⟩ := id hit
    subst hfv
    clear hit hX b3 c3 H2
    go_wp2_with fail
    refine c4.out.mono ?_
    rintro e w4 ⟨v4, rfl, ho4, b4⟩
    have HB4 := Hid.mk' (HB3.out.trans (b4.mono HB3.out.size))
    have HT0 : Hid (Tk R w w4 p S 0 0 (.slice none 0 0) v4) := by
      refine ⟨⟨F, C.below H3.out b4, HF2.out, fun j hj => by simp [Value.ownBlock] at hj, fun j hj e => ?_⟩, World.ownsRow_nil _ _ _ _, own_monoI ho4 HB3.out.size, fun j hj => by simp [Value.ownBlock] at hj, HB4.out⟩
      have := (ho4.lt j hj).1
      have := HL3.out j e
      have := HS3.out
      omega
    obtain ⟨n, hn⟩ : ∃ n, S.length = n := ⟨_, rfl⟩
    rw [hn] at ho4 hfew
    obtain ⟨aa, ac, rfl, ha1, ha2, _⟩ := Nm.own_shape ho4
    unfold maxLen at ha2
    have haI : (ac : Int) ≤ 9223372036854775807 := by omega
    have c5 := HT0.out.len C
    rw [hn, Nat.sub_zero] at c5
    have c5 := Hid.mk' c5
    have HN := Hid.mk' hn
    clear HB4 ho4 b4 c4 H3 HF2 HL3 HS3 HB3 HB2 HB1 HT0 hn
    go_wp2_with fail
    refine c5.out.mono ?_
    rintro e w5 ⟨rfl, HT5⟩
    clear c5
    go_wp2_with fail
    go_loopw [5, 7, 8, 9, 10, 11, 12, 13, 14] (fun gv kv _ _ _ _ _ _ _ wr => ∃ k : Nat, k ≤ n ∧ kv = nun k ∧ Hid (Tk R w wr p S k k gv (.slice aa (2 * n) ac))) (fun _ kv _ _ _ _ _ _ _ _ => n - (intOf kv).toNat)
    case atStart => exact ⟨0, Nat.zero_le _, rfl, HT5⟩
    case round =>
      clear HT5
      obtain ⟨k, hk, rfl, HT⟩ := hrel
      by_cases hlt : k < n
      · have hkI : (k : Int) < (n : Int) := by omega
        have hsn := HN.out
        obtain ⟨x, hx⟩ : ∃ x, S[k]? = some x := ⟨_, List.getElem?_eq_getElem (by omega)⟩
        by_cases hk0 : 0 < k
        · obtain ⟨j, hj⟩ : ∃ j, k = j + 1 := ⟨k - 1, by omega⟩
          obtain ⟨y, hy⟩ : ∃ y, S[j]? = some y := ⟨_, List.getElem?_eq_getElem (by omega)⟩
          have hah := hk_get HG.out hy (by rw [← hj]; exact hx)
          have hsh : ∃ g c, u5 = .slice (some ⟨g, 0, none⟩) (2 * k) c ∧ 2 * k ≤ c ∧ c ≤ maxLen := by
            have h0 := HT.out
            rw [hj] at h0 ⊢
            exact h0.shape2
          obtain ⟨ga, gc, rfl, hgc, hgm⟩ := hsh
          have HY := Hid.mk' hy
          have HJ := Hid.mk' hj
          unfold maxLen at hgm
          have hgI : (gc : Int) ≤ 9223372036854775807 := by omega
          have hk0I : (k : Int) > 0 := by omega
          have hk0I2 : (0 : Int) < (k : Int) := by omega
          have hi1 : 2 * (k : Int) - 2 = ((2 * j : Nat) : Int) := by omega
          have hi2 : 2 * (k : Int) - 1 = ((2 * j + 1 : Nat) : Int) := by omega
          have hi3 : ((2 * j : Nat) : Int) < ((2 * k : Nat) : Int) := by omega
          have hi4 : ((2 * j + 1 : Nat) : Int) < ((2 * k : Nat) : Int) := by omega
          have hi5 : (0 : Int) ≤ ((2 * j : Nat) : Int) := by omega
          have hi6 : (0 : Int) ≤ ((2 * j + 1 : Nat) : Int) := by omega
          clear hj hy
          have cL := Hid.mk' (HT.out.first C HG.out x hx)
          have HX := Hid.mk' hx
          obtain ⟨xi, xk⟩ := x
          dsimp only at cL
          have hkk : (xk != xk) = false := by simp
          clear hx
          go_wp2_with fail
          refine cL.out.mono ?_
          rintro e w4 ⟨rfl, H4⟩
          have cK := Hid.mk' (H4.out.key C HG.out _ HX.out)
          clear H4 cL
          go_wp2_with fail
          refine cK.out.mono ?_
          rintro e w5 ⟨rfl, H5⟩
          have cD := Hid.mk' (H5.out.drop C HG.out _ HX.out)
          clear H5 cK
          go_wp2_with fail
          refine cD.out.mono ?_
          rintro e w6 ⟨rfl, H6⟩
          have cA := Hid.mk' (H6.out.again C HG.out _ HX.out)
          clear H6 cD
          go_wp2_with fail
          refine cA.out.mono ?_
          rintro e w7 ⟨rfl, H7⟩
          clear cA
          have H8 := Hid.mk' (H7.out.below C ((Below.refl _ _).alloc (Nat.le_refl _) (.cells #[nu xi, nu xk] 3)))
          have HRW : Hid ((w7.alloc (.cells #[nu xi, nu xk] 3)).ownsRow w.heap.size 3 1 (.slice (some ⟨ga, 0, none⟩) (2 * k) gc) (2 * k) ((prs (S.take k)).map nu)) := H8.out.got
          have hbsz : Hid (w.heap.size ≤ (w7.alloc (.cells #[nu xi, nu xk] 3)).heap.size) := H8.out.bel.size
          have HFIN : Hid (∀ w8 g8 c8, w8.ownsRow w.heap.size 3 1 (.slice (some ⟨g8, 0, none⟩) (2 * k + 2) c8) (2 * k + 2) ((prs (S.take k)).map nu ++ [nu xi, nu xk]) → (w7.alloc (.cells #[nu xi, nu xk] 3)).grownBy w8 (Value.slice (some ⟨ga, 0, none⟩) (2 * k) gc).ownBlock → ((Value.slice (some ⟨ga, 0, none⟩) (2 * k) gc).ownBlock = some g8 ∨ g8 = (w7.alloc (.cells #[nu xi, nu xk] 3)).heap.size) → Tk R w w8 p S (k + 1) (k + 1) (.slice (some ⟨g8, 0, none⟩) (2 * k + 2) c8) (.slice aa (2 * n) ac)) := fun w8 g8 c8 h1 h2 h3 => H8.out.grown C HX.out h1 h2 h3
          have hone : Hid (∀ u ∈ [nu xi, nu xk], u.oneCell' = true) := by
            intro u hu
            simp only [List.mem_cons, List.not_mem_nil, or_false] at hu
            rcases hu with rfl | rfl <;> rfl
          have hmx : Hid (2 * k + 2 ≤ maxLen) := by show _ ≤ _; unfold maxLen; omega
          have hby : Hid ((2 * k + 2) * 8 ≤ 140737488355328) := by show _ ≤ _; omega
          have hlast : w7.cell? ⟨ga, 2 * j, none⟩ = some (nu y.i) ∧ w7.cell? ⟨ga, 2 * j + 1, none⟩ = some (nu y.k) := by
            have h0 := H7.out
            have hj := HJ.out
            subst hj
            exact h0.last HY.out
          obtain ⟨l0, l1⟩ := hlast
          obtain ⟨yi, yk⟩ := y
          dsimp only at l0 l1 hah
          obtain ⟨d, hd⟩ : ∃ d, 2 * j = d := ⟨_, rfl⟩
          rw [hd] at hi1 hi2 hi3 hi4 hi5 hi6 l0 l1
          have d1 : decide (xk < yk) = false := decide_eq_false (by omega)
          clear H8 H7 hgm HT hd
          by_cases hyk : xk = yk
          · have d2 : (xk == yk) = true := by simpa using hyk
            have d3 : decide (xi ≤ yi) = false := decide_eq_false (by omega)
            clear hah hyk
            go_wp2_with (at_builtin; refine wpList_append_lies _ rfl _ _ 26 rfl w.heap.size 3 i0 (.int .i64 0) 1 8 Try.underlying26 ji hz0 hz1 hz2 rfl (by decide) (.slice (some ⟨ga, 0, none⟩) (2 * k) gc) (2 * k) ((prs (S.take k)).map nu) rfl HRW.out ⟨w7.heap.size, 0, none⟩ 2 2 [nu xi, nu xk] rfl rfl (World.news_of_block (heap_alloc_new _ _)) hone.out (by decide) hmx.out hby.out hbsz.out _ rfl ?_; intro g8 c8 w8 ho8 hg8 hat8 _; have HQ8 := Hid.mk' (HFIN.out w8 g8 c8 ho8 hg8 hat8); clear ho8 hg8 hat8)
            go_roundw
            case rel => exact ⟨k + 1, by omega, by go_num, HQ8⟩
            case measure => simp [intOf]; omega
          · have d2 : (xk == yk) = false := by simpa using hyk
            clear hah hyk
            go_wp2_with (at_builtin; refine wpList_append_lies _ rfl _ _ 26 rfl w.heap.size 3 i0 (.int .i64 0) 1 8 Try.underlying26 ji hz0 hz1 hz2 rfl (by decide) (.slice (some ⟨ga, 0, none⟩) (2 * k) gc) (2 * k) ((prs (S.take k)).map nu) rfl HRW.out ⟨w7.heap.size, 0, none⟩ 2 2 [nu xi, nu xk] rfl rfl (World.news_of_block (heap_alloc_new _ _)) hone.out (by decide) hmx.out hby.out hbsz.out _ rfl ?_; intro g8 c8 w8 ho8 hg8 hat8 _; have HQ8 := Hid.mk' (HFIN.out w8 g8 c8 ho8 hg8 hat8); clear ho8 hg8 hat8)
            go_roundw
            case rel => exact ⟨k + 1, by omega, by go_num, HQ8⟩
            case measure => simp [intOf]; omega
        · obtain ⟨ga, gc, rfl, hgc, hgm⟩ := HT.out.shape
          unfold maxLen at hgm
          have hgI : (gc : Int) ≤ 9223372036854775807 := by omega
          have hk0I : ¬ (k : Int) > 0 := by omega
          have cL := Hid.mk' (HT.out.first C HG.out x hx)
          have HX := Hid.mk' hx
          obtain ⟨xi, xk⟩ := x
          dsimp only at cL
          have hkk : (xk != xk) = false := by simp
          clear hx
          go_wp2_with fail
          refine cL.out.mono ?_
          rintro e w4 ⟨rfl, H4⟩
          have cK := Hid.mk' (H4.out.key C HG.out _ HX.out)
          clear H4 cL
          go_wp2_with fail
          refine cK.out.mono ?_
          rintro e w5 ⟨rfl, H5⟩
          have cD := Hid.mk' (H5.out.drop C HG.out _ HX.out)
          clear H5 cK
          go_wp2_with fail
          refine cD.out.mono ?_
          rintro e w6 ⟨rfl, H6⟩
          have cA := Hid.mk' (H6.out.again C HG.out _ HX.out)
          clear H6 cD
          go_wp2_with fail
          refine cA.out.mono ?_
          rintro e w7 ⟨rfl, H7⟩
          clear cA
          have H8 := Hid.mk' (H7.out.below C ((Below.refl _ _).alloc (Nat.le_refl _) (.cells #[nu xi, nu xk] 3)))
          have HRW : Hid ((w7.alloc (.cells #[nu xi, nu xk] 3)).ownsRow w.heap.size 3 1 (.slice ga (2 * k) gc) (2 * k) ((prs (S.take k)).map nu)) := H8.out.got
          have hbsz : Hid (w.heap.size ≤ (w7.alloc (.cells #[nu xi, nu xk] 3)).heap.size) := H8.out.bel.size
          have HFIN : Hid (∀ w8 g8 c8, w8.ownsRow w.heap.size 3 1 (.slice (some ⟨g8, 0, none⟩) (2 * k + 2) c8) (2 * k + 2) ((prs (S.take k)).map nu ++ [nu xi, nu xk]) → (w7.alloc (.cells #[nu xi, nu xk] 3)).grownBy w8 (Value.slice ga (2 * k) gc).ownBlock → ((Value.slice ga (2 * k) gc).ownBlock = some g8 ∨ g8 = (w7.alloc (.cells #[nu xi, nu xk] 3)).heap.size) → Tk R w w8 p S (k + 1) (k + 1) (.slice (some ⟨g8, 0, none⟩) (2 * k + 2) c8) (.slice aa (2 * n) ac)) := fun w8 g8 c8 h1 h2 h3 => H8.out.grown C HX.out h1 h2 h3
          have hone : Hid (∀ u ∈ [nu xi, nu xk], u.oneCell' = true) := by
            intro u hu
            simp only [List.mem_cons, List.not_mem_nil, or_false] at hu
            rcases hu with rfl | rfl <;> rfl
          have hmx : Hid (2 * k + 2 ≤ maxLen) := by show _ ≤ _; unfold maxLen; omega
          have hby : Hid ((2 * k + 2) * 8 ≤ 140737488355328) := by show _ ≤ _; omega
          clear H8 H7 hgm HT
          go_wp2_with (at_builtin; refine wpList_append_lies _ rfl _ _ 26 rfl w.heap.size 3 i0 (.int .i64 0) 1 8 Try.underlying26 ji hz0 hz1 hz2 rfl (by decide) (.slice ga (2 * k) gc) (2 * k) ((prs (S.take k)).map nu) rfl HRW.out ⟨w7.heap.size, 0, none⟩ 2 2 [nu xi, nu xk] rfl rfl (World.news_of_block (heap_alloc_new _ _)) hone.out (by decide) hmx.out hby.out hbsz.out _ rfl ?_; intro g8 c8 w8 ho8 hg8 hat8 _; have HQ8 := Hid.mk' (HFIN.out w8 g8 c8 ho8 hg8 hat8); clear ho8 hg8 hat8)
          go_roundw
          case rel => exact ⟨k + 1, by omega, by go_num, HQ8⟩
          case measure => simp [intOf]; omega
      · have hkI : ¬ (k : Int) < (n : Int) := by omega
        obtain rfl : k = n := by omega
        have cL := Hid.mk' (HT.out.least0 C HG.out HN.out.symm)
        have HSZ : Hid (S.take k = S ∧ S.length - k = 0 ∧ 2 * S.length = 2 * k) := by
          have := HN.out
          exact ⟨List.take_of_length_le (by omega), by omega, by omega⟩
        have hb : (((2 * k : Nat) : Int) == 2 * (k : Int)) = true := by simp
        clear HT
        go_wp2_with fail
        refine cL.out.mono ?_
        rintro e w6 ⟨rfl, H6⟩
        have cN := H6.out.len C
        rw [HSZ.out.2.1] at cN
        have cN := Hid.mk' cN
        clear cL H6
        go_wp2_with fail
        refine cN.out.mono ?_
        rintro e w7 ⟨rfl, H7⟩
        clear cN
        have cS : Hid (Calls Try.prog 14 #[u5, .slice aa (2 * k) ac] w7 fun e w' => e = .returned (.bool true) ∧ Hid (Below w.heap.size w w')) := by
          have h1 := own_rdZ H7.out.got
          have h2 := own_rdZ H7.out.all
          rw [HSZ.out.1] at h1
          refine (sameZ _ _ (prs S) w7 h1 h2).mono ?_
          rintro e w' ⟨rfl, hb⟩
          exact ⟨rfl, H7.out.bel.trans (hb.mono H7.out.bel.size)⟩
        obtain ⟨ga, gc, rfl, hgc, hgm⟩ := H7.out.shape
        clear H7 HSZ
        go_wp2_with fail
        refine cS.out.mono ?_
        rintro e w8 ⟨rfl, HB8⟩
        clear cS
        go_wp2
        go_ret
        exact ⟨by simp, HB8.out⟩
end Hh
end Go.Proofs.Yteclbmmhidmklaa
