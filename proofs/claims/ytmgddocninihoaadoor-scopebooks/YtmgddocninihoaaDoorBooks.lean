/- The walk of ScopeBooks. -/
import Derived.Test.YtmgddocninihoaaDoorParses
import Derived.Test.YtmgddocninihoaaDoorLent
import Derived.Test.YtmgddocninihoaaDoorTwoL
namespace Go.Proofs.YtmgddocninihoaaDoor
set_option linter.ambiguousOpen false
open Go.RowKit Nm Er
namespace Sc
set_option linter.unusedSimpArgs false
set_option linter.unusedVariables false

theorem rd_lent {w : World} {base g cap : Nat} {l : List (List UInt8)} (hown : w.ownsRow base 9 1 (.slice (some ⟨g, 0, none⟩) (l.length + 16) cap) (l.length + 16) (l.map txt ++ marks 90 16)) (hcap : l.length + 16 ≤ cap) (hcm : cap ≤ maxLen) (hgl : g < w.heap.size) :
    Rd w (.slice (some ⟨g, 0, none⟩) l.length cap) l := by
  refine ⟨_, cap, rfl, by omega, hcm, fun _ => ⟨g, 0, rfl, hgl, fun j hj => ?_⟩⟩
  rw [Nat.zero_add]
  have := Lb.row_at hown j (by omega) (by simp [marks_len]; omega)
  rw [this, List.getElem_append_left (by simpa using hj)]
  simp [txt]

set_option maxRecDepth 1000000 in
set_option maxHeartbeats 4000000 in
theorem scopeBooks_walk (v : Value) (l : List (List UInt8)) (w : World) (hR : Rd w v l) (hlen : ∀ p ∈ l, p.length ≤ maxLen) (hsz : l.length * 16 ≤ 140737488351232) (hE : Handle w) :
    Calls Tryd.prog 3 #[v] w fun e w' => e = .returned (.bool true) ∧ Below w.heap.size w w' := by
  have HLEN : Hid (∀ p ∈ l, p.length ≤ maxLen) := hlen
  clear hlen
  have HR : Hid (∀ w', Below w.heap.size w w' → Rd w' v l) := fun w' h => hR.below h
  have CL := Lb.lent_any v l
  have CLH : Hid (∀ w', Rd w' v l → Calls Tryd.prog 10 #[v] w' fun e w'' => ∃ g cap, e = .returned (.slice (some ⟨g, 0, none⟩) l.length cap) ∧ l.length + 16 ≤ cap ∧ cap ≤ maxLen ∧ w''.ownsRow w'.heap.size 9 1 (.slice (some ⟨g, 0, none⟩) (l.length + 16) cap) (l.length + 16) (l.map txt ++ marks 90 16) ∧ Below w'.heap.size w' w'') := fun w' h => CL w' h hsz
  clear CL
  obtain ⟨a, cap, rfl, hc, hm, hcell⟩ := hR
  unfold maxLen at hm
  have HC : Hid (0 < l.length → ∃ g o, a = some ⟨g, o, none⟩ ∧ g < w.heap.size ∧ ∀ j (hj : j < l.length), w.cell? ⟨g, o + j, none⟩ = some (.string (B l[j]))) := hcell
  clear hcell
  go_enter Tryd.func3, Tryd.ntmps3
  go_wp2
  go_loopw [3] (fun iv wr => ∃ k : Nat, k ≤ l.length ∧ k ≤ 65 ∧ iv = .int .i64 k ∧ wr = w) (fun iv _ => 65 - (intOf iv).toNat)
  case atStart => exact ⟨0, Nat.zero_le _, by omega, rfl, rfl⟩
  case round =>
    obtain ⟨k, hk, hk2, rfl, hww⟩ := hrel
    subst wr
    by_cases hp : k < l.length ∧ k ≤ 64
    · obtain ⟨hp1, hp2⟩ := hp
      obtain ⟨g, o, rfl, hgl, hcj⟩ := HC.out (Nat.lt_of_le_of_lt (Nat.zero_le _) hp1)
      have hck := hcj k hp1
      have hlk := HLEN.out _ (List.getElem_mem hp1)
      unfold maxLen at hlk
      have hszk : (B l[k]).size = l[k].length := rfl
      clear hcj
      by_cases hbig : 16777216 < l[k].length
      · go_wp2
        go_ret
        exact ⟨rfl, Below.refl _ _⟩
      · go_wp2
        go_roundw
        case rel => exact ⟨k + 1, by omega, by omega, by go_num, trivial⟩
        case measure => simp [intOf]; omega
    · by_cases hs : k < l.length
      · have h65 : ¬ k ≤ 64 := by omega
        have hmany : 64 < l.length := by omega
        go_wp2_with fail
        refine (rnew_many _ l w (HR.out w (Below.refl _ _)) hmany).mono ?_
        rintro e w1 ⟨rfl, hq⟩
        subst w1
        go_wp2_with fail
        refine (CLH.out w (HR.out w (Below.refl _ _))).mono ?_
        rintro e w1 ⟨g, cp, rfl, hcp, hcm, hown, hb1⟩
        obtain ⟨_, _, hgv, _, _, hgw, hgl⟩ := Lb.own_pos hown (by omega)
        simp only [Value.slice.injEq, Option.some.injEq, Addr.mk.injEq, and_true, true_and] at hgv
        obtain ⟨rfl, rfl⟩ := hgv
        have cnw := new_many _ l w1 (rd_lent hown hcp hcm hgl) hmany
        have ctl := told_no 5 (by decide) (by decide) w1 (hE.below hb1)
        have CK : Hid (∀ w', Below w1.heap.size w1 w' → Calls Tryd.prog 13 #[.slice (some ⟨g, 0, none⟩) l.length cp, .slice a l.length cap] w' fun e w'' => e = .returned (.bool true) ∧ Below w'.heap.size w' w'') := fun w' h => Lb.kept_any _ l g cp w.heap.size w' (HR.out w' (hb1.trans (h.mono hb1.size))) hsz hcp hcm (own_below hown h) (Nat.lt_of_lt_of_le hgl h.size)
        unfold noV at cnw ctl
        clear hown hcm
        go_wp2_with fail
        refine cnw.mono ?_
        rintro e w2 ⟨rfl, hq⟩
        subst w2
        go_wp2_with fail
        refine ctl.mono ?_
        rintro e w2 ⟨rfl, hb2⟩
        go_wp2_with fail
        refine (CK.out w2 hb2).mono ?_
        rintro e w3 ⟨rfl, hb3⟩
        have hB2 := hb1.trans (hb2.mono hb1.size)
        go_wp2
        go_ret
        exact ⟨rfl, hB2.trans (hb3.mono hB2.size)⟩
      · go_wp2_with fail
        by_cases hmany : 64 < l.length
        · refine (rnew_many _ l w (HR.out w (Below.refl _ _)) hmany).mono ?_
          rintro e w1 ⟨rfl, hq⟩
          subst w1
          go_wp2_with fail
          refine (CLH.out w (HR.out w (Below.refl _ _))).mono ?_
          rintro e w1 ⟨g, cp, rfl, hcp, hcm, hown, hb1⟩
          obtain ⟨_, _, hgv, _, _, hgw, hgl⟩ := Lb.own_pos hown (by omega)
          simp only [Value.slice.injEq, Option.some.injEq, Addr.mk.injEq, and_true, true_and] at hgv
          obtain ⟨rfl, rfl⟩ := hgv
          have cnw := new_many _ l w1 (rd_lent hown hcp hcm hgl) hmany
          have ctl := told_no 5 (by decide) (by decide) w1 (hE.below hb1)
          have CK : Hid (∀ w', Below w1.heap.size w1 w' → Calls Tryd.prog 13 #[.slice (some ⟨g, 0, none⟩) l.length cp, .slice a l.length cap] w' fun e w'' => e = .returned (.bool true) ∧ Below w'.heap.size w' w'') := fun w' h => Lb.kept_any _ l g cp w.heap.size w' (HR.out w' (hb1.trans (h.mono hb1.size))) hsz hcp hcm (own_below hown h) (Nat.lt_of_lt_of_le hgl h.size)
          unfold noV at cnw ctl
          clear hown hcm
          go_wp2_with fail
          refine cnw.mono ?_
          rintro e w2 ⟨rfl, hq⟩
          subst w2
          go_wp2_with fail
          refine ctl.mono ?_
          rintro e w2 ⟨rfl, hb2⟩
          go_wp2_with fail
          refine (CK.out w2 hb2).mono ?_
          rintro e w3 ⟨rfl, hb3⟩
          have hB2 := hb1.trans (hb2.mono hb1.size)
          go_wp2
          go_ret
          exact ⟨rfl, hB2.trans (hb3.mono hB2.size)⟩
        · refine (rnew_any _ l w (HR.out w (Below.refl _ _)) (by omega) HLEN.out).mono ?_
          rintro e w0 ⟨rfl, hb0⟩
          cases hg : newG [] l with
          | some nk =>
            obtain ⟨n, kk⟩ := nk
            have hn := (newG_num l [] n kk hg).1
            have e1 : newV l = ((n : Int), (kk : Int)) := by unfold newV; rw [hg]
            rw [e1]
            have hz : ((n : Int) != 0) = true := by rw [bne_iff_ne]; omega
            go_wp2_with fail
            refine (CLH.out w0 (HR.out w0 hb0)).mono ?_
            rintro e w1 ⟨g, cp, rfl, hcp, hcm, hown, hb1⟩
            obtain ⟨_, _, hgv, _, _, hgw, hgl⟩ := Lb.own_pos hown (by omega)
            simp only [Value.slice.injEq, Option.some.injEq, Addr.mk.injEq, and_true, true_and] at hgv
            obtain ⟨rfl, rfl⟩ := hgv
            have hB1 := hb0.trans (hb1.mono hb0.size)
            have cnw := new_any _ l w1 (rd_lent hown hcp hcm hgl) (by omega) HLEN.out
            have CT : Hid (∀ w', Handle w' → Calls Tryd.prog 12 #[atV n kk, .int .i64 n, .int .i64 kk] w' fun e w'' => e = .returned (.bool true) ∧ Below w'.heap.size w' w'') := fun w' h => told_at n kk (by omega) (by omega) w' h
            have CK : Hid (∀ w', Below w1.heap.size w1 w' → Calls Tryd.prog 13 #[.slice (some ⟨g, 0, none⟩) l.length cp, .slice a l.length cap] w' fun e w'' => e = .returned (.bool true) ∧ Below w'.heap.size w' w'') := fun w' h => Lb.kept_any _ l g cp w0.heap.size w' (HR.out w' (hB1.trans (h.mono hB1.size))) hsz hcp hcm (own_below hown h) (Nat.lt_of_lt_of_le hgl h.size)
            clear hown hcm hn e1
            go_wp2_with fail
            refine cnw.mono ?_
            rintro e w2 ⟨hb2, ⟨h0, _⟩ | ⟨n', k', h0, rfl⟩⟩
            · rw [hg] at h0; cases h0
            rw [hg] at h0
            obtain ⟨rfl, rfl⟩ : n = n' ∧ kk = k' := by simpa using h0
            clear hg h0
            unfold atV at CT ⊢
            have hB2 := hB1.trans (hb2.mono hB1.size)
            go_wp2_with fail
            refine (CT.out w2 (hE.below hB2)).mono ?_
            rintro e w3 ⟨rfl, hb3⟩
            have hC3 := hb2.trans (hb3.mono hb2.size)
            go_wp2_with fail
            refine (CK.out w3 hC3).mono ?_
            rintro e w4 ⟨rfl, hb4⟩
            have hB3 := hB2.trans (hb3.mono hB2.size)
            go_wp2
            go_ret
            exact ⟨rfl, hB3.trans (hb4.mono hB3.size)⟩
          | none =>
            have e1 : newV l = (0, -1) := by unfold newV; rw [hg]
            rw [e1]
            go_wp2_with fail
            refine (CLH.out w0 (HR.out w0 hb0)).mono ?_
            rintro e w1 ⟨g, cp, rfl, hcp, hcm, hown, hb1⟩
            obtain ⟨_, _, hgv, _, _, hgw, hgl⟩ := Lb.own_pos hown (by omega)
            simp only [Value.slice.injEq, Option.some.injEq, Addr.mk.injEq, and_true, true_and] at hgv
            obtain ⟨rfl, rfl⟩ := hgv
            have hB1 := hb0.trans (hb1.mono hb0.size)
            have cnw := new_any _ l w1 (rd_lent hown hcp hcm hgl) (by omega) HLEN.out
            have CK : Hid (∀ w', Below w1.heap.size w1 w' → Calls Tryd.prog 13 #[.slice (some ⟨g, 0, none⟩) l.length cp, .slice a l.length cap] w' fun e w'' => e = .returned (.bool true) ∧ Below w'.heap.size w' w'') := fun w' h => Lb.kept_any _ l g cp w0.heap.size w' (HR.out w' (hB1.trans (h.mono hB1.size))) hsz hcp hcm (own_below hown h) (Nat.lt_of_lt_of_le hgl h.size)
            have HOW : Hid (∀ w', Below w1.heap.size w1 w' → w'.ownsRow w0.heap.size 9 1 (.slice (some ⟨g, 0, none⟩) (l.length + 16) cp) (l.length + 16) (l.map txt ++ marks 90 16)) := fun w' h => own_below hown h
            clear hown e1
            unfold maxLen at hcm
            go_wp2_with fail
            refine cnw.mono ?_
            rintro e w2 ⟨hb2, ⟨_, pb, mb, hpb, hmb, rfl, hM⟩ | ⟨n', k', h0, _⟩⟩
            rotate_left
            · rw [hg] at h0; cases h0
            clear hg
            have hB2 := hB1.trans (hb2.mono hB1.size)
            have ctl := told_nil w2
            go_wp2_with fail
            refine ctl.mono ?_
            rintro e w3 ⟨rfl, hb3⟩
            have hC3 := hb2.trans (hb3.mono hb2.size)
            have hM3 := hM.kept hb3
            have hB3 := hB2.trans (hb3.mono hB2.size)
            go_wp2_with fail
            refine (CK.out w3 hC3).mono ?_
            rintro e w4 ⟨rfl, hb4⟩
            have hC4 := hC3.trans (hb4.mono hC3.size)
            have hM4 := hM3.kept hb4
            have hB4 := hB3.trans (hb4.mono hB3.size)
            have hown4 := HOW.out w4 hC4
            have hg4 : g < w4.heap.size := Nat.lt_of_lt_of_le hgl hC4.size
            have hwg : w.heap.size ≤ g := Nat.le_trans hb0.size hgw
            have hgp : some pb ≠ some g ∧ some mb ≠ some g := ⟨fun e => by have := Option.some.inj e; omega, fun e => by have := Option.some.inj e; omega⟩
            clear CK HOW cnw ctl hM hM3 hb2 hb3 hb4 hC3 hC4 hB2 hB3
            go_wp2
            go_loopw [9] (fun iv wr => ∃ (m : Nat) (xs : List Value), m ≤ l.length ∧ iv = .int .i64 m ∧ wr.ownsRow w0.heap.size 9 1 (.slice (some ⟨g, 0, none⟩) (l.length + 16) cp) (l.length + 16) xs ∧ w4.grownBy wr (some g)) (fun iv _ => l.length - (intOf iv).toNat)
            case atStart => exact ⟨0, _, Nat.zero_le _, rfl, hown4, ⟨rfl, rfl, rfl, Nat.le_refl _, fun _ _ _ => rfl⟩⟩
            case round =>
              obtain ⟨m, xs, hmm, rfl, hownr, hgr⟩ := hrel
              by_cases hq : m < l.length
              · obtain ⟨⟨u, _, hcu⟩, hfz⟩ := own_cell hownr m (by omega)
                have hos := own_set hownr m (.string ⟨#[122, 122]⟩)
                have hgs := grown_set wr g m (.string ⟨#[122, 122]⟩)
                have hg2 : w4.grownBy (wr.setCell ⟨g, m, none⟩ (.string ⟨#[122, 122]⟩)) (some g) := hgr.andThen hgs (fun j e => by cases e; exact .inr rfl)
                clear hownr hgs
                go_wp2
                go_roundw
                case rel => exact ⟨m + 1, _, by omega, by go_num, hos, hg2⟩
                case measure => simp [intOf]; omega
              · obtain rfl : m = l.length := by omega
                have hM5 := hM4.grown hgr hgp.1 hgp.2
                have hB5 : Below w.heap.size w wr := hB4.grown hgr hB4.size (fun j e => by cases e; exact hwg)
                have h64 := hM5.most
                clear hownr hM4 hB4 hgr hown4 hmm hcp
                have CN : Hid (∀ w', Mp w' pb mb l → Calls Tryd.prog 14 #[.pointer (some ⟨pb, 0, none⟩)] w' fun e w'' => ∃ v, e = .returned v ∧ w''.ownsRow w'.heap.size 9 1 v l.length (l.map txt) ∧ Below w'.heap.size w' w'') := fun w' h => names_s pb mb l w' h
                have CS : Hid (∀ (w' : World) (v1 v2 : Value), Rd w' v1 l → Rd w' v2 l → Calls Tryd.prog 15 #[v1, v2] w' fun e w'' => e = .returned (.bool true) ∧ Below w'.heap.size w' w'') := fun w' v1 v2 r1 r2 => by
                  have := same_l v1 v2 l l w' r1 r2
                  rw [decide_eq_true rfl] at this
                  exact this.mono (by rintro e w'' ⟨rfl, n, rfl⟩; exact ⟨rfl, below_drewN (Below.refl _ _)⟩)
                have CA : Hid (∀ w', Mp w' pb mb l → Calls Tryd.prog 16 #[.pointer (some ⟨pb, 0, none⟩)] w' fun e w'' => e = .returned (Bt.st (allS l.length)) ∧ w'' = w') := fun w' h => all_s pb mb l w' h
                have CRA : Hid (∀ w', Rd w' (.slice a l.length cap) l → Calls Tryd.prog 17 #[.slice a l.length cap] w' fun e w'' => e = .returned (Bt.st (allS l.length)) ∧ w'' = w') := fun w' h => rall_s _ l w' h h64
                go_wp2_with fail
                refine (CN.out wr hM5).mono ?_
                rintro e w6 ⟨v1, rfl, ho1, hb6⟩
                have hM6 := hM5.kept hb6
                have hB6 := hB5.trans (hb6.mono hB5.size)
                go_wp2_with fail
                refine (CN.out w6 hM6).mono ?_
                rintro e w7 ⟨v2, rfl, ho2, hb7⟩
                have hM7 := hM6.kept hb7
                have hB7 := hB6.trans (hb7.mono hB6.size)
                have hsep := sep_later ho1 ho2 (Nat.le_refl _)
                have HS : Hid (Sep v1 v2) := hsep
                have r1 := (rd_own (by simpa using ho1)).below hb7
                have r2 := rd_own (by simpa using ho2)
                have O1 : Hid (w7.ownsRow wr.heap.size 9 1 v1 l.length (l.map txt)) := own_below ho1 hb7
                have O2 : Hid (w7.ownsRow wr.heap.size 9 1 v2 l.length (l.map txt)) := own_base ho2 hb6.size
                have R1 : Hid (Rd w7 v1 l) := r1
                have R2 : Hid (Rd w7 v2 l) := r2
                clear hsep r1 r2 ho1 ho2
                go_wp2_with fail
                refine (CS.out w7 _ _ R1.out (HR.out w7 hB7)).mono ?_
                rintro e w8 ⟨rfl, hb8⟩
                have hB8 := hB7.trans (hb8.mono hB7.size)
                go_wp2_with fail
                refine (CS.out w8 _ _ (R2.out.below hb8) (HR.out w8 hB8)).mono ?_
                rintro e w9 ⟨rfl, hb9⟩
                have hC9 := hb8.trans (hb9.mono hb8.size)
                have hB9 := hB7.trans (hC9.mono hB7.size)
                have hM9 := hM7.kept hC9
                go_wp2_with fail
                refine (CA.out w9 hM9).mono ?_
                rintro e w10 ⟨rfl, hq10⟩
                subst w10
                go_wp2_with fail
                refine (CRA.out w9 (HR.out w9 hB9)).mono ?_
                rintro e w10 ⟨rfl, hq10⟩
                subst w10
                have P1 := own_below O1.out hC9
                have P2 := own_below O2.out hC9
                obtain ⟨a1, c1, hv1, _⟩ := own_shape P1
                obtain ⟨a2, c2, hv2, _⟩ := own_shape P2
                subst hv1
                subst hv2
                have hle : wr.heap.size ≤ w9.heap.size := Nat.le_trans (Nat.le_trans hb6.size hb7.size) hC9.size
                have HLS := two_ls P1 P2 hle
                have HAP := two_apart P1 P2 HS.out
                have cap2 := apart_l [.slice a1 l.length c1, .slice a2 l.length c2] _ wr.heap.size w9.heap.size _ _ HLS HAP (by simp) (fun _ => by omega)
                have hbW : Below wr.heap.size wr (w9.alloc (.cells #[.slice a1 l.length c1, .slice a2 l.length c2] 22)) := ((hb6.trans (hb7.mono hb6.size)).trans (hC9.mono (Nat.le_trans hb6.size hb7.size))).alloc hle _
                clear P1 P2 HLS HAP O1 O2 R1 R2 HS
                go_wp2_with fail
                refine cap2.mono ?_
                rintro e w11 ⟨rfl, hb11⟩
                have hC11 := hbW.trans hb11
                have hM11 := hM5.kept hC11
                have hB11 := hB5.trans (hC11.mono hB5.size)
                go_wp2_with fail
                refine (CN.out w11 hM11).mono ?_
                rintro e w12 ⟨v3, rfl, ho3, hb12⟩
                have hB12 := hB11.trans (hb12.mono hB11.size)
                have r3 := rd_own (by simpa using ho3)
                go_wp2_with fail
                refine (CS.out w12 _ _ r3 (HR.out w12 hB12)).mono ?_
                rintro e w13 ⟨rfl, hb13⟩
                go_wp2
                go_ret
                exact ⟨rfl, hB12.trans (hb13.mono hB12.size)⟩
end Sc
end Go.Proofs.YtmgddocninihoaaDoor
