/- HeapOrder: its walk, out of what the program's heap answers. -/
import Derived.Test.YteclbmmhidmklaaHepO
namespace Go.Proofs.Yteclbmmhidmklaa
set_option linter.ambiguousOpen false
open Go.RowKit
namespace Hh
open Ft
set_option linter.unusedSimpArgs false
set_option linter.unusedVariables false
attribute [local go_sem] Oper.semAt_some

set_option maxRecDepth 1000000 in
set_option maxHeartbeats 16000000 in
theorem heapOrder_yes {R : RepHT} (C : HeapC R) (v : Value) (l : List It) (bi bk : Int) (w : World) (hR : RdQ w v l) (hF : ∀ x ∈ l, I64 x.i) (hbi : I64 bi) :
    Calls Try.prog 5 #[v, .agg #[nu bi, nu bk]] w fun e w' => e = .returned (.bool true) ∧ Below w.heap.size w w' := by
  obtain ⟨i0, ji, hz0, hz1, hz2⟩ := info_parts infoPr
  have hB0 : Below w.heap.size w (w.alloc (.cells #[nu bi, nu bk] 41)) := (Below.refl _ _).alloc (Nat.le_refl _) _
  have hc0 : (w.alloc (.cells #[nu bi, nu bk] 41)).cell? ⟨w.heap.size, 0, none⟩ = some (nu bi) ∧ (w.alloc (.cells #[nu bi, nu bk] 41)).cell? ⟨w.heap.size, 1, none⟩ = some (nu bk) := by
    have h9 : (w.alloc (.cells #[nu bi, nu bk] 41)).heap[w.heap.size]? = some (.cells #[nu bi, nu bk] 41) := heap_alloc_new _ _
    exact ⟨by rw [cell_of_row _ _ 0 _ _ _ h9]; rfl, by rw [cell_of_row _ _ 1 _ _ _ h9]; rfl⟩
  obtain ⟨hb, hhb⟩ : ∃ hb, w.heap.size = hb := ⟨_, rfl⟩
  obtain ⟨W0, hW0⟩ : ∃ W0, w.alloc (.cells #[nu bi, nu bk] 41) = W0 := ⟨_, rfl⟩
  have hsz : hb < W0.heap.size := by rw [← hW0, ← hhb]; simp
  rw [hW0, hhb] at hc0
  rw [hW0] at hB0
  have HW0 := Hid.mk' hW0
  have HHB := Hid.mk' hhb
  have HB0 := Hid.mk' hB0
  have HHX : Hid (∀ wx, Below W0.heap.size W0 wx → wx.cell? ⟨hb, 0, none⟩ = some (nu bi) ∧ wx.cell? ⟨hb, 1, none⟩ = some (nu bk)) := fun wx hbx => ⟨(hbx.cell (p := ⟨hb, 0, none⟩) hsz).trans hc0.1, (hbx.cell (p := ⟨hb, 1, none⟩) hsz).trans hc0.2⟩
  have HRQ := Hid.mk' (hR.below hB0)
  obtain ⟨av, cv, rfl, hc1, hc2, hcell⟩ := hR.below hB0
  have cW : Hid (∀ wx, Calls Try.prog 6 #[] wx fun e w' => e = .returned (.bool true) ∧ Below wx.heap.size wx w') := fun wx => works_any C.toHeapB wx
  obtain ⟨m, hm⟩ : ∃ m, l.length = m := ⟨_, rfl⟩
  have HM := Hid.mk' hm
  have HF := Hid.mk' hF
  have HCL := Hid.mk' hcell
  rw [hm] at hc1 HRQ ⊢
  unfold maxLen at hc2
  have hcI : (cv : Int) ≤ 9223372036854775807 := by omega
  clear hcell hF hm hB0 hW0 hc0 hsz hR
  by_cases hbig : m > 1000
  · have hbI : (m : Int) > 1000 := by omega
    clear hhb
    go_enter Try.func5, Try.ntmps5
    go_upto_region 1 with fail
    rw [HW0.out, HHB.out]
    go_wp2_with fail
    refine (cW.out W0).mono ?_
    rintro e w1 ⟨rfl, b1⟩
    have HB1 := Hid.mk' b1
    clear b1
    go_wp2_with fail
    refine (cW.out w1).mono ?_
    rintro e w2 ⟨rfl, b2⟩
    have HB2 := Hid.mk' (HB1.out.trans (b2.mono HB1.out.size))
    clear b2
    go_wp2
    go_ret
    exact ⟨rfl, HB0.out.trans (HB2.out.mono HB0.out.size)⟩
  · have hbI : ¬ (m : Int) > 1000 := by omega
    have hm1000 : m ≤ 1000 := by omega
    clear hhb
    go_enter Try.func5, Try.ntmps5
    go_upto_region 1 with fail
    rw [HW0.out, HHB.out]
    go_wp2_with fail
    refine (cW.out W0).mono ?_
    rintro e w3 ⟨rfl, b1⟩
    have HB1 := Hid.mk' b1
    clear b1 cW
    go_upto_region 5 with fail
    obtain ⟨Db, hDb⟩ : ∃ Db, w3.heap.size = Db := ⟨_, rfl⟩
    have hdz := sn_new w3
    rw [hDb] at hdz
    have hb34 : Below w3.heap.size w3 (w3.alloc (.cells seenA 42)) := (Below.refl _ _).alloc (Nat.le_refl _) _
    obtain ⟨W4, hW4⟩ : ∃ W4, w3.alloc (.cells seenA 42) = W4 := ⟨_, rfl⟩
    rw [hW4] at hdz hb34
    have HD0 : Hid (Od W0 W4 [] [] 0 0 (hasH []) (.slice none 0 0) (.slice none 0 0) Db) := by
      have := HB1.out.size
      exact ⟨rfl, rfl, World.ownsRow_nil _ _ _ _, World.ownsRow_nil _ _ _ _, hdz, fun e => by simp [Value.ownBlock] at e, fun e => by simp [Value.ownBlock] at e, fun j e => by simp [Value.ownBlock] at e, by omega, HB1.out.trans (hb34.mono HB1.out.size)⟩
    show Code.wp Try.prog _ _ _ (w3.alloc (.cells seenA 42))
    rw [hW4, hDb]
    clear hdz hb34 hW4 hDb HB1
    go_wp2_with fail
    go_loopw [5, 6, 8, 9] (fun ov bv kv _ wr => ∃ k n : Nat, k ≤ m ∧ n ≤ 64 ∧ kv = nun k ∧ Hid (Od W0 wr (onc (l.take k)) (onc (l.take k)).reverse n n (hasH (onc (l.take k))) ov bv Db)) (fun _ _ kv _ _ => m - (intOf kv).toNat)
    case atStart => exact ⟨0, 0, Nat.zero_le _, by omega, rfl, HD0⟩
    case round =>
      clear HD0
      obtain ⟨k, n, hk, hn64, rfl, HD⟩ := hrel
      by_cases hlt : k < m
      · have hkI : (k : Int) < (m : Int) := by omega
        obtain ⟨gv, ov, rfl, hgl, hcl⟩ := HCL.out (by rw [HM.out]; omega)
        obtain ⟨x, hx⟩ : ∃ x, l[k]? = some x := ⟨_, List.getElem?_eq_getElem (by rw [HM.out]; exact hlt)⟩
        have hfx := HF.out x (List.mem_of_getElem? hx)
        have hcx := hcl k x hx
        have hot := onc_take l k x hx
        have HXX : Hid (∀ wx, Below W0.heap.size W0 wx → wx.cell? ⟨gv, ov + k * 2, none⟩ = some (nu x.i) ∧ wx.cell? ⟨gv, ov + k * 2 + 1, none⟩ = some (nu x.k)) := fun wx hb => ⟨(hb.cell (p := ⟨gv, ov + k * 2, none⟩) hgl).trans hcx.1, (hb.cell (p := ⟨gv, ov + k * 2 + 1, none⟩) hgl).trans hcx.2⟩
        have hun := onc_un l k
        have hun2 := onc_un l (k + 1)
        obtain ⟨xi, xk⟩ := x
        dsimp only at hfx hot HXX
        obtain ⟨q, hq, hq64⟩ : ∃ q : Nat, xi % 64 = q ∧ q < 64 := ⟨(xi % 64).toNat, by omega, by omega⟩
        have cK : Hid (∀ wx, Calls Try.prog 15 #[nu xi, nu 64] wx fun e w' => e = .returned (nun q) ∧ w' = wx) := fun wx => by
          have := pickH xi 64 wx (by decide) (by decide) hfx
          rw [show ((64 : Nat) : Int) = 64 from rfl, hq] at this
          exact this
        rw [hq] at hot
        obtain ⟨x0, x1⟩ := HXX.out wr HD.out.bel
        have hd := HD.out.seen.cell hq64
        have hq0 : (0 : Int) ≤ (q : Int) := by omega
        have hqI : (q : Int) < 64 := by omega
        have hfz := HD.out.seen.frozen q
        clear hcx hcl hx hfx hq
        cases hh : hasH (onc (l.take k)) (q : Int) with
        | true =>
          rw [hh] at hd hot
          rw [if_pos rfl] at hot
          have HOT := Hid.mk' hot
          clear hot hh hun hun2 hfz
          go_wp2_with fail
          refine (cK.out _).mono ?_
          rintro e w4 ⟨rfl, rfl⟩
          clear cK
          go_wp2
          go_roundw
          case rel => exact ⟨k + 1, n, by omega, hn64, by go_num, by rw [HOT.out]; exact HD⟩
          case measure => simp [intOf]; omega
        | false =>
          rw [hh] at hd hot
          rw [if_neg (by decide)] at hot
          have hfewO : n + 1 ≤ 64 := by
            have := hun2.few
            rw [hot, List.length_append, HD.out.lenO] at this
            exact this
          obtain ⟨w5, hw5⟩ : ∃ w5, wr.setCell ⟨Db, q, none⟩ (.bool true) = w5 := ⟨_, rfl⟩
          have HD5 := HD.out.set q
          rw [hw5] at HD5
          have HD5 := Hid.mk' HD5
          have HW5 := Hid.mk' hw5
          obtain ⟨_, y1⟩ := HXX.out w5 HD5.out.bel
          have HDA := Hid.mk' (HD5.out.below ((Below.refl _ _).alloc (Nat.le_refl _) (.cells #[nun q, nu xk] 41)))
          have HRW : Hid ((w5.alloc (.cells #[nun q, nu xk] 41)).ownsRow W0.heap.size 41 2 u5 n ((onc (l.take k)).flatMap It.cells)) := HDA.out.once
          have hbsz : Hid (W0.heap.size ≤ (w5.alloc (.cells #[nun q, nu xk] 41)).heap.size) := HDA.out.bel.size
          have HFIN : Hid (∀ w8 g8 c8, w8.ownsRow W0.heap.size 41 2 (.slice (some ⟨g8, 0, none⟩) (n + 1) c8) (n + 1) ((onc (l.take k)).flatMap It.cells ++ [nun q, nu xk]) → (w5.alloc (.cells #[nun q, nu xk] 41)).grownBy w8 u5.ownBlock → (u5.ownBlock = some g8 ∨ g8 = (w5.alloc (.cells #[nun q, nu xk] 41)).heap.size) → w8.cell? ⟨gv, ov + k * 2 + 1, none⟩ = some (nu xk) ∧ Hid (Od W0 w8 (onc (l.take k) ++ [⟨q, xk⟩]) (onc (l.take k)).reverse (n + 1) n (fun t => hasH (onc (l.take k)) t || ((q : Int) == t)) (.slice (some ⟨g8, 0, none⟩) (n + 1) c8) u6 Db)) := fun w8 g8 c8 h1 h2 h3 => by
            have := HDA.out.app (q := (q : Int)) (k := xk) h1 h2 h3
            exact ⟨(HXX.out w8 this.bel).2, this⟩
          have hone : Hid (∀ u ∈ [nun q, nu xk], u.oneCell' = true) := by
            intro u hu
            simp only [List.mem_cons, List.not_mem_nil, or_false] at hu
            rcases hu with rfl | rfl <;> rfl
          have hmx : Hid (n + 1 ≤ maxLen) := by show _ ≤ _; unfold maxLen; omega
          have hby : Hid ((n + 1) * 16 ≤ 140737488355328) := by show _ ≤ _; omega
          have hnm : Hid (1 + n ≤ 1000) := by show _ ≤ _; omega
          have HEND : Hid (∀ w8 c8 g8 v9 w9, Hid (Od W0 w8 (onc (l.take k) ++ [⟨q, xk⟩]) (onc (l.take k)).reverse (n + 1) n (fun t => hasH (onc (l.take k)) t || ((q : Int) == t)) (.slice (some ⟨g8, 0, none⟩) (n + 1) c8) u6 Db) → w9.ownsRow w8.heap.size 41 2 v9 (1 + n) ([nun q, nu xk] ++ (onc (l.take k)).reverse.flatMap It.cells) → (w8.alloc (.cells #[nun q, nu xk] 41)).grownBy w9 (some w8.heap.size) → Od W0 w9 (onc (l.take (k + 1))) (onc (l.take (k + 1))).reverse (n + 1) (n + 1) (hasH (onc (l.take (k + 1)))) (.slice (some ⟨g8, 0, none⟩) (n + 1) c8) v9 Db) := fun w8 c8 g8 v9 w9 h1 h2 h3 => by
            have := h1.out.push (q := (q : Int)) (k := xk) h2 h3
            rw [hot, List.reverse_append]
            have e : hasH (onc (l.take k) ++ [⟨q, xk⟩]) = fun t => hasH (onc (l.take k)) t || ((q : Int) == t) := funext (fun t => has_snoc _ _ t)
            rw [e, show n + 1 = 1 + n by omega]
            rw [show n + 1 = 1 + n by omega] at this
            exact this
          have HMK : Hid (∀ w8 (g8 c8 : Nat), Hid (Od W0 w8 (onc (l.take k) ++ [⟨q, xk⟩]) (onc (l.take k)).reverse (n + 1) n (fun t => hasH (onc (l.take k)) t || ((q : Int) == t)) (.slice (some ⟨g8, 0, none⟩) (n + 1) c8) u6 Db) → (w8.alloc (.cells #[nun q, nu xk] 41)).ownsRow W0.heap.size 41 2 u6 n ((onc (l.take k)).reverse.flatMap It.cells)) := fun w8 g8 c8 h => (h.out.below ((Below.refl _ _).alloc (Nat.le_refl _) (.cells #[nun q, nu xk] 41))).back
          clear hun hun2 hh hot HD HD5 hw5 HDA HXX
          go_wp2_with fail
          refine (cK.out _).mono ?_
          rintro e w4 ⟨rfl, rfl⟩
          clear cK
          go_upto_region 11 with fail
          rw [HW5.out]
          go_upto_region 12 with (first | (at_builtin; refine wpList_append_lies _ rfl _ _ 22 rfl W0.heap.size 41 i0 (.agg #[.int .i64 0, .int .i64 0]) 2 16 Try.underlying22 ji hz0 hz1 hz2 rfl (by decide) u5 n ((onc (l.take k)).flatMap It.cells) rfl HRW.out ⟨w5.heap.size, 0, none⟩ 1 1 [nun q, nu xk] rfl rfl (World.news_of_block (heap_alloc_new _ _)) hone.out (by decide) hmx.out hby.out hbsz.out _ rfl ?_; intro g8 c8 w8 ho8 hg8 hat8 _; obtain ⟨z1, HQ8⟩ := HFIN.out w8 g8 c8 ho8 hg8 hat8; clear ho8 hg8 hat8) | fail)
          have HMK8 := Hid.mk' (HMK.out w8 g8 c8 HQ8)
          clear HFIN HRW hbsz hmx hby hone HMK y1 x0 x1 HW5
          go_wp2_with (at_builtin; refine wpList_append_pr _ rfl _ _ rfl w8.heap.size (.slice (some ⟨w8.heap.size, 0, none⟩) 1 1) 1 [nun q, nu xk] rfl (one_pair w8 q xk) u6 W0.heap.size n (onc (l.take k)).reverse rfl HMK8.out hnm.out (by simp) ?_; intro v9 w9 ho9 hg9; have HE9 := Hid.mk' (HEND.out w8 c8 g8 v9 w9 HQ8 ho9 hg9); clear ho9 hg9)
          go_roundw
          case rel => exact ⟨k + 1, n + 1, by omega, hfewO, by go_num, HE9⟩
          case measure => simp [intOf]; omega
      · have hkI : ¬ (k : Int) < (m : Int) := by omega
        obtain rfl : k = m := by omega
        have hun := onc_un l k
        rw [List.take_of_length_le (by rw [HM.out]; exact Nat.le_refl _)] at HD hun
        obtain ⟨O, hO⟩ : ∃ O, onc l = O := ⟨_, rfl⟩
        rw [hO] at HD hun
        have hir : ∀ x ∈ O, I64 x.i := fun x hx => by have := hun.rng x hx; unfold I64; omega
        have HIR : Hid (∀ x ∈ O.reverse, I64 x.i) := fun x hx => hir x (List.mem_reverse.1 hx)
        have c1 := Hid.mk' (filled_any C.toHeapB u5 O wr (own_rdQ HD.out.once HD.out.lenO) hir)
        have HG : Hid (Hk 64 (fill O)) := fill_good O
        obtain ⟨S, hS⟩ : ∃ S, fill O = S := ⟨_, rfl⟩
        have HRV : Hid (fill O.reverse = S) := by show _ = _; rw [hun.fill_rev, hS]
        have HKN : Hid (∀ i, hasH O i = false → keyH S i = none) := fun i hn => by rw [← hS]; exact hun.key_none hn
        rw [hS] at c1 HG
        clear hS hO hun hir HF HCL HRQ
        go_wp2_with fail
        refine c1.out.mono ?_
        rintro e w4 ⟨p, F, rfl, h4, f4, b4⟩
        have HD4 := Hid.mk' (HD.out.below b4)
        have H4 := Hid.mk' h4
        have HF4 : Hid (∀ k, F k → W0.heap.size ≤ k) := fun k hk => Nat.le_trans HD.out.bel.size (f4 k hk)
        have c2 := filled_any C.toHeapB u6 O.reverse w4 (own_rdQ HD4.out.back HD4.out.lenP) HIR.out
        rw [HRV.out] at c2
        have c2 := Hid.mk' c2
        clear h4 f4 b4 c1 HIR HRV HD
        go_wp2_with fail
        refine c2.out.mono ?_
        rintro e w5 ⟨t, G, rfl, h5, f5, b5⟩
        have HA5 : Hid (Ab R W0 w5 p t S S) := ⟨⟨F, G, C.below H4.out b5, h5, fun k hk hf => by have := f5 k hk; have := C.lt H4.out k hf; omega, fun k hk => Nat.le_trans HD4.out.bel.size (f5 k hk), HF4.out⟩, HD4.out.bel.trans (b5.mono HD4.out.bel.size)⟩
        have HD5 := Hid.mk' (HD4.out.below b5)
        clear h5 f5 b5 c2 H4 HF4 HD4
        have c6 := Hid.mk' (HA5.out.all C HG.out)
        go_wp2_with fail
        refine c6.out.mono ?_
        rintro e w6 ⟨gf6, lb6, rfl, H6⟩
        have c7 := Hid.mk' (H6.out.1.pairs C HG.out H6.out.2.2)
        have HD6 := Hid.mk' (HD5.out.below H6.out.2.1)
        clear c6
        go_wp2_with fail
        refine c7.out.mono ?_
        rintro e w7 ⟨a7, m7, d7, rfl, H7⟩
        have c8 := Hid.mk' (H7.out.1.flip.all C HG.out)
        have HD7 := Hid.mk' (HD6.out.below H7.out.2.1)
        clear c7
        go_wp2_with fail
        refine c8.out.mono ?_
        rintro e w8 ⟨gf8, lb8, rfl, H8⟩
        have c9 := Hid.mk' (H8.out.1.pairs C HG.out H8.out.2.2)
        have HD8 := Hid.mk' (HD7.out.below H8.out.2.1)
        clear c8
        go_wp2_with fail
        refine c9.out.mono ?_
        rintro e w9 ⟨a9, m9, d9, rfl, H9⟩
        have c10 := Hid.mk' (sameZ _ _ (prs S) w9 ((H7.out.2.2.below H8.out.2.1).below H9.out.2.1) H9.out.2.2)
        have HD9 := Hid.mk' (HD8.out.below H9.out.2.1)
        have HA9 := Hid.mk' H9.out.1.flip
        clear c9
        go_wp2_with fail
        refine c10.out.mono ?_
        rintro e w10 ⟨rfl, b10⟩
        have HA10 := Hid.mk' (HA9.out.below C b10)
        have HD10 := Hid.mk' (HD9.out.below b10)
        clear c10 b10
        obtain ⟨i, hi, hi64⟩ : ∃ i : Nat, bi % 64 = i ∧ i < 64 := ⟨(bi % 64).toNat, by omega, by omega⟩
        have cK : Hid (∀ wx, Calls Try.prog 15 #[nu bi, nu 64] wx fun e w' => e = .returned (nun i) ∧ w' = wx) := fun wx => by
          have := pickH bi 64 wx (by decide) (by decide) hbi
          rw [show ((64 : Nat) : Int) = 64 from rfl, hi] at this
          exact this
        obtain ⟨x0, x1⟩ := HHX.out w10 HA10.out.bel
        have hd := HD10.out.seen.cell hi64
        have hi0 : (0 : Int) ≤ (i : Int) := by omega
        have hiI : (i : Int) < 64 := by omega
        clear hi hbi HD5 HD6 HD7 HD8 HD9 HD10 H6 H7 H8 H9 HA5 HA9
        cases hh : hasH O (i : Int) with
        | true =>
          rw [hh] at hd
          clear hh
          go_wp2_with fail
          refine (cK.out _).mono ?_
          rintro e w11 ⟨rfl, rfl⟩
          go_wp2
          go_ret
          exact ⟨rfl, HB0.out.trans (HA10.out.bel.mono HB0.out.size)⟩
        | false =>
          rw [hh] at hd
          have hkn := HKN.out i hh
          have hir : (0 : Int) ≤ (i : Int) ∧ (i : Int) < 64 := ⟨hi0, hiI⟩
          have c11 := Hid.mk' (HA10.out.set C HG.out i bk hir)
          have HG2 := Hid.mk' (HG.out.set hir bk)
          have HH2 : Hid (hasH (setH S i bk) i = true) := by
            show _ = _
            rw [has_key, key_set HG.out hir, if_pos rfl]
            rfl
          have HS2 : Hid (dropH (setH S i bk) i = S) := set_drop HG.out hir bk hkn
          clear hh hkn hir
          go_wp2_with fail
          refine (cK.out _).mono ?_
          rintro e w11 ⟨rfl, rfl⟩
          clear cK
          go_wp2_with fail
          refine c11.out.mono ?_
          rintro e w12 ⟨rfl, HA12⟩
          have c12 := HA12.out.drop C HG2.out i
          rw [HH2.out, HS2.out] at c12
          have c12 := Hid.mk' c12
          clear c11 HA12 HG2 HH2 HS2
          go_wp2_with fail
          refine c12.out.mono ?_
          rintro e w13 ⟨rfl, HA13⟩
          clear c12
          have c14 := Hid.mk' (HA13.out.all C HG.out)
          go_wp2_with fail
          refine c14.out.mono ?_
          rintro e w14 ⟨gf14, lb14, rfl, H14⟩
          have c15 := Hid.mk' (H14.out.1.pairs C HG.out H14.out.2.2)
          clear c14
          go_wp2_with fail
          refine c15.out.mono ?_
          rintro e w15 ⟨a15, m15, d15, rfl, H15⟩
          have c16 := Hid.mk' (H15.out.1.flip.all C HG.out)
          clear c15
          go_wp2_with fail
          refine c16.out.mono ?_
          rintro e w16 ⟨gf16, lb16, rfl, H16⟩
          have c17 := Hid.mk' (H16.out.1.pairs C HG.out H16.out.2.2)
          clear c16
          go_wp2_with fail
          refine c17.out.mono ?_
          rintro e w17 ⟨a17, m17, d17, rfl, H17⟩
          have c18 := Hid.mk' (sameZ _ _ (prs S) w17 ((H15.out.2.2.below H16.out.2.1).below H17.out.2.1) H17.out.2.2)
          have HA17 := Hid.mk' H17.out.1.flip
          clear c17
          go_wp2_with fail
          refine c18.out.mono ?_
          rintro e w18 ⟨rfl, b18⟩
          have HA18 := Hid.mk' (HA17.out.below C b18)
          clear c18 b18
          go_wp2
          go_ret
          exact ⟨rfl, HB0.out.trans (HA18.out.bel.mono HB0.out.size)⟩
end Hh
end Go.Proofs.Yteclbmmhidmklaa
