/- The document's answer for tokens: a text is read. -/
import Derived.Test.YtkkpcngdpnoidaaDoorRefP8
namespace Go.Proofs.YtkkpcngdpnoidaaDoor
set_option linter.ambiguousOpen false
open Go.RowKit
namespace Tk
open Sm
set_option linter.unusedSimpArgs false
set_option linter.unusedVariables false

/-- A letter's number. -/
def ixN (c : UInt8) : Nat := (ix c).getD 0

/-- What a text's letters tell. -/
def told (l : List UInt8) : Nat := nd ((l.drop 1).map ixN)

/-- A token, and why a text is none. -/
structure Rd8 where
  no : Nat
  s : Nat
  b : Nat
  t : Nat

def prs (l : List UInt8) : Rd8 :=
  if l.length < 21 then ⟨2, 0, 0, 0⟩
  else if 21 < l.length then ⟨3, 0, 0, 0⟩
  else if byI l 0 ≠ 116 then ⟨4, 0, 0, 0⟩
  else if ((l.drop 1).all fun c => (ix c).isSome) = false then ⟨4, 0, 0, 0⟩
  else if told l % 16 ≠ 0 then ⟨4, 0, 0, 0⟩
  else if mayB ((told l / 2 ^ 92 : Nat) : Int) ((told l / 2 ^ 68 % 16777216 : Nat) : Int) = false then ⟨1, 0, 0, 0⟩
  else ⟨0, told l / 2 ^ 92, told l / 2 ^ 68 % 16777216, told l / 16 % 18446744073709551616⟩

theorem ixN_lt (c : UInt8) : ixN c < 32 := by
  unfold ixN
  cases h : ix c with
  | none => decide
  | some d => exact (ixTo_some c 32 d h).1

theorem byI_at (l : List UInt8) (k : Nat) (h : k < l.length) : byI l k = l[k] := by
  unfold byI
  rw [List.getD_eq_getElem?_getD, List.getElem?_eq_getElem h]; rfl

/-- The bits of letters. -/
def bitsL (l : List UInt8) : List Bool := l.flatMap fun c => bl (ixN c) 5

theorem bitsL_len (l : List UInt8) : (bitsL l).length = 5 * l.length := by
  induction l with
  | nil => rfl
  | cons c l ih =>
    unfold bitsL at *
    rw [List.flatMap_cons, List.length_append, ih, bl_len, List.length_cons]
    omega

theorem bitsL_snoc (l : List UInt8) (c : UInt8) : bitsL (l ++ [c]) = bitsL l ++ bl (ixN c) 5 := by simp [bitsL]

theorem nb_bitsL (l : List UInt8) : nb (bitsL l) = nd (l.map ixN) := by
  refine snoc_ind (P := fun l => nb (bitsL l) = nd (l.map ixN)) rfl (fun l c ih => ?_) l
  rw [bitsL_snoc, nb_append, ih, nb_bl, bl_len, List.map_append, List.map_singleton, nd_snoc, Nat.mod_eq_of_lt (by have := ixN_lt c; simpa using this)]
  omega

/-- A token that lies in a block. -/
def TokAt (w : World) (g : Nat) (s b t : Int) : Prop := w.heap[g]? = some (.cells #[nu s, nu b, u8v t] 24)

theorem tokSize (a b c : Value) : (Tryd.prog.info? 24).map (·.size) = some #[a, b, c].size := by kernel_rfl

theorem results_tok {fn : Func} {p u : Tmp} (h : fn.results = #[.cell p 24, .tmp u]) (tmps : Array Value) (w : World) (g : Nat) (s b t : Int)
    (hp : tmps.getD p undef = .pointer (some ⟨g, 0, none⟩)) (hg : TokAt w g s b t) :
    (results fn tmps).run Tryd.prog w = .ok (.tuple #[tok s b t, tmps.getD u undef]) w := by
  rw [results_cell_tmp h, hp]
  simp only [asAddr, Sem.run_pure, Result.andThen_ok, run_loadVar_row w g _ 24 _ _ _ hg Tryd.underlying24 rfl (tokSize _ _ _)]

theorem TokAt.below {w w' : World} {B g : Nat} {s b t : Int} (h : TokAt w g s b t) (hb : Below B w w') (hg : g < B) : TokAt w' g s b t := (hb.block g hg).trans h

theorem TokAt.free {w : World} {g : Nat} {s b t : Int} (h : TokAt w g s b t) (i : Nat) : w.frozen? ⟨g, i, none⟩ = false := by
  unfold TokAt at h
  simp [World.frozen?, h]

theorem TokAt.put {w : World} {g : Nat} {s b t : Int} (h : TokAt w g s b t) (x y z : Int) : TokAt (((w.setCell ⟨g, 0, none⟩ (.int .i64 x)).setCell ⟨g, 1, none⟩ (.int .i64 y)).setCell ⟨g, 2, none⟩ (.int .u64 z)) g x y z :=
  heap_setCell_same _ g 2 _ _ _ (heap_setCell_same _ g 1 _ _ _ (heap_setCell_same _ g 0 _ _ _ h))

theorem TokAt.other {w : World} {g k : Nat} {s b t : Int} (h : TokAt w g s b t) (x y z : Value) (hk : k ≠ g) : TokAt (((w.setCell ⟨k, 0, none⟩ x).setCell ⟨k, 1, none⟩ y).setCell ⟨k, 2, none⟩ z) g s b t :=
  (Below.heap_setCell _ ⟨k, 2, none⟩ z g (fun e => hk e.symm)).trans ((Below.heap_setCell _ ⟨k, 1, none⟩ y g (fun e => hk e.symm)).trans ((Below.heap_setCell w ⟨k, 0, none⟩ x g (fun e => hk e.symm)).trans h))

theorem below_tok {B : Nat} {a w : World} (h : Below B a w) (g : Nat) (hg : B ≤ g) (x y z : Value) : Below B a (((w.setCell ⟨g, 0, none⟩ x).setCell ⟨g, 1, none⟩ y).setCell ⟨g, 2, none⟩ z) := ((h.setCell (p := ⟨g, 0, none⟩) hg _).setCell (p := ⟨g, 1, none⟩) hg _).setCell (p := ⟨g, 2, none⟩) hg _

set_option maxRecDepth 100000 in
set_option maxHeartbeats 4000000 in
theorem refParse_any (l : List UInt8) (w : World) (hl : l.length ≤ maxLen) :
    Calls Tryd.prog 10 #[.string (tx l)] w fun e w' => e = .returned (.tuple #[tok (prs l).s (prs l).b (prs l).t, nu (prs l).no]) ∧ Below w.heap.size w w' := by
  have hsz : (tx l).size = l.length := rfl
  have h0 : Hid (TokAt (w.alloc (.cells #[nu 0, nu 0, u8v 0] 24)) w.heap.size 0 0 0) := heap_alloc_new _ _
  have hB0 : Hid (Below w.heap.size w (w.alloc (.cells #[nu 0, nu 0, u8v 0] 24))) := (Below.refl _ _).alloc (Nat.le_refl _) _
  unfold maxLen at hl
  by_cases h1 : l.length < 21
  · have hr : Hid (prs l = ⟨2, 0, 0, 0⟩) := by unfold prs; rw [if_pos h1]; rfl
    generalize tx l = b at *
    go_enter Tryd.func10, Tryd.ntmps10
    go_wp2
    refine bodyPost_ret (results_tok rfl _ _ w.heap.size 0 0 0 rfl h0.out) rfl ?_
    exact ⟨by rw [hr.out]; rfl, hB0.out⟩
  by_cases h2 : 21 < l.length
  · have hr : Hid (prs l = ⟨3, 0, 0, 0⟩) := by unfold prs; rw [if_neg h1, if_pos h2]; rfl
    generalize tx l = b at *
    go_enter Tryd.func10, Tryd.ntmps10
    go_wp2
    refine bodyPost_ret (results_tok rfl _ _ w.heap.size 0 0 0 rfl h0.out) rfl ?_
    exact ⟨by rw [hr.out]; rfl, hB0.out⟩
  have h21 : l.length = 21 := by omega
  have hI : ∀ w, (Instr.index 9 (.string (tx l)) (.int .i64 0)).run Tryd.prog w = .ok (by1 (byI l 0)) w := fun w => idx_at l 0 (by omega) w
  by_cases h3 : byI l 0 = 116
  · obtain ⟨i0, hi, hz0, hz1, hz2⟩ := info_parts info_bool
    have h116 : ((byI l 0).toNat : Int) = 116 := by rw [h3]; rfl
    have hne : (((byI l 0).toNat : Int) != 116) = false := by rw [h116]; rfl
    unfold by1 at hI
    rw [h116] at hI
    have HI : Hid (∀ i : Nat, i < 21 → ∀ w, (Instr.index 9 (.string (tx l)) (.int .i64 (i : Int))).run Tryd.prog w = .ok (by1 (byI l i)) w) := fun i h w => idx_at l i (by omega) w
    have hd : (l.drop 1).length = 20 := by rw [List.length_drop]; omega
    have HC : Hid (∀ k, k < 20 → (l.drop 1)[k]? = some (byI l (k + 1))) := fun k h => by
      rw [List.getElem?_drop, byI_at l (k + 1) (by omega), List.getElem?_eq_getElem (by omega)]
      simp [Nat.add_comm]
    have HD := Hid.mk' hd
    clear hd
    have HP : Hid (prs l = if ((l.drop 1).all fun c => (ix c).isSome) = false then ⟨4, 0, 0, 0⟩ else if told l % 16 ≠ 0 then ⟨4, 0, 0, 0⟩ else if mayB ((told l / 2 ^ 92 : Nat) : Int) ((told l / 2 ^ 68 % 16777216 : Nat) : Int) = false then ⟨1, 0, 0, 0⟩ else ⟨0, told l / 2 ^ 92, told l / 2 ^ 68 % 16777216, told l / 16 % 18446744073709551616⟩) := by
      show _ = _
      unfold prs
      rw [if_neg h1, if_neg h2, if_neg (by simp [h3])]
    have HT : Hid (told l = nb (bitsL (l.drop 1))) := (nb_bitsL _).symm
    rw [h21] at hsz
    clear hl h1 h2 h21 h3 h116
    generalize told l = N at *
    generalize l.drop 1 = r at *
    generalize tx l = b at *
    go_enter Tryd.func10, Tryd.ntmps10
    go_wp2
    go_loopw [4, 5, 6] (fun lv iv nv wr => ∃ k : Nat, k ≤ 20 ∧ iv = nu ((k + 1 : Nat) : Int) ∧ wr.ownsRow (w.heap.size + 1) 4 1 lv (5 * k) ((bitsL (r.take k)).map Value.bool) ∧ Hid (∀ j (hj : j < k), (ix (r.getD j 0)).isSome = true) ∧ Below (w.heap.size + 1) (w.alloc (.cells #[nu 0, nu 0, u8v 0] 24)) wr) (fun _ iv _ _ => 21 - (intOf iv).toNat)
    case atStart => exact ⟨0, Nat.zero_le _, rfl, World.ownsRow_nil _ _ _ _, fun j hj => by omega, Below.refl _ _⟩
    case round =>
      obtain ⟨k, hk, rfl, hown, hall, hbel⟩ := hrel
      have hTr : Hid (TokAt wr w.heap.size 0 0 0) := h0.out.below hbel (by omega)
      have hBr : Hid (Below w.heap.size w wr) := hB0.out.trans (hbel.mono (by omega))
      by_cases hp : k < 20
      · have hx := HI.out (k + 1) (by omega)
        have hck := HC.out k hp
        have hgd : r.getD k 0 = byI l (k + 1) := by
          rw [List.getD_eq_getElem?_getD, hck]; rfl
        have htk : r.take (k + 1) = r.take k ++ [byI l (k + 1)] := by
          rw [List.take_add_one, hck]; rfl
        generalize byI l (k + 1) = c at *
        have cX := index_any c wr
        obtain ⟨j, hj⟩ : ∃ j : Int, ((k + 1 : Nat) : Int) = j := ⟨_, rfl⟩
        have hj1 : 1 ≤ j := by omega
        have hj2 : j < 21 := by omega
        rw [hj] at hx ⊢
        have HJ := Hid.mk' hj
        clear hj
        cases hc : ix c with
        | none =>
          have hxi : ixI c = -1 := by unfold ixI; rw [hc]
          rw [hxi] at cX
          have hr : Hid (prs l = ⟨4, 0, 0, 0⟩) := by
            show _ = _
            rw [HP.out, if_pos]
            rw [List.all_eq_false]
            refine ⟨c, ?_, by simp [hc]⟩
            exact List.mem_of_getElem? hck
          obtain ⟨q0, q1, q2⟩ := tok_cells hTr.out
          have hf := hTr.out.free
          have hT2 := Hid.mk' (hTr.out.put 0 0 0)
          have hB2 := Hid.mk' (below_tok hBr.out w.heap.size (Nat.le_refl _) (.int .i64 0) (.int .i64 0) (.int .u64 0))
          clear hgd htk hck hxi
          go_wp2_with fail
          refine cX.mono ?_
          rintro e w' ⟨rfl, hw⟩
          subst w'
          go_wp2
          refine bodyPost_ret (results_tok rfl _ _ w.heap.size 0 0 0 rfl hT2.out) rfl ?_
          exact ⟨by rw [hr.out]; rfl, hB2.out⟩
        | some d =>
          have hxi : ixI c = d := by unfold ixI; rw [hc]
          have hd32 := (ixTo_some c 32 d hc).1
          have hn : ixN c = d := by unfold ixN; rw [hc]; rfl
          rw [hxi] at cX
          have hlen : (bitsL (r.take k)).length = 5 * k := by rw [bitsL_len, List.length_take, HD.out]; omega
          have hall' : Hid (∀ j (hj : j < k + 1), (ix (r.getD j 0)).isSome = true) := fun j hj => by
            by_cases e : j < k
            · exact hall.out j e
            · obtain rfl : j = k := by omega
              rw [hgd, hc]; rfl
          have hown' : wr.ownsRow (w.heap.size + 1) 4 1 u4 (bitsL (r.take k)).length ((bitsL (r.take k)).map Value.bool) := by rw [hlen]; exact hown
          have cU := put_any u4 (bitsL (r.take k)) d 5 (w.heap.size + 1) wr (by omega) (by omega) (by omega) (by omega) (by have := hbel.size; simp at this; omega) hown'
          rw [hlen, ← hn, ← bitsL_snoc, ← htk, hn, show 5 * k + 5 = 5 * (k + 1) by omega] at cU
          clear hgd htk hck hxi hlen hown' hn hc
          go_wp2_with fail
          refine cX.mono ?_
          rintro e w' ⟨rfl, hw⟩
          subst w'
          go_wp2_with fail
          refine cU.mono ?_
          rintro e w2 ⟨v2, rfl, ho2, hb2⟩
          go_wp2
          go_roundw
          case rel => exact ⟨k + 1, by omega, by rw [← HJ.out]; exact vi (by omega), ho2, hall', hbel.trans hb2⟩
          case measure => simp [intOf]; omega
      · obtain rfl : k = 20 := by omega
        rw [List.take_of_length_le (by rw [HD.out]; decide)] at hown
        simp only [Nat.reduceMul, Nat.reduceAdd, Int.cast_ofNat_Int]
        have hlen : (bitsL r).length = 100 := by rw [bitsL_len, HD.out]
        have hallT : (r.all fun c => (ix c).isSome) = true := by
          rw [List.all_eq_true]
          intro c hc
          obtain ⟨j, hj, rfl⟩ := List.getElem_of_mem hc
          have := hall.out j (by rw [HD.out] at hj; exact hj)
          rwa [List.getD_eq_getElem?_getD, List.getElem?_eq_getElem hj] at this
        have HP2 := HP.out
        rw [hallT, if_neg (by decide)] at HP2
        have HP3 := Hid.mk' HP2
        rw [HT.out] at HP3
        have hlt := nb_lt (bitsL r)
        rw [hlen] at hlt
        obtain ⟨g, cap, rfl, hcap, hcm, hg1, hg2⟩ := own_posB hown (by omega)
        have hown' : wr.ownsRow (w.heap.size + 1) 4 1 (.slice (some ⟨g, 0, none⟩) (bitsL r).length cap) (bitsL r).length ((bitsL r).map Value.bool) := by rw [hlen]; exact hown
        have cT : Hid (∀ at_ n, n ≤ 64 → at_ + n ≤ 100 → Calls Tryd.prog 19 #[.slice (some ⟨g, 0, none⟩) 100 cap, nu (at_ : Nat), nu (n : Nat)] wr fun e w' => e = .returned (u8v ((nb (bitsL r) / 2 ^ (100 - at_ - n) % 2 ^ n : Nat) : Int)) ∧ w' = wr) := fun at_ n h1 h2 => by
          have := take_any (bitsL r) at_ n (w.heap.size + 1) g cap wr h1 (by omega) (by omega) hown' (by omega) hcm
          rw [nb_part _ _ _ (by omega), hlen] at this
          exact this
        clear HP HT HP2 hallT hall hown hown' HI hI HC HD hlen hp hk hcap hcm hg1 hg2
        generalize nb (bitsL r) = M at *
        have c1 := cT.out 96 4 (by omega) (by omega)
        have c2 := cT.out 0 8 (by omega) (by omega)
        have c3 := cT.out 8 24 (by omega) (by omega)
        have c4 := cT.out 32 64 (by omega) (by omega)
        simp only [Nat.reduceSub, Nat.reducePow, Nat.div_one, Int.cast_ofNat_Int] at c1 c2 c3 c4 hlt HP3
        clear cT
        have eS : M / 4951760157141521099596496896 % 256 = M / 4951760157141521099596496896 := by omega
        rw [eS] at c2
        have bS : M / 4951760157141521099596496896 < 256 := by omega
        have bB : M / 295147905179352825856 % 16777216 < 16777216 := by omega
        have bT : M / 16 % 18446744073709551616 < 18446744073709551616 := by omega
        clear eS hlt
        generalize M / 4951760157141521099596496896 = xs at *
        generalize M / 295147905179352825856 % 16777216 = xb at *
        generalize M / 16 % 18446744073709551616 = xt at *
        generalize M % 16 = xq at *
        obtain ⟨q0, q1, q2⟩ := tok_cells hTr.out
        have hf := hTr.out.free
        by_cases hQ : xq = 0
        · subst hQ
          have hX : Hid (TokAt (wr.alloc (.cells #[nu xs, nu xb, u8v xt] 24)) wr.heap.size xs xb xt) := heap_alloc_new _ _
          have hXB : Hid (Below wr.heap.size wr (wr.alloc (.cells #[nu xs, nu xb, u8v xt] 24))) := (Below.refl _ _).alloc (Nat.le_refl _) _
          have hws : w.heap.size < wr.heap.size := by have := hbel.size; simp at this; omega
          have cM := may_any xs xb xt (wr.alloc (.cells #[nu xs, nu xb, u8v xt] 24))
          have HP4 := HP3.out
          rw [if_neg (by simp)] at HP4
          have HP5 := Hid.mk' HP4
          clear HP4 HP3
          simp only [Int.cast_ofNat_Int] at c1
          go_wp2_with fail
          refine c1.mono ?_
          rintro e w' ⟨rfl, hw⟩
          subst w'
          go_wp2_with fail
          refine c2.mono ?_
          rintro e w' ⟨rfl, hw⟩
          subst w'
          go_wp2_with fail
          refine c3.mono ?_
          rintro e w' ⟨rfl, hw⟩
          subst w'
          go_wp2_with fail
          refine c4.mono ?_
          rintro e w' ⟨rfl, hw⟩
          subst w'
          clear c1 c2 c3 c4
          cases hm : mayB (xs : Int) (xb : Int) with
          | true =>
            rw [hm] at cM
            have hr : Hid (prs l = ⟨0, xs, xb, xt⟩) := by
              show _ = _
              rw [HP5.out, hm, if_neg (by decide)]
            go_wp2_with fail
            refine cM.mono ?_
            rintro e w5 ⟨rfl, hb5⟩
            have hX5 : Hid (TokAt w5 wr.heap.size xs xb xt) := hX.out.below hb5 (by simp)
            have hT5 : Hid (TokAt w5 w.heap.size 0 0 0) := (hTr.out.below hXB.out hws).below hb5 (by simp; omega)
            have hB5 : Hid (Below w.heap.size w w5) := below_to' (below_to' hBr.out hXB.out) hb5
            obtain ⟨p0, p1, p2⟩ := tok_cells hX5.out
            obtain ⟨z0, z1, z2⟩ := tok_cells hT5.out
            have hf5 := hT5.out.free
            have hT6 := Hid.mk' (hT5.out.put xs xb xt)
            have hB6 := Hid.mk' (below_tok hB5.out w.heap.size (Nat.le_refl _) (.int .i64 xs) (.int .i64 xb) (.int .u64 xt))
            clear q0 q1 q2 hf hb5
            go_wp2
            refine bodyPost_ret (results_tok rfl _ _ w.heap.size xs xb xt rfl hT6.out) rfl ?_
            exact ⟨by rw [hr.out]; rfl, hB6.out⟩
          | false =>
            rw [hm] at cM
            have hr : Hid (prs l = ⟨1, 0, 0, 0⟩) := by
              show _ = _
              rw [HP5.out, hm, if_pos rfl]
            go_wp2_with fail
            refine cM.mono ?_
            rintro e w5 ⟨rfl, hb5⟩
            have hT5 : Hid (TokAt w5 w.heap.size 0 0 0) := (hTr.out.below hXB.out hws).below hb5 (by simp; omega)
            have hB5 : Hid (Below w.heap.size w w5) := below_to' (below_to' hBr.out hXB.out) hb5
            obtain ⟨z0, z1, z2⟩ := tok_cells hT5.out
            have hf5 := hT5.out.free
            have hT6 := Hid.mk' (hT5.out.put 0 0 0)
            have hB6 := Hid.mk' (below_tok hB5.out w.heap.size (Nat.le_refl _) (.int .i64 0) (.int .i64 0) (.int .u64 0))
            clear q0 q1 q2 hf hb5
            go_wp2
            refine bodyPost_ret (results_tok rfl _ _ w.heap.size 0 0 0 rfl hT6.out) rfl ?_
            exact ⟨by rw [hr.out]; rfl, hB6.out⟩
        · have hr : Hid (prs l = ⟨4, 0, 0, 0⟩) := by
            show _ = _
            rw [HP3.out, if_pos hQ]
          have hne2 : (((xq : Nat) : Int) != 0) = true := by rw [bne_iff_ne]; omega
          have hT2 := Hid.mk' (hTr.out.put 0 0 0)
          have hB2 := Hid.mk' (below_tok hBr.out w.heap.size (Nat.le_refl _) (.int .i64 0) (.int .i64 0) (.int .u64 0))
          go_wp2_with fail
          refine c1.mono ?_
          rintro e w' ⟨rfl, hw⟩
          subst w'
          go_wp2
          refine bodyPost_ret (results_tok rfl _ _ w.heap.size 0 0 0 rfl hT2.out) rfl ?_
          exact ⟨by rw [hr.out]; rfl, hB2.out⟩
  · have hr : Hid (prs l = ⟨4, 0, 0, 0⟩) := by unfold prs; rw [if_neg h1, if_neg h2, if_pos h3]; rfl
    have hne : (((byI l 0).toNat : Int) != 116) = true := by
      rw [bne_iff_ne]
      intro e
      exact h3 (UInt8.toNat_inj.1 (by have : (116 : UInt8).toNat = 116 := rfl; omega))
    rw [h21] at hsz
    unfold by1 at hI
    generalize (byI l 0).toNat = c at *
    generalize tx l = b at *
    go_enter Tryd.func10, Tryd.ntmps10
    go_wp2
    refine bodyPost_ret (results_tok rfl _ _ w.heap.size 0 0 0 rfl h0.out) rfl ?_
    exact ⟨by rw [hr.out]; rfl, hB0.out⟩
end Tk
end Go.Proofs.YtkkpcngdpnoidaaDoor
