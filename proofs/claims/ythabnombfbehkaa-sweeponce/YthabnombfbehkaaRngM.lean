import Derived.Test.YthabnombfbehkaaRngH
import Derived.Test.YthabnombfbehkaaRangeS
import Derived.Deep.LoopGhost
/- The program's rings: the numbers of a list, handed out; slots that follow one another, handed out without end. -/
namespace Go.Proofs.Ythabnombfbehkaa
set_option linter.ambiguousOpen false
open Go.RowKit
namespace Rg
open An Ft Lv
set_option linter.unusedSimpArgs false
set_option linter.unusedVariables false
attribute [local go_sem] Oper.semAt_some

theorem cell_blk {A B : World} {b o : Nat} (h : B.heap[b]? = A.heap[b]?) : B.cell? ⟨b, o, none⟩ = A.cell? ⟨b, o, none⟩ := by
  unfold World.cell?
  rw [h]

/-- Numbers that lie there. -/
def RdV (w : World) (v : Value) (L : List Nat) : Prop :=
  ∃ a cap, v = .slice a L.length cap ∧ L.length ≤ cap ∧ cap ≤ maxLen ∧ (0 < L.length → ∃ g o, a = some ⟨g, o, none⟩ ∧ ∀ k i, L[k]? = some i → w.cell? ⟨g, o + k, none⟩ = some (nun i))

set_option maxRecDepth 100000 in
set_option maxHeartbeats 1000000 in
theorem vals_seq (L : List Nat) (Bl : Nat) (cv : Value) (w : World) (hB : w.cell? ⟨Bl, 0, none⟩ = some cv) (hlt : Bl < w.heap.size) (hR : RdV w cv L) (hL : L.length ≤ 1000000000) :
    Rf.Seq Try.prog 55 #[.pointer (some ⟨Bl, 0, none⟩)] (fun i : Nat => #[nun i]) (fun b => b = Bl ∨ cv.ownBlock = some b) 0 L w := by
  intro l J Jx W hW hJ hJx hY h0
  have hc : W.cell? ⟨Bl, 0, none⟩ = some cv := (hW.cell (p := ⟨Bl, 0, none⟩) hlt).trans hB
  obtain ⟨a, cap, rfl, hcap, hmx, hcells⟩ := hR
  have HC : Hid (∀ k i, L[k]? = some i → ∃ g o, a = some ⟨g, o, none⟩ ∧ W.cell? ⟨g, o + k, none⟩ = some (nun i)) := fun k i hk => by
    have hkl := (List.getElem?_eq_some_iff.1 hk).1
    obtain ⟨g, o, rfl, h⟩ := hcells (by omega)
    have h1 := h k i hk
    obtain ⟨ob, ho, _⟩ := cells_of_cell h1
    exact ⟨g, o, rfl, (hW.cell (p := ⟨g, o + k, none⟩) (Array.getElem?_eq_some_iff.1 ho).1).trans h1⟩
  obtain ⟨n, hn⟩ : ∃ n, L.length = n := ⟨_, rfl⟩
  rw [hn] at hc hcap hL
  rw [hn] at hY
  have HN := Hid.mk' hn
  have HY := Hid.mk' hY
  clear hB hcells hn hY
  refine callsIn_of_wp Try.func55 rfl trivial ?_ rfl
  simp only [Try.ntmps55, List.size_toArray, List.length_cons, List.length_nil, Nat.reduceAdd, Nat.reduceSub, Array.replicate_succ, Array.replicate_zero, List.push_toArray, List.append_toArray, List.nil_append, List.cons_append]
  gi_wp2
  gi_loopw [7] (fun v wr => ∃ k : Nat, k ≤ n ∧ v = nun k ∧ Hid (J (L.take k) wr) ∧ Hid (Rf.Leaves (fun b => b = Bl ∨ (Value.slice a n cap).ownBlock = some b) W.heap.size (W.heap.size + 0) W wr)) (fun v _ => n - (intOf v).toNat)
  case atStart => exact ⟨0, Nat.zero_le _, rfl, Hid.mk' h0, Rf.Leaves.refl _ _ _ _⟩
  case round =>
    obtain ⟨k, hk, rfl, HJ, HL⟩ := hrel
    by_cases hp : k < n
    · obtain ⟨i, hi⟩ : ∃ i, L[k]? = some i := ⟨L[k]'(by rw [HN.out]; exact hp), List.getElem?_eq_getElem _⟩
      obtain ⟨g, o, rfl, hci⟩ := HC.out k i hi
      have hcr : wr.cell? ⟨g, o + k, none⟩ = some (nun i) := HL.out.cell (a := ⟨g, o + k, none⟩) (.inl (.inr rfl)) hci
      have ht : L.take k ++ [i] = L.take (k + 1) := by
        obtain ⟨h1, rfl⟩ := List.getElem?_eq_some_iff.1 hi
        exact (List.take_succ_eq_append_getElem h1).symm
      have hpre : L.take k ++ [i] <+: L := by rw [ht]; exact List.take_prefix _ _
      obtain ⟨fn, tmps, assign, body, hy, hR⟩ := HY.out (L.take k) i wr hpre (by have := HL.out.size; omega) HJ.out
      rw [ht] at hR
      have HT := Hid.mk' ht
      clear ht hci hc
      have hkI : (k : Int) < (n : Int) := by omega
      have hk0 : (0 : Int) ≤ (k : Int) := by omega
      gi_wp2_with fail
      refine hR.mono ?_
      rintro e W3 (⟨rfl, hJ3, hk3⟩ | ⟨rfl, hJx3, _⟩)
      · gi_wp2
        go_roundw
        case rel => exact ⟨k + 1, by omega, by go_num, hJ3, HL.out.trans hk3⟩
        case measure => simp [intOf]; omega
      · gi_wp2
        refine bodyPost_ret (results_none rfl _ _ _) rfl ?_
        exact ⟨⟨_, rfl⟩, .inr ⟨L.take (k + 1), by rw [← HT.out]; exact hpre, hJx3⟩⟩
    · have hnk : k = n := by omega
      have HJ2 : Hid (J L wr) := by
        have := HJ.out
        rwa [List.take_of_length_le (by rw [HN.out]; omega)] at this
      clear HJ hnk
      gi_wp2
      go_end0
      exact ⟨⟨_, rfl⟩, .inl HJ2.out⟩

theorem vals_iter (L : List Nat) (Bl : Nat) (cv : Value) (w : World) (hB : w.cell? ⟨Bl, 0, none⟩ = some cv) (hR : RdV w cv L) (hL : L.length ≤ 1000000000) (ho : ∀ b, cv.ownBlock = some b → b < w.heap.size) :
    IterA w (.func (.func 55) #[] #[.pointer (some ⟨Bl, 0, none⟩)]) (fun b => b = Bl ∨ cv.ownBlock = some b) L := by
  have hlt : Bl < w.heap.size := by
    obtain ⟨ob, h, _⟩ := cells_of_cell hB
    exact (Array.getElem?_eq_some_iff.1 h).1
  refine ⟨_, _, 0, rfl, enters_of Try.func55 (by kernel_rfl) rfl, ?_, fun W hs hX => vals_seq L Bl cv W ?_ (Nat.lt_of_lt_of_le hlt hs) ?_ hL⟩
  · rintro b (rfl | h)
    · exact hlt
    · exact ho b h
  · exact (cell_blk (hX Bl (.inl rfl))).trans hB
  · obtain ⟨a, cap, rfl, h1, h2, h3⟩ := hR
    refine ⟨a, cap, rfl, h1, h2, fun h => ?_⟩
    obtain ⟨g, o, rfl, h4⟩ := h3 h
    exact ⟨g, o, rfl, fun k i hk => (cell_blk (hX g (.inr rfl))).trans (h4 k i hk)⟩

set_option maxRecDepth 100000 in
theorem values_any (v : Value) (w : World) (hv : ∃ a n c, v = .slice a n c) : Calls Try.prog 39 #[v] w fun e w' => e = .returned (.func (.func 55) #[] #[.pointer (some ⟨w.heap.size, 0, none⟩)]) ∧ w' = w.alloc (.cells #[v] 22) := by
  obtain ⟨a, n, c, rfl⟩ := hv
  have hmf : ∀ fn first cap w, (Instr.makeFunc fn first cap).run Try.prog w = .ok (.func fn first cap) w := fun _ _ _ _ => rfl
  go_enter Try.func39, Try.ntmps39
  go_wp2
  go_ret
  exact ⟨rfl, rfl⟩

/-! ### Slots that follow one another -/

def Foll (S : List Slt) : Int → List Nat → Prop
  | _, [] => True
  | i, x :: r => nxN S i = x ∧ x < 32 ∧ Foll S x r

/-- Where one stands behind them. -/
def endI (i : Int) : List Nat → Int
  | [] => i
  | x :: r => endI x r

theorem endI_snoc : ∀ (pre : List Nat) (i : Int) (x : Nat), endI i (pre ++ [x]) = x
  | [], _, _ => rfl
  | y :: r, _, x => endI_snoc r y x

theorem foll_mid (S : List Slt) : ∀ (pre : List Nat) (i : Int) (x : Nat) (r : List Nat), Foll S i (pre ++ x :: r) → nxN S (endI i pre) = x ∧ x < 32
  | [], _, _, _, h => ⟨h.1, h.2.1⟩
  | y :: pre, _, x, r, h => foll_mid S pre y x r h.2.2

theorem foll_goes (S : List Slt) (last : Int) : ∀ (f : Nat) (i : Int), Foll S i (goes S last f (nxN S i))
  | 0, i => trivial
  | f + 1, i => by
    by_cases ht : there (nxN S i)
    · unfold goes
      rw [if_pos ht]
      refine ⟨by omega, by omega, ?_⟩
      split
      · trivial
      · have hc : ((nxN S i).toNat : Int) = nxN S i := by omega
        rw [hc, ← nxN_in ht]
        exact foll_goes S last f (nxN S i)
    · unfold goes
      rw [if_neg ht]
      trivial

/-- Where no round has said stop, the links have led nowhere. -/
theorem goes_fin (S : List Slt) (last : Int) : ∀ (f : Nat) (i : Int), (goes S last f (nxN S i)).length < f → (∀ x ∈ goes S last f (nxN S i), (x : Int) ≠ last) → ¬ there (nxN S (endI i (goes S last f (nxN S i))))
  | 0, i, h, _ => by omega
  | f + 1, i, h, hn => by
    by_cases ht : there (nxN S i)
    · have hc : ((nxN S i).toNat : Int) = nxN S i := by omega
      unfold goes at h hn ⊢
      rw [if_pos ht] at h hn ⊢
      have hl : nxN S i ≠ last := fun e => hn _ (List.mem_cons_self ..) (hc.trans e)
      rw [if_neg hl] at h hn ⊢
      rw [← nxN_in ht] at h hn ⊢
      simp only [endI]
      rw [hc]
      exact goes_fin S last f (nxN S i) (by simpa using h) (fun x hx => hn x (List.mem_cons_of_mem _ hx))
    · unfold goes
      rw [if_neg ht]
      exact ht

theorem allL_goes (S : List Slt) (last : Int) : allL S last = goes S last 32 (nxN S last) := by
  unfold allL
  by_cases ht : there last
  · rw [if_pos ht, nxN_in ht]
  · rw [if_neg ht]
    have : nxN S last = -1 := if_neg ht
    rw [this]
    rfl

/-- Its memory is all that counts. -/
def BlockC (Rep : World → Nat → (Nat → Prop) → Arn → Prop) : Prop := ∀ {w w' : World} {p : Nat} {F : Nat → Prop} {A : Arn}, Rep w p F A → (∀ k, F k → w'.heap[k]? = w.heap[k]?) → Rep w' p F A

section
variable {Rep : World → Nat → (Nat → Prop) → Arn → Prop}

/-- What the iterator leans on. -/
structure Fl (Rep : World → Nat → (Nat → Prop) → Arn → Prop) (w : World) (p : Nat) (F : Nat → Prop) (A : Arn) (b1 b2 : Nat) (i : Int) : Prop where
  rep : Rep w p F A
  one : Boxed w b1 24 (ptr p)
  two : Boxed w b2 3 (nu i)

theorem Fl.below (H : KeepC Rep) {w w' : World} {p : Nat} {F : Nat → Prop} {A : Arn} {b1 b2 : Nat} {i : Int} (h : Fl Rep w p F A b1 b2 i) (hb : Below w.heap.size w w') : Fl Rep w' p F A b1 b2 i :=
  ⟨H.below h.rep hb, (hb.block _ h.one.lt).trans h.one, (hb.block _ h.two.lt).trans h.two⟩

theorem Fl.leaves (H : KeepC Rep) (HX : BlockC Rep) {w w' : World} {p : Nat} {F : Nat → Prop} {A : Arn} {b1 b2 lo hi : Nat} {i : Int} (h : Fl Rep w p F A b1 b2 i) (hb : Rf.Leaves (fun b => b = b1 ∨ b = b2 ∨ F b) lo hi w w') : Fl Rep w' p F A b1 b2 i :=
  ⟨HX h.rep (fun k hk => by
    obtain ⟨o, ho⟩ : ∃ o, w.heap[k]? = some o := ⟨_, Array.getElem?_eq_getElem (H.lt h.rep k hk)⟩
    rw [ho]
    exact hb.same k o ho (.inl (.inr (.inr hk)))), hb.boxed (.inl (.inl rfl)) h.one, hb.boxed (.inl (.inr (.inl rfl))) h.two⟩

set_option maxRecDepth 1000000 in
set_option maxHeartbeats 4000000 in
theorem follow_seq (H : KeepC Rep) (HX : BlockC Rep) (CG : GetC Rep) (w : World) (p : Nat) (F : Nat → Prop) (A : Arn) (b1 b2 : Nat) (i0 : Int) (L : List Nat) (h : Fl Rep w p F A b1 b2 i0) (hg : An.Good A) (hF : Foll A.sl i0 L) :
    Rf.SeqS Try.prog 62 #[.pointer (some ⟨b1, 0, none⟩), .pointer (some ⟨b2, 0, none⟩)] (fun i : Nat => #[nun i]) (fun b => b = b1 ∨ b = b2 ∨ F b) L (¬ there (nxN A.sl (endI i0 L))) w := by
  intro l J Jx W hW hfin hY h0
  have HM : Hid (Fl Rep W p F A b1 b2 i0) := h.below H hW
  have HY := Hid.mk' hY
  have HJ0 := Hid.mk' h0
  have HF := Hid.mk' hF
  have HFN := Hid.mk' hfin
  have HH := Hid.mk' H
  have HHX : Hid (BlockC Rep) := HX
  have cS : Hid (∀ i wx, _) := fun i wx => isSlot_p p i wx
  have cL : Hid (∀ i wx, Fl Rep wx p F A b1 b2 i0 → Calls Try.prog 47 #[ptr p, nu i] wx fun e w' => e = .returned (lkv (pvN A.sl i) (nxN A.sl i)) ∧ Below wx.heap.size wx w') := fun i wx hx => linksOf_p H CG wx p F A i hx.rep hg
  clear hY h0 hfin hF h hW hg H HX CG
  refine callsIn_of_wp Try.func62 rfl trivial ?_ rfl
  refine wpIn_wide.2 ?_
  simp only [Try.ntmps62, List.size_toArray, List.length_cons, List.length_nil, Nat.reduceAdd, Nat.reduceSub, Array.replicate_succ, Array.replicate_zero, List.push_toArray, List.append_toArray, List.nil_append, List.cons_append]
  have x1 := HM.out.one.cell
  have x2 := HM.out.two.cell
  have c1 := Hid.mk' (cL.out i0 W HM.out)
  obtain ⟨n0, hn0⟩ : ∃ n0, nxN A.sl i0 = n0 := ⟨_, rfl⟩
  obtain ⟨p0, hp0⟩ : ∃ p0, pvN A.sl i0 = p0 := ⟨_, rfl⟩
  rw [hn0, hp0] at c1
  have HN0 := Hid.mk' hn0
  have hf1 := fld1 p0 n0
  clear hn0 hp0
  go_wp2_with fail
  refine c1.out.mono ?_
  rintro e W1 ⟨rfl, hb1⟩
  have HB1 := Hid.mk' hb1
  clear c1 hb1 x1 x2
  go_wp2_with fail
  clear hf1
  have HM1 : Hid (Fl Rep W1 p F A b1 b2 i0) := HM.out.below HH.out HB1.out
  go_loopg [4] (L.length) (fun k iv wr => ∃ (pre rest : List Nat) (W0 : World) (i : Int), iv = nu i ∧ Hid (rest.length = k) ∧ Hid (nxN A.sl (endI i0 pre) = i) ∧ Hid (L = pre ++ rest) ∧ Hid (J pre W0) ∧ Hid (Below W0.heap.size W0 wr) ∧ Hid (W.heap.size ≤ W0.heap.size) ∧ Hid (Fl Rep wr p F A b1 b2 i0))
  case atStart => exact ⟨[], L, W, n0, rfl, rfl, HN0, rfl, HJ0, HB1, Nat.le_refl _, HM1⟩
  case round =>
  obtain ⟨pre, rest, W0, i, rfl, HK, HI, HL, HJ, HB, HS, HM2⟩ := hrel
  clear HM HM1 HJ0 HN0 HB1
  have x1 := HM2.out.one.cell
  have c1 := Hid.mk' (cS.out i wr)
  cases rest with
  | nil =>
    have hLp : L = pre := by rw [HL.out, List.append_nil]
    have hnt : ¬ there i := by
      have := HFN.out W0 (by rw [hLp]; exact HJ.out)
      rwa [hLp, HI.out] at this
    have HJL : Hid (J L W0) := by show J L W0; rw [hLp]; exact HJ.out
    rw [decide_eq_false hnt] at c1
    clear hLp hnt
    go_wp2_with (first | (go_at_call 45; refine c1.out.mono ?_; rintro e w2 ⟨rfl, hw2⟩; subst w2) | fail)
    go_end0
    exact ⟨⟨_, rfl⟩, W0, HB.out, .inl HJL.out⟩
  | cons x r =>
    have hFm := HF.out
    rw [HL.out] at hFm
    obtain ⟨q1, q2⟩ := foll_mid A.sl pre i0 x r hFm
    have hix : i = x := HI.out.symm.trans q1
    subst hix
    have ht : there (x : Int) := by omega
    rw [decide_eq_true ht] at c1
    have hpre : pre ++ [x] <+: L := ⟨r, by rw [HL.out]; simp⟩
    obtain ⟨fn, tmps, assign, body, hy, hR⟩ := HY.out pre x W0 wr hpre HS.out HJ.out HB.out
    have HLn : Hid (L = (pre ++ [x]) ++ r) := by show _ = _; rw [HL.out]; simp
    have HI2 : Hid (nxN A.sl (endI i0 (pre ++ [x])) = nxN A.sl x) := by show _ = _; rw [endI_snoc]
    have HKr : Hid (r.length < gk) := by
      show _ < _
      have := HK.out
      simp at this
      omega
    have HPR := Hid.mk' hpre
    have hs0 := HB.out.size
    have HS0 : Hid (W.heap.size ≤ wr.heap.size) := Nat.le_trans HS.out hs0
    clear hFm q1 q2 ht hpre HL HK HI hs0
    go_upto_region 3 with (first | (go_at_call 45; refine c1.out.mono ?_; rintro e w2 ⟨rfl, hw2⟩; subst w2) | fail)
    refine (wpIn_wide (n := 8)).1 ?_
    gi_wp2_with fail
    refine hR.mono ?_
    rintro e W3 (⟨rfl, hJ3, hk3⟩ | ⟨rfl, hJx3, _⟩)
    · have HJ3 := Hid.mk' hJ3
      have HM3 : Hid (Fl Rep W3 p F A b1 b2 i0) := HM2.out.leaves HH.out HHX.out hk3
      have HS3 : Hid (W.heap.size ≤ W3.heap.size) := Nat.le_trans HS0.out hk3.size
      have x1 := HM3.out.one.cell
      have c2 := Hid.mk' (cL.out x W3 HM3.out)
      obtain ⟨n1, hn1⟩ : ∃ n1, nxN A.sl x = n1 := ⟨_, rfl⟩
      obtain ⟨p1, hp1⟩ : ∃ p1, pvN A.sl x = p1 := ⟨_, rfl⟩
      rw [hn1, hp1] at c2
      rw [hn1] at HI2
      have hf1 := fld1 p1 n1
      clear hJ3 hk3 hy hR hn1 hp1
      gi_wp2_with fail
      go_wp2_with (first | (go_at_call 47; refine c2.out.mono ?_; rintro e W4 ⟨rfl, hb4⟩; have HB4 := Hid.mk' hb4; clear hb4) | fail)
      go_roundg r.length
      case measure => exact HKr.out
      case rel => exact ⟨pre ++ [x], r, W3, n1, rfl, rfl, HI2, HLn, HJ3, HB4, HS3, HM3.out.below HH.out HB4.out⟩
    · have HJx := Hid.mk' hJx3
      clear hJx3 hy hR
      gi_wp2_with fail
      go_wp2
      refine bodyPost_ret (results_none rfl _ _ _) rfl ?_
      exact ⟨⟨_, rfl⟩, W3, Below.refl _ _, .inr ⟨pre ++ [x], HPR.out, HJx.out⟩⟩

set_option maxRecDepth 100000 in
theorem follow_p (p : Nat) (i : Int) (w : World) : Calls Try.prog 60 #[ptr p, nu i] w fun e w' => e = .returned (.func (.func 62) #[] #[.pointer (some ⟨w.heap.size, 0, none⟩), .pointer (some ⟨w.heap.size + 1, 0, none⟩)]) ∧ w' = (w.alloc (.cells #[ptr p] 24)).alloc (.cells #[nu i] 3) := by
  have hmf : ∀ fn first cap w, (Instr.makeFunc fn first cap).run Try.prog w = .ok (.func fn first cap) w := fun _ _ _ _ => rfl
  go_enter Try.func60, Try.ntmps60
  go_wp2
  go_ret
  exact ⟨rfl, rfl⟩
end
end Rg
end Go.Proofs.Ythabnombfbehkaa
