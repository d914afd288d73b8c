/- TreO, TreW, in one text. -/
import Derived.Test.YthabnombfbehkaaTrF
import Derived.Test.YthabnombfbehkaaTrM
/- The program's trees: Add. -/
namespace Go.Proofs.Ythabnombfbehkaa
set_option linter.ambiguousOpen false
open Go.RowKit
namespace Tr
open An Rg Ft Lv
set_option linter.unusedSimpArgs false
set_option linter.unusedVariables false

theorem errE_no (n : Nat) (h : n ≠ 0) : errE n = .iface 65 (.int .i64 (n : Int)) := by
  cases n with
  | zero => exact absurd rfl h
  | succ n => rfl

theorem errP_no (n : Nat) (pl : Int) (h : n ≠ 0) : ∃ t v, errP n pl = .iface t v := by
  unfold errP
  split
  · exact ⟨_, _, errE_no n h⟩
  · exact ⟨_, _, rfl⟩

theorem push_pl (S : List Slt) (l i : Int) (h : (push S l i).no = 0) : (push S l i).pl = -1 := by
  unfold push at h ⊢
  repeat' split at h
  all_goals simp_all

theorem drop_pl (S : List Slt) (l i : Int) (h : (drop S l i).no = 0) : (drop S l i).pl = -1 := by
  unfold drop at h ⊢
  repeat' split at h
  all_goals simp_all

theorem push_sl (S : List Slt) (l i : Int) (h : (push S l i).no ≠ 0) : (push S l i).sl = S := by
  unfold push at h ⊢
  repeat' split at h
  all_goals simp_all

theorem drop_sl (S : List Slt) (l i : Int) (h : (drop S l i).no ≠ 0) : (drop S l i).sl = S := by
  unfold drop at h ⊢
  repeat' split at h
  all_goals simp_all

theorem used_there {S : List Slt} {i : Int} (h : usedE S i = 0) : there i := by
  by_cases q : there i
  · exact q
  · unfold usedE at h
    rw [if_pos q] at h
    omega

theorem par_yes {S : List Slt} {i us ub : Int} (h : parE S i us ub = 0) : there us ∧ us ≠ i ∧ isUp S us ub := by
  unfold parE at h
  split at h
  · omega
  · rename_i h1
    split at h
    · omega
    · rename_i h2
      split at h
      · omega
      · rename_i h3
        exact ⟨Decidable.not_not.1 h1, h2, Decidable.not_not.1 h3⟩

theorem add_used (S : List Slt) (l i us ub : Int) (h : usedE S i ≠ 0) : addT S l i us ub = ⟨usedE S i, -1, S, l⟩ := if_pos h

theorem add_par (S : List Slt) (l i us ub : Int) (h : usedE S i = 0) (h0 : ub ≠ 0) (hp : parE S i us ub ≠ 0) : addT S l i us ub = ⟨parE S i us ub, -1, S, l⟩ := by
  by_cases h1 : there us
  · by_cases h2 : us = i
    · have e : parE S i us ub = 9 := by unfold parE; rw [if_neg (fun q => q h1), if_pos h2]
      rw [e]
      unfold addT
      rw [if_neg (by omega), if_neg (fun q => q.2 h1), if_pos ⟨h0, h2⟩]
    · by_cases h3 : isUp S us ub
      · exfalso
        apply hp
        unfold parE
        rw [if_neg (fun q => q h1), if_neg h2, if_neg (fun q => q h3)]
      · have e : parE S i us ub = 10 := by unfold parE; rw [if_neg (fun q => q h1), if_neg h2, if_pos h3]
        rw [e]
        unfold addT
        rw [if_neg (by omega), if_neg (fun q => q.2 h1), if_neg (fun q => h2 q.2), if_pos ⟨h0, h3⟩]
  · have e : parE S i us ub = 1 := by unfold parE; rw [if_pos h1]
    rw [e]
    unfold addT
    rw [if_neg (by omega), if_pos ⟨h0, h1⟩]

/-- Where nothing is wrong but with the ring. -/
theorem add_ring (S : List Slt) (l i us ub : Int) (h : usedE S i = 0) (hp : ub ≠ 0 → parE S i us ub = 0) : addT S l i us ub = if (push S (ringOf S l us ub) i).no ≠ 0 then ⟨(push S (ringOf S l us ub) i).no, (push S (ringOf S l us ub) i).pl, S, l⟩ else if ub = 0 then ⟨0, -1, setU (setK (push S (ringOf S l us ub) i).sl i (-1)) i 0 0, (push S (ringOf S l us ub) i).ans⟩ else ⟨0, -1, setK (setU (setK (push S (ringOf S l us ub) i).sl i (-1)) i us ub) us (push S (ringOf S l us ub) i).ans, l⟩ := by
  unfold addT
  rw [if_neg (by omega), if_neg (fun q => q.2 (par_yes (hp q.1)).1), if_neg (fun q => (par_yes (hp q.1)).2.1 q.2), if_neg (fun q => q.2 (par_yes (hp q.1)).2.2)]
  split
  · rfl
  · by_cases h0 : ub = 0
    · rw [if_pos h0, if_pos h0]
      unfold ringOf
      rw [if_pos h0]
    · rw [if_neg h0, if_neg h0]
      unfold ringOf
      rw [if_neg h0]

/-- Amid a call: the tree, and a link in the block lb. -/
def Am (Rep : World → Nat → (Nat → Prop) → Arn → Prop) (w0 w : World) (p q : Nat) (F0 : Nat → Prop) (A : Arn) (l : Int) (lb : Nat) (us ub : Int) : Prop := ∃ F, RepT Rep w p q F A l ∧ Keep F0 w0 w ∧ Goes w0 F0 F ∧ Lnl w lb us ub ∧ ¬ F lb ∧ w0.heap.size ≤ lb

section
variable {Rep : World → Nat → (Nat → Prop) → Arn → Prop} {w0 w w' : World} {p q lb : Nat} {F0 F : Nat → Prop} {A A' : Arn} {l l' us ub : Int}

theorem Am.below (H : KeepC Rep) (h : Am Rep w0 w p q F0 A l lb us ub) (hb : Below w.heap.size w w') : Am Rep w0 w' p q F0 A l lb us ub := by
  obtain ⟨F, h1, h2, h3, h4, h5, h6⟩ := h
  exact ⟨F, h1.below H hb, h2.trans (Keep.of_below (F := fun _ => False) hb) (fun _ _ e => e.elim), h3, h4.below hb, h5, h6⟩

theorem Am.drew (H : KeepC Rep) (h : Am Rep w0 w p q F0 A l lb us ub) : Am Rep w0 w.drew p q F0 A l lb us ub := h.below H (Below.refl _ _).drew

theorem Am.read (h : Am Rep w0 w p q F0 A l lb us ub) : w.cell? ⟨q, 0, none⟩ = some (ptr p) ∧ w.cell? ⟨lb, 0, none⟩ = some (nu us) ∧ w.cell? ⟨lb, 1, none⟩ = some (nu ub) := by
  obtain ⟨F, h1, h2, h3, h4, h5, h6⟩ := h
  exact ⟨h1.cells.1, h4.cells.1, h4.cells.2.1⟩

theorem Am.left (h : Am Rep w0 w p q F0 A l lb us ub) : LeftT (RepT Rep) w0 w p q F0 A l := by
  obtain ⟨F, h1, h2, h3, h4, h5, h6⟩ := h
  exact ⟨F, h1, h2, h3⟩

theorem Am.turn (h2 : Keep F0 w0 w) (h3 : Goes w0 F0 F) (h4 : Lnl w lb us ub) (h5 : ¬ F lb) (h6 : w0.heap.size ≤ lb) (hl : LeftT (RepT Rep) w w' p q F A' l') : Am Rep w0 w' p q F0 A' l' lb us ub := by
  obtain ⟨G, g1, g2, g3⟩ := hl
  refine ⟨G, g1, keep_goes h2 h3 g2, goes_trans h3 g3 h2.size, h4.keep g2 h5, fun e => ?_, h6⟩
  rcases g3 lb e with e | e
  · exact h5 e
  · have := h4.lt
    omega

/-- Another link in that block. -/
theorem Am.link (H : KeepC Rep) {us' ub' : Int} (h : Am Rep w0 w p q F0 A l lb us ub) (hl : Lnl w' lb us' ub') (hg : w.grownBy w' (some lb)) : Am Rep w0 w' p q F0 A l lb us' ub' := by
  obtain ⟨F, h1, h2, h3, h4, h5, h6⟩ := h
  have hk : Keep (fun j => j = lb) w w' := ⟨hg.os, hg.tape, hg.output, hg.size, fun k hk hn => hg.block k hk (fun e => hn (Option.some.inj e))⟩
  exact ⟨F, h1.keep H hk (fun k hkk e => h5 (e ▸ hkk)), h2.trans hk (fun k hk e => by omega), h3, hl, h5, h6⟩

theorem lastBelow_a (C : ArC Rep) (hg : An.Good A) (hu : ub ≠ 0 → there us) (h : Am Rep w0 w p q F0 A l lb us ub) :
    Calls Try.prog 27 #[ptr q, lkU us ub] w fun e w' => e = .returned (nu (ringOf A.sl l us ub)) ∧ (w'.cell? ⟨q, 0, none⟩ = some (ptr p) ∧ w'.cell? ⟨lb, 0, none⟩ = some (nu us) ∧ w'.cell? ⟨lb, 1, none⟩ = some (nu ub)) ∧ Hid (Am Rep w0 w' p q F0 A l lb us ub) := by
  obtain ⟨F, h1, h2, h3, h4, h5, h6⟩ := id h
  refine (lastBelow_p C w p q F A l us ub h1 hg hu).mono ?_
  rintro e w' ⟨rfl, hb⟩
  exact ⟨rfl, (h.below C.keep hb).read, h.below C.keep hb⟩

theorem push_a (C : ArC Rep) (hg : An.Good A) (hwr : A.wr ≤ 999999990) (r i : Int) (h : Am Rep w0 w p q F0 A l lb us ub) :
    Calls Try.prog 30 #[ptr p, nu r, nu i] w fun e w' => e = .returned (.tuple #[nu (push A.sl r i).ans, errP (push A.sl r i).no (push A.sl r i).pl]) ∧ (w'.cell? ⟨q, 0, none⟩ = some (ptr p) ∧ w'.cell? ⟨lb, 0, none⟩ = some (nu us) ∧ w'.cell? ⟨lb, 1, none⟩ = some (nu ub)) ∧ Hid (∃ n, n ≤ 3 ∧ ((push A.sl r i).no ≠ 0 → n = 0) ∧ Am Rep w0 w' p q F0 ⟨(push A.sl r i).sl, A.fr, A.wr + n⟩ l lb us ub) := by
  obtain ⟨F, ⟨Fa, g1, g2, g3, rfl⟩, h2, h3, h4, h5, h6⟩ := id h
  refine (C.push w p Fa A r i g1 hg hwr).mono ?_
  rintro e w' ⟨rfl, n, hn, hn0, hl⟩
  have := Am.turn h2 h3 h4 h5 h6 (leftT_of g2 g3 hl)
  exact ⟨rfl, this.read, n, hn, hn0, this⟩

theorem drop_a (C : ArC Rep) (hg : An.Good A) (hwr : A.wr ≤ 999999990) (r i : Int) (h : Am Rep w0 w p q F0 A l lb us ub) :
    Calls Try.prog 26 #[ptr p, nu r, nu i] w fun e w' => e = .returned (.tuple #[nu (drop A.sl r i).ans, errP (drop A.sl r i).no (drop A.sl r i).pl]) ∧ (w'.cell? ⟨q, 0, none⟩ = some (ptr p) ∧ w'.cell? ⟨lb, 0, none⟩ = some (nu us) ∧ w'.cell? ⟨lb, 1, none⟩ = some (nu ub)) ∧ Hid (∃ n, n ≤ 3 ∧ ((drop A.sl r i).no ≠ 0 → n = 0) ∧ Am Rep w0 w' p q F0 ⟨(drop A.sl r i).sl, A.fr, A.wr + n⟩ l lb us ub) := by
  obtain ⟨F, ⟨Fa, g1, g2, g3, rfl⟩, h2, h3, h4, h5, h6⟩ := id h
  refine (C.drop w p Fa A r i g1 hg hwr).mono ?_
  rintro e w' ⟨rfl, n, hn, hn0, hl⟩
  have := Am.turn h2 h3 h4 h5 h6 (leftT_of g2 g3 hl)
  exact ⟨rfl, this.read, n, hn, hn0, this⟩

theorem hang_a (C : ArC Rep) (hg : An.Good A) (hwr : A.wr ≤ 1000000000) (i : Int) (ht : there i) (h : Am Rep w0 w p q F0 A l lb us ub) :
    Calls Try.prog 44 #[ptr q, nu i, lkU us ub] w fun e w' => (∃ u, e = .returned u) ∧ Am Rep w0 w' p q F0 ⟨setU (setK A.sl i (-1)) i us ub, A.fr, A.wr + 1⟩ l lb us ub := by
  obtain ⟨F, h1, h2, h3, h4, h5, h6⟩ := id h
  refine (hang_p C w p q F A l i us ub h1 hg hwr ht).mono ?_
  rintro e w' ⟨hu, hl⟩
  exact ⟨hu, Am.turn h2 h3 h4 h5 h6 hl⟩

theorem setLast_a (C : ArC Rep) (hg : An.Good A) (hwr : A.wr ≤ 1000000000) (v : Int) (hu : ub ≠ 0 → there us) (h : Am Rep w0 w p q F0 A l lb us ub) :
    Calls Try.prog 28 #[ptr q, lkU us ub, nu v] w fun e w' => (∃ u, e = .returned u) ∧ LeftT (RepT Rep) w0 w' p q F0 (if ub = 0 then A else ⟨setK A.sl us v, A.fr, A.wr + 1⟩) (if ub = 0 then v else l) := by
  obtain ⟨F, h1, h2, h3, h4, h5, h6⟩ := id h
  refine (setLast_p C w p q F A l us ub v h1 hg hwr hu).mono ?_
  rintro e w' ⟨hu, hl⟩
  exact ⟨hu, leftT_more h2 h3 hl⟩
end

section
variable {Rep : World → Nat → (Nat → Prop) → Arn → Prop}

set_option maxRecDepth 100000 in
set_option maxHeartbeats 4000000 in
theorem add_p (C : ArC Rep) (w : World) (p q : Nat) (F : Nat → Prop) (A : Arn) (l i us ub : Int) (h : RepT Rep w p q F A l) (hg : An.Good A) (hwr : A.wr ≤ 999999980) :
    Calls Try.prog 21 #[ptr q, nu i, lkU us ub] w fun e w' => e = .returned (errP (addT A.sl l i us ub).no (addT A.sl l i us ub).pl) ∧ ∃ n, n ≤ 8 ∧ ((addT A.sl l i us ub).no ≠ 0 → n = 0) ∧ LeftT (RepT Rep) w w' p q F ⟨(addT A.sl l i us ub).sl, A.fr, A.wr + n⟩ (addT A.sl l i us ub).last := by
  have hB0 : Below w.heap.size w (w.alloc (.cells #[nu us, nu ub] 43)) := (Below.refl _ _).alloc (Nat.le_refl _) _
  have hL0 := lnl_new w us ub
  obtain ⟨lb, hlb⟩ : ∃ lb, w.heap.size = lb := ⟨_, rfl⟩
  obtain ⟨W0, hW0⟩ : ∃ W0, w.alloc (.cells #[nu us, nu ub] 43) = W0 := ⟨_, rfl⟩
  rw [hW0] at hB0 hL0
  rw [hlb] at hL0
  have HW0 := Hid.mk' hW0
  have HLB := Hid.mk' hlb
  have HB0 := Hid.mk' hB0
  have HL0 := Hid.mk' hL0
  have hlt : lb < W0.heap.size := hL0.lt
  have hA0 : Am Rep w W0 p q F A l lb us ub := ⟨F, h.below C.keep hB0, Keep.of_below hB0, Goes.refl _ _, hL0, fun e => by have := h.lt C.keep lb e; omega, by omega⟩
  have cU : Hid (Calls Try.prog 22 #[ptr q, nu i] W0 fun e w' => e = .returned (errE (usedE A.sl i)) ∧ Am Rep w w' p q F A l lb us ub) := by
    refine (checkUsed_p C W0 p q F A l i (h.below C.keep hB0) hg).mono ?_
    rintro e w' ⟨rfl, hb⟩
    exact ⟨rfl, hA0.below C.keep hb⟩
  have HL0' : Hid (∀ wx, Am Rep w wx p q F A l lb us ub → LeftT (RepT Rep) w wx p q F ⟨A.sl, A.fr, A.wr + 0⟩ l) := fun wx hx => hx.left
  obtain ⟨R, hR⟩ : ∃ R, addT A.sl l i us ub = R := ⟨_, rfl⟩
  rw [hR]
  by_cases hu : usedE A.sl i = 0
  · rw [hu] at cU
    have e0 : errE 0 = .nilIface := rfl
    rw [e0] at cU
    have hti := used_there hu
    have cR0 : Hid (∀ wx, Am Rep w wx p q F A l lb us ub → Calls Try.prog 24 #[lkU us ub] wx fun e w' => e = .returned (.bool (ub == 0)) ∧ Am Rep w w' p q F A l lb us ub) := fun wx hx => by
      refine (isRoot_p us ub wx).mono ?_
      rintro e w' ⟨rfl, hb⟩
      exact ⟨rfl, hx.below C.keep hb⟩
    by_cases h0 : ub = 0
    · subst h0
      have hbz : ((0 : Int) == 0) = true := rfl
      rw [hbz] at cR0
      have HLK : Hid (∀ wx wy, Am Rep w wx p q F A l lb us 0 → Lnl wy lb 0 0 → wx.grownBy wy (some lb) → Am Rep w wy p q F A l lb 0 0) := fun wx wy h1 h2 h3 => h1.link C.keep h2 h3
      have HLN : Hid (∀ wx, Am Rep w wx p q F A l lb us 0 → Lnl wx lb us 0) := fun wx hx => by
        obtain ⟨_, _, _, _, h4, _⟩ := hx
        exact h4
      have hRR := add_ring A.sl l i us 0 hu (fun q => absurd rfl q)
      have hrs : ringOf A.sl l us 0 = ringOf A.sl l 0 0 := rfl
      rw [hR, hrs, if_pos (show (0 : Int) = 0 from rfl)] at hRR
      obtain ⟨rr, hrr⟩ : ∃ rr, ringOf A.sl l 0 0 = rr := ⟨_, rfl⟩
      obtain ⟨P, hP⟩ : ∃ P, push A.sl rr i = P := ⟨_, rfl⟩
      rw [hrr, hP] at hRR
      have cR : Hid (∀ wx, Am Rep w wx p q F A l lb 0 0 → Calls Try.prog 27 #[ptr q, lkU 0 0] wx fun e w' => e = .returned (nu rr) ∧ (w'.cell? ⟨q, 0, none⟩ = some (ptr p) ∧ w'.cell? ⟨lb, 0, none⟩ = some (nu 0) ∧ w'.cell? ⟨lb, 1, none⟩ = some (nu 0)) ∧ Hid (Am Rep w w' p q F A l lb 0 0)) := fun wx hx => by
        have := lastBelow_a C hg (fun z => absurd rfl z) hx
        rw [hrr] at this
        exact this
      obtain ⟨ev, hev⟩ : ∃ ev, errP P.no P.pl = ev := ⟨_, rfl⟩
      have cP : Hid (∀ wx, Hid (Am Rep w wx p q F A l lb 0 0) → Calls Try.prog 30 #[ptr p, nu rr, nu i] wx fun e w' => e = .returned (.tuple #[nu P.ans, ev]) ∧ (w'.cell? ⟨q, 0, none⟩ = some (ptr p) ∧ w'.cell? ⟨lb, 0, none⟩ = some (nu 0) ∧ w'.cell? ⟨lb, 1, none⟩ = some (nu 0)) ∧ Hid (∃ n, n ≤ 3 ∧ (P.no ≠ 0 → n = 0) ∧ Am Rep w w' p q F ⟨P.sl, A.fr, A.wr + n⟩ l lb 0 0)) := fun wx hx => by
        have := push_a C hg (by omega) rr i hx.out
        rw [hP, hev] at this
        exact this
      have hlP : P.sl.length = A.sl.length := by rw [← hP]; exact push_len _ _ _
      have HPL : Hid (P.no = 0 → P.pl = -1) := fun z => by rw [← hP] at z ⊢; exact push_pl _ _ _ z
      have HPS : Hid (P.no ≠ 0 → P.sl = A.sl) := fun z => by rw [← hP] at z ⊢; exact push_sl _ _ _ z
      have HEV := Hid.mk' hev
      have HRR := Hid.mk' hRR
      have HKC := Hid.mk' C.keep
      have cH : Hid (∀ wx (A2 : Arn), A2.sl.length = A.sl.length → A2.wr ≤ 999999985 → Am Rep w wx p q F ⟨A2.sl, A.fr, A2.wr⟩ l lb 0 0 → Calls Try.prog 44 #[ptr q, nu i, lkU 0 0] wx fun e w' => (∃ u, e = .returned u) ∧ Am Rep w w' p q F ⟨setU (setK A2.sl i (-1)) i 0 0, A.fr, A2.wr + 1⟩ l lb 0 0) := fun wx A2 h1 h2 hx => hang_a C (good_sl hg h1) (by show A2.wr ≤ _; omega) i hti hx
      have cS : Hid (∀ wx (A2 : Arn), A2.sl.length = A.sl.length → A2.wr ≤ 999999989 → Am Rep w wx p q F ⟨A2.sl, A.fr, A2.wr⟩ l lb 0 0 → Calls Try.prog 28 #[ptr q, lkU 0 0, nu P.ans] wx fun e w' => (∃ u, e = .returned u) ∧ LeftT (RepT Rep) w w' p q F ⟨A2.sl, A.fr, A2.wr⟩ P.ans) := fun wx A2 h1 h2 hx => by
        have := setLast_a C (good_sl hg h1) (by show A2.wr ≤ _; omega) P.ans (fun z => absurd rfl z) hx
        rw [if_pos rfl, if_pos rfl] at this
        exact this
      clear hP hrr hev hRR hg C
      have cR0' := trivial
      clear h hB0 hL0 hW0 hlb HL0 hA0 hu e0 hR hrs cR0' hlt
      go_enter Try.func21, Try.ntmps21
      go_upto_region 1 with fail
      rw [HW0.out, HLB.out]
      go_wp2_with fail
      refine cU.out.mono ?_
      rintro e w1 ⟨rfl, ha1⟩
      have HA1 := Hid.mk' ha1
      obtain ⟨_, y0, y1⟩ := ha1.read
      clear ha1 cU HW0 HLB HB0
      go_wp2_with fail
      refine (cR0.out _ HA1.out).mono ?_
      rintro e w2 ⟨rfl, ha2⟩
      have HA2 := Hid.mk' ha2
      have HN2 := Hid.mk' (HLN.out w2 ha2)
      clear ha2 y0 y1 HA1 cR0
      go_upto_region 9 with (first | (refine wpList_store_lnl rfl _ _ rfl lb rfl 0 0 rfl us 0 HN2.out ?_; intro w3 hl3 hg3 hs3; have HA3 := Hid.mk' (HLK.out w2 w3 HA2.out hl3 hg3); clear hl3 hg3 hs3) | fail)
      clear HLK HLN HN2 HA2
      have HTD : Hid (Am Rep w w3.drew p q F A l lb 0 0) := HA3.out.drew HKC.out
      have HSD : Hid (w3.drew.cell? ⟨q, 0, none⟩ = some (ptr p) ∧ w3.drew.cell? ⟨lb, 0, none⟩ = some (nu 0) ∧ w3.drew.cell? ⟨lb, 1, none⟩ = some (nu 0)) := HTD.out.read
      obtain ⟨z0, z1, z2⟩ := HA3.out.read
      go_region_held3 (fun w' => w'.cell? ⟨q, 0, none⟩ = some (ptr p) ∧ w'.cell? ⟨lb, 0, none⟩ = some (nu 0) ∧ w'.cell? ⟨lb, 1, none⟩ = some (nu 0)) (first | assumption | exact HSD.out | exact hs5 | exact hs6 | fail) (first | (go_at_call 27; with_reducible refine (cR.out _ HTD.out).mono ?_; rintro e w5 ⟨rfl, hs5, hQ5⟩) | (go_at_call 30; with_reducible refine (cP.out _ hQ5).mono ?_; rintro e w6 ⟨rfl, hs6, hQ6⟩) | fail)
      clear cR cP HTD HSD hQ5 hs5 z0 z1 z2 HA3
      obtain ⟨n, hn3, hn0, ha6⟩ := hQ6.out
      clear hQ6
      by_cases hno : P.no = 0
      · obtain rfl : ev = .nilIface := by rw [← HEV.out, hno, HPL.out hno]; rfl
        have HR2 : Hid (R = _) := HRR.out.trans (if_neg (fun z => z hno))
        clear HRR HEV HPL HPS hno hn0
        have HA6 := Hid.mk' ha6
        clear ha6
        obtain ⟨y0, y1, y2⟩ := hs6
        have c7 := Hid.mk' (cH.out w6 ⟨P.sl, A.fr, A.wr + n⟩ hlP (by show A.wr + n ≤ _; omega) HA6.out)
        clear cH
        go_wp2_with fail
        refine c7.out.mono ?_
        rintro e w7 ⟨⟨u7, rfl⟩, ha7⟩
        clear c7 HA6 y0 y1 y2
        have c8 := Hid.mk' (cS.out w7 ⟨setU (setK P.sl i (-1)) i 0 0, A.fr, A.wr + n + 1⟩ (by show (setU (setK P.sl i (-1)) i 0 0).length = _; rw [setU_len, setK_len]; exact hlP) (by show A.wr + n + 1 ≤ _; omega) ha7)
        clear cS
        obtain ⟨_, y1, y2⟩ := ha7.read
        clear ha7
        go_wp2_with fail
        refine c8.out.mono ?_
        rintro e w8 ⟨⟨u8, rfl⟩, hl8⟩
        have HL8 := Hid.mk' hl8
        clear hl8 c8
        go_wp2
        go_ret
        rw [HR2.out]
        exact ⟨rfl, n + 1, by omega, fun z => absurd rfl z, HL8.out⟩
      · obtain ⟨t, v, hev⟩ := errP_no P.no P.pl hno
        have HR2 : Hid (R = _) := HRR.out.trans (if_pos hno)
        have HE2 : Hid (ev = errP P.no P.pl) := HEV.out.symm
        obtain rfl : ev = .iface t v := by rw [← HEV.out, hev]
        have hz := hn0 hno
        subst hz
        have HL6 : Hid (LeftT (RepT Rep) w w6 p q F ⟨A.sl, A.fr, A.wr + 0⟩ l) := by have := ha6.left; rw [HPS.out hno] at this; exact this
        clear HRR HEV HPL HPS hno hn0 ha6 hev hs6
        go_wp2
        go_ret
        rw [HR2.out]
        exact ⟨by rw [← HE2.out]; rfl, 0, by omega, fun _ => rfl, HL6.out⟩
    · have hb : (ub == 0) = false := by simpa using h0
      rw [hb] at cR0
      have cK : Hid (∀ wx, Am Rep w wx p q F A l lb us ub → Calls Try.prog 43 #[ptr q, nu i, lkU us ub] wx fun e w' => e = .returned (errE (parE A.sl i us ub)) ∧ Am Rep w w' p q F A l lb us ub) := fun wx hx => by
        obtain ⟨G, h1, _⟩ := id hx
        refine (checkParent_p C wx p q G A l i us ub h1 hg).mono ?_
        rintro e w' ⟨rfl, hb⟩
        exact ⟨rfl, hx.below C.keep hb⟩
      by_cases hp : parE A.sl i us ub = 0
      · rw [hp, e0] at cK
        obtain ⟨htu, hne, _⟩ := par_yes hp
        have hRR := add_ring A.sl l i us ub hu (fun _ => hp)
        rw [hR, if_neg h0] at hRR
        obtain ⟨rr, hrr⟩ : ∃ rr, ringOf A.sl l us ub = rr := ⟨_, rfl⟩
        obtain ⟨P, hP⟩ : ∃ P, push A.sl rr i = P := ⟨_, rfl⟩
        rw [hrr, hP] at hRR
        have cR : Hid (∀ wx, Am Rep w wx p q F A l lb us ub → Calls Try.prog 27 #[ptr q, lkU us ub] wx fun e w' => e = .returned (nu rr) ∧ (w'.cell? ⟨q, 0, none⟩ = some (ptr p) ∧ w'.cell? ⟨lb, 0, none⟩ = some (nu us) ∧ w'.cell? ⟨lb, 1, none⟩ = some (nu ub)) ∧ Hid (Am Rep w w' p q F A l lb us ub)) := fun wx hx => by
          have := lastBelow_a C hg (fun _ => htu) hx
          rw [hrr] at this
          exact this
        obtain ⟨ev, hev⟩ : ∃ ev, errP P.no P.pl = ev := ⟨_, rfl⟩
        have cP : Hid (∀ wx, Hid (Am Rep w wx p q F A l lb us ub) → Calls Try.prog 30 #[ptr p, nu rr, nu i] wx fun e w' => e = .returned (.tuple #[nu P.ans, ev]) ∧ (w'.cell? ⟨q, 0, none⟩ = some (ptr p) ∧ w'.cell? ⟨lb, 0, none⟩ = some (nu us) ∧ w'.cell? ⟨lb, 1, none⟩ = some (nu ub)) ∧ Hid (∃ n, n ≤ 3 ∧ (P.no ≠ 0 → n = 0) ∧ Am Rep w w' p q F ⟨P.sl, A.fr, A.wr + n⟩ l lb us ub)) := fun wx hx => by
          have := push_a C hg (by omega) rr i hx.out
          rw [hP, hev] at this
          exact this
        have hlP : P.sl.length = A.sl.length := by rw [← hP]; exact push_len _ _ _
        have HPL : Hid (P.no = 0 → P.pl = -1) := fun z => by rw [← hP] at z ⊢; exact push_pl _ _ _ z
        have HPS : Hid (P.no ≠ 0 → P.sl = A.sl) := fun z => by rw [← hP] at z ⊢; exact push_sl _ _ _ z
        have HEV := Hid.mk' hev
        have HRR := Hid.mk' hRR
        have HKC := Hid.mk' C.keep
        have cH : Hid (∀ wx (A2 : Arn), A2.sl.length = A.sl.length → A2.wr ≤ 999999985 → Am Rep w wx p q F ⟨A2.sl, A.fr, A2.wr⟩ l lb us ub → Calls Try.prog 44 #[ptr q, nu i, lkU us ub] wx fun e w' => (∃ u, e = .returned u) ∧ Am Rep w w' p q F ⟨setU (setK A2.sl i (-1)) i us ub, A.fr, A2.wr + 1⟩ l lb us ub) := fun wx A2 h1 h2 hx => hang_a C (good_sl hg h1) (by show A2.wr ≤ _; omega) i hti hx
        have cS : Hid (∀ wx (A2 : Arn), A2.sl.length = A.sl.length → A2.wr ≤ 999999989 → Am Rep w wx p q F ⟨A2.sl, A.fr, A2.wr⟩ l lb us ub → Calls Try.prog 28 #[ptr q, lkU us ub, nu P.ans] wx fun e w' => (∃ u, e = .returned u) ∧ LeftT (RepT Rep) w w' p q F ⟨setK A2.sl us P.ans, A.fr, A2.wr + 1⟩ l) := fun wx A2 h1 h2 hx => by
          have := setLast_a C (good_sl hg h1) (by show A2.wr ≤ _; omega) P.ans (fun _ => htu) hx
          rw [if_neg h0, if_neg h0] at this
          exact this
        clear hP hrr hev hRR hg C
        have h0' := trivial
        clear h hB0 hL0 hW0 hlb HL0 hA0 hu e0 hR hp htu hne h0' hlt
        go_enter Try.func21, Try.ntmps21
        go_upto_region 1 with fail
        rw [HW0.out, HLB.out]
        go_wp2_with fail
        refine cU.out.mono ?_
        rintro e w1 ⟨rfl, ha1⟩
        have HA1 := Hid.mk' ha1
        obtain ⟨_, y0, y1⟩ := ha1.read
        clear ha1 cU HW0 HLB HB0
        go_wp2_with fail
        refine (cR0.out _ HA1.out).mono ?_
        rintro e w2 ⟨rfl, ha2⟩
        have HA2 := Hid.mk' ha2
        clear y0 y1 HA1 cR0
        obtain ⟨_, y0, y1⟩ := ha2.read
        clear ha2
        go_wp2_with fail
        refine (cK.out _ HA2.out).mono ?_
        rintro e w3 ⟨rfl, ha3⟩
        have HA3 := Hid.mk' ha3
        clear ha3 y0 y1 HA2 cK
        go_upto_region 9 with fail
        have HTD : Hid (Am Rep w w3.drew p q F A l lb us ub) := HA3.out.drew HKC.out
        have HSD : Hid (w3.drew.cell? ⟨q, 0, none⟩ = some (ptr p) ∧ w3.drew.cell? ⟨lb, 0, none⟩ = some (nu us) ∧ w3.drew.cell? ⟨lb, 1, none⟩ = some (nu ub)) := HTD.out.read
        obtain ⟨z0, z1, z2⟩ := HA3.out.read
        go_region_held3 (fun w' => w'.cell? ⟨q, 0, none⟩ = some (ptr p) ∧ w'.cell? ⟨lb, 0, none⟩ = some (nu us) ∧ w'.cell? ⟨lb, 1, none⟩ = some (nu ub)) (first | assumption | exact HSD.out | exact hs5 | exact hs6 | fail) (first | (go_at_call 27; with_reducible refine (cR.out _ HTD.out).mono ?_; rintro e w5 ⟨rfl, hs5, hQ5⟩) | (go_at_call 30; with_reducible refine (cP.out _ hQ5).mono ?_; rintro e w6 ⟨rfl, hs6, hQ6⟩) | fail)
        clear cR cP HTD HSD hQ5 hs5 z0 z1 z2 HA3
        obtain ⟨n, hn3, hn0, ha6⟩ := hQ6.out
        clear hQ6
        by_cases hno : P.no = 0
        · obtain rfl : ev = .nilIface := by rw [← HEV.out, hno, HPL.out hno]; rfl
          have HR2 : Hid (R = _) := HRR.out.trans (if_neg (fun z => z hno))
          clear HRR HEV HPL HPS hno hn0
          have HA6 := Hid.mk' ha6
          clear ha6
          obtain ⟨y0, y1, y2⟩ := hs6
          have c7 := Hid.mk' (cH.out w6 ⟨P.sl, A.fr, A.wr + n⟩ hlP (by show A.wr + n ≤ _; omega) HA6.out)
          clear cH
          go_wp2_with fail
          refine c7.out.mono ?_
          rintro e w7 ⟨⟨u7, rfl⟩, ha7⟩
          clear c7 HA6 y0 y1 y2
          have c8 := Hid.mk' (cS.out w7 ⟨setU (setK P.sl i (-1)) i us ub, A.fr, A.wr + n + 1⟩ (by show (setU (setK P.sl i (-1)) i us ub).length = _; rw [setU_len, setK_len]; exact hlP) (by show A.wr + n + 1 ≤ _; omega) ha7)
          clear cS
          obtain ⟨_, y1, y2⟩ := ha7.read
          clear ha7
          go_wp2_with fail
          refine c8.out.mono ?_
          rintro e w8 ⟨⟨u8, rfl⟩, hl8⟩
          have HL8 := Hid.mk' hl8
          clear hl8 c8
          go_wp2
          go_ret
          rw [HR2.out]
          exact ⟨rfl, n + 2, by omega, fun z => absurd rfl z, HL8.out⟩
        · obtain ⟨t, v, hev⟩ := errP_no P.no P.pl hno
          have HR2 : Hid (R = _) := HRR.out.trans (if_pos hno)
          have HE2 : Hid (ev = errP P.no P.pl) := HEV.out.symm
          obtain rfl : ev = .iface t v := by rw [← HEV.out, hev]
          have hz := hn0 hno
          subst hz
          have HL6 : Hid (LeftT (RepT Rep) w w6 p q F ⟨A.sl, A.fr, A.wr + 0⟩ l) := by have := ha6.left; rw [HPS.out hno] at this; exact this
          clear HRR HEV HPL HPS hno hn0 ha6 hev hs6
          go_wp2
          go_ret
          rw [HR2.out]
          exact ⟨by rw [← HE2.out]; rfl, 0, by omega, fun _ => rfl, HL6.out⟩
      · have hRR := add_par A.sl l i us ub hu h0 hp
        rw [hR] at hRR
        subst hRR
        dsimp only
        rw [errE_no _ hp] at cK
        have hpe : errP (parE A.sl i us ub) (-1) = errE (parE A.sl i us ub) := rfl
        rw [hpe, errE_no _ hp]
        generalize parE A.sl i us ub = u at *
        clear h hB0 hL0 hW0 hlb HL0 hA0 hu e0 hR hp hlt hpe
        go_enter Try.func21, Try.ntmps21
        go_upto_region 1 with fail
        rw [HW0.out, HLB.out]
        go_wp2_with fail
        refine cU.out.mono ?_
        rintro e w1 ⟨rfl, ha1⟩
        have HA1 := Hid.mk' ha1
        obtain ⟨_, y0, y1⟩ := ha1.read
        clear ha1 cU HW0 HLB HB0
        go_wp2_with fail
        refine (cR0.out _ HA1.out).mono ?_
        rintro e w2 ⟨rfl, ha2⟩
        have HA2 := Hid.mk' ha2
        clear y0 y1 HA1 cR0
        obtain ⟨_, y0, y1⟩ := ha2.read
        clear ha2
        go_wp2_with fail
        refine (cK.out _ HA2.out).mono ?_
        rintro e w3 ⟨rfl, ha3⟩
        have HA3 := Hid.mk' ha3
        clear ha3 y0 y1 HA2 cK
        go_wp2
        go_ret
        exact ⟨rfl, 0, by omega, fun _ => rfl, HL0'.out _ HA3.out⟩
  · have hRR := add_used A.sl l i us ub hu
    rw [hR] at hRR
    subst hRR
    dsimp only
    rw [errE_no _ hu] at cU
    have hpe : errP (usedE A.sl i) (-1) = errE (usedE A.sl i) := rfl
    rw [hpe, errE_no _ hu]
    generalize usedE A.sl i = u at *
    clear h hB0 hL0 hW0 hlb HL0 hA0 hu hR hlt hpe
    go_enter Try.func21, Try.ntmps21
    go_upto_region 1 with fail
    rw [HW0.out, HLB.out]
    go_wp2_with fail
    refine cU.out.mono ?_
    rintro e w1 ⟨rfl, ha1⟩
    have HA1 := Hid.mk' ha1
    clear ha1 cU
    go_wp2
    go_ret
    exact ⟨rfl, 0, by omega, fun _ => rfl, HL0'.out _ HA1.out⟩
end
end Tr
end Go.Proofs.Ythabnombfbehkaa
/- The program's trees: Cut. -/
namespace Go.Proofs.Ythabnombfbehkaa
set_option linter.ambiguousOpen false
open Go.RowKit
namespace Tr
open An Rg Ft Lv
set_option linter.unusedSimpArgs false
set_option linter.unusedVariables false

theorem cut_used (S : List Slt) (l i us ub : Int) (h : usedE S i ≠ 0) : cutU S l i us ub = ⟨usedE S i, -1, S, l⟩ := if_pos h

theorem cut_gone (S : List Slt) (l i us ub : Int) (h : usedE S i = 0) (h0 : ub ≠ 0) (hp : ¬ isUp S us ub) : cutU S l i us ub = ⟨10, -1, S, l⟩ := by
  unfold cutU
  rw [if_neg (by omega), if_pos ⟨h0, hp⟩]

theorem cut_ring (S : List Slt) (l i us ub : Int) (h : usedE S i = 0) (hp : ub ≠ 0 → isUp S us ub) : cutU S l i us ub = if (drop S (ringOf S l us ub) i).no ≠ 0 then ⟨(drop S (ringOf S l us ub) i).no, (drop S (ringOf S l us ub) i).pl, S, l⟩ else if ub = 0 then ⟨0, -1, (drop S (ringOf S l us ub) i).sl, (drop S (ringOf S l us ub) i).ans⟩ else ⟨0, -1, setK (drop S (ringOf S l us ub) i).sl us (drop S (ringOf S l us ub) i).ans, l⟩ := by
  unfold cutU
  rw [if_neg (by omega), if_neg (fun q => q.2 (hp q.1))]
  split
  · rfl
  · by_cases h0 : ub = 0
    · rw [if_pos h0, if_pos h0]
      unfold ringOf
      rw [if_pos h0]
    · rw [if_neg h0, if_neg h0]
      unfold ringOf
      rw [if_neg h0]

section
variable {Rep : World → Nat → (Nat → Prop) → Arn → Prop}

theorem isRoot_a (C : ArC Rep) {w0 w : World} {p q lb : Nat} {F0 : Nat → Prop} {A : Arn} {l us ub : Int} (h : Am Rep w0 w p q F0 A l lb us ub) :
    Calls Try.prog 24 #[lkU us ub] w fun e w' => e = .returned (.bool (ub == 0)) ∧ Am Rep w0 w' p q F0 A l lb us ub := by
  refine (isRoot_p us ub w).mono ?_
  rintro e w' ⟨rfl, hb⟩
  exact ⟨rfl, h.below C.keep hb⟩

theorem isThere_a (C : ArC Rep) {w0 w : World} {p q lb : Nat} {F0 : Nat → Prop} {A : Arn} {l us ub : Int} (hg : An.Good A) (h : Am Rep w0 w p q F0 A l lb us ub) :
    Calls Try.prog 25 #[ptr q, lkU us ub] w fun e w' => e = .returned (.bool (decide (isUp A.sl us ub))) ∧ Am Rep w0 w' p q F0 A l lb us ub := by
  obtain ⟨F, h1, _⟩ := id h
  refine (isThere_p C w p q F A l us ub h1 hg).mono ?_
  rintro e w' ⟨rfl, hb⟩
  exact ⟨rfl, h.below C.keep hb⟩

set_option maxRecDepth 100000 in
set_option maxHeartbeats 4000000 in
theorem cut_p (C : ArC Rep) (w : World) (p q : Nat) (F : Nat → Prop) (A : Arn) (l i : Int) (h : RepT Rep w p q F A l) (hg : An.Good A) (hwr : A.wr ≤ 999999980) :
    Calls Try.prog 8 #[ptr q, nu i] w fun e w' => e = .returned (errP (cutT A.sl l i).no (cutT A.sl l i).pl) ∧ ∃ n, n ≤ 8 ∧ ((cutT A.sl l i).no ≠ 0 → n = 0) ∧ LeftT (RepT Rep) w w' p q F ⟨(cutT A.sl l i).sl, A.fr, A.wr + n⟩ (cutT A.sl l i).last := by
  have cU := Hid.mk' (checkUsed_p C w p q F A l i h hg)
  have HL0' : Hid (∀ wx, Below w.heap.size w wx → LeftT (RepT Rep) w wx p q F ⟨A.sl, A.fr, A.wr + 0⟩ l) := fun wx hx => leftT_self C.keep h hx
  unfold cutT
  obtain ⟨R, hR⟩ : ∃ R, cutU A.sl l i (at' A.sl i).s.us (at' A.sl i).s.ub = R := ⟨_, rfl⟩
  rw [hR]
  by_cases hu : usedE A.sl i = 0
  · rw [hu] at cU
    have e0 : errE 0 = .nilIface := rfl
    rw [e0] at cU
    have hti := used_there hu
    have cs : Hid (∀ wx, Below w.heap.size w wx → Calls Try.prog 23 #[ptr q, nu i] wx fun e w' => e = .returned (.tuple #[(at' A.sl i).v, .bool true]) ∧ Below w.heap.size w w') := fun wx hb => by
      have := slot_h C w p q F A l i h hg wx hb
      rw [decide_eq_true hti, at_there hti] at this
      exact this
    obtain ⟨x, hx⟩ : ∃ x, at' A.sl i = x := ⟨_, rfl⟩
    rw [hx] at cs hR
    have HAM : Hid (∀ wx, Below w.heap.size w wx → Am Rep w (wx.alloc (.cells #[nu x.s.us, nu x.s.ub] 43)) p q F A l wx.heap.size x.s.us x.s.ub) := fun wx hb => by
      have hb2 : Below w.heap.size w (wx.alloc (.cells #[nu x.s.us, nu x.s.ub] 43)) := hb.alloc hb.size _
      exact ⟨F, h.below C.keep hb2, Keep.of_below hb2, Goes.refl _ _, lnl_new _ _ _, fun e => by have := h.lt C.keep _ e; have := hb.size; omega, hb.size⟩
    obtain ⟨us, hus⟩ : ∃ us, x.s.us = us := ⟨_, rfl⟩
    obtain ⟨ub, hub⟩ : ∃ ub, x.s.ub = ub := ⟨_, rfl⟩
    rw [hus, hub] at HAM hR
    have cRt : Hid (∀ wx lb, Am Rep w wx p q F A l lb us ub → Calls Try.prog 24 #[lkU us ub] wx fun e w' => e = .returned (.bool (ub == 0)) ∧ Am Rep w w' p q F A l lb us ub) := fun wx lb hx => isRoot_a C hx
    by_cases h0 : ub = 0
    · have hb0 : (ub == 0) = true := by simpa using h0
      simp only [hb0] at cRt
      have hRR := cut_ring A.sl l i us ub hu (fun q => absurd h0 q)
      rw [hR, if_pos h0] at hRR
      obtain ⟨rr, hrr⟩ : ∃ rr, ringOf A.sl l us ub = rr := ⟨_, rfl⟩
      obtain ⟨P, hP⟩ : ∃ P, drop A.sl rr i = P := ⟨_, rfl⟩
      rw [hrr, hP] at hRR
      have cR : Hid (∀ wx lb, Am Rep w wx p q F A l lb us ub → Calls Try.prog 27 #[ptr q, lkU us ub] wx fun e w' => e = .returned (nu rr) ∧ (w'.cell? ⟨q, 0, none⟩ = some (ptr p) ∧ w'.cell? ⟨lb, 0, none⟩ = some (nu us) ∧ w'.cell? ⟨lb, 1, none⟩ = some (nu ub)) ∧ Hid (Am Rep w w' p q F A l lb us ub)) := fun wx lb hx => by
        have := lastBelow_a C hg (fun z => absurd h0 z) hx
        rw [hrr] at this
        exact this
      obtain ⟨ev, hev⟩ : ∃ ev, errP P.no P.pl = ev := ⟨_, rfl⟩
      have cP : Hid (∀ wx lb, Hid (Am Rep w wx p q F A l lb us ub) → Calls Try.prog 26 #[ptr p, nu rr, nu i] wx fun e w' => e = .returned (.tuple #[nu P.ans, ev]) ∧ (w'.cell? ⟨q, 0, none⟩ = some (ptr p) ∧ w'.cell? ⟨lb, 0, none⟩ = some (nu us) ∧ w'.cell? ⟨lb, 1, none⟩ = some (nu ub)) ∧ Hid (∃ n, n ≤ 3 ∧ (P.no ≠ 0 → n = 0) ∧ Am Rep w w' p q F ⟨P.sl, A.fr, A.wr + n⟩ l lb us ub)) := fun wx lb hx => by
        have := drop_a C hg (by omega) rr i hx.out
        rw [hP, hev] at this
        exact this
      have hlP : P.sl.length = A.sl.length := by rw [← hP]; exact drop_len _ _ _
      have HPL : Hid (P.no = 0 → P.pl = -1) := fun z => by rw [← hP] at z ⊢; exact drop_pl _ _ _ z
      have HPS : Hid (P.no ≠ 0 → P.sl = A.sl) := fun z => by rw [← hP] at z ⊢; exact drop_sl _ _ _ z
      have HEV := Hid.mk' hev
      have HRR := Hid.mk' hRR
      have HKC := Hid.mk' C.keep
      have cS : Hid (∀ wx lb (A2 : Arn), A2.sl.length = A.sl.length → A2.wr ≤ 999999989 → Am Rep w wx p q F ⟨A2.sl, A.fr, A2.wr⟩ l lb us ub → Calls Try.prog 28 #[ptr q, lkU us ub, nu P.ans] wx fun e w' => (∃ u, e = .returned u) ∧ LeftT (RepT Rep) w w' p q F ⟨A2.sl, A.fr, A2.wr⟩ P.ans) := fun wx lb A2 h1 h2 hx => by
        have := setLast_a C (good_sl hg h1) (by show A2.wr ≤ _; omega) P.ans (fun z => absurd h0 z) hx
        rw [if_pos h0, if_pos h0] at this
        exact this
      clear hP hrr hev hRR hg C
      clear h hu e0 hR hx hti h0
      go_enter Try.func8, Try.ntmps8
      go_wp2_with fail
      refine cU.out.mono ?_
      rintro e w0 ⟨rfl, hb0'⟩
      have HB0 := Hid.mk' hb0'
      clear hb0' cU
      go_wp2_with fail
      refine (cs.out _ HB0.out).mono ?_
      rintro e w1 ⟨rfl, hb1⟩
      have HB1 := Hid.mk' hb1
      have HZ := Hid.mk' (lone_zero w1)
      have HBZ : Hid (Below w.heap.size w (w1.alloc (.cells sltZ 49))) := HB1.out.alloc HB1.out.size _
      clear hb1 cs
      go_upto_region 6 with (first | (refine wpList_store_lone rfl _ _ rfl w1.heap.size rfl x rfl slt0 HZ.out ?_; intro w2 hl2 hg2 hs2; have HB2 : Hid (Below w.heap.size w w2) := (HBZ.out.grown hg2 HBZ.out.size (fun r e => by cases e; exact HB1.out.size)); have hc7 := hl2.cells.2.2.2.2.2.2.2.1; have hc8 := hl2.cells.2.2.2.2.2.2.2.2.1; rw [hus] at hc7; rw [hub] at hc8; clear hl2 hg2 hs2) | fail)
      have HA3 := Hid.mk' (HAM.out w2 HB2.out)
      clear HAM HB2 HZ HBZ HB1 HB0 hc7 hc8
      obtain ⟨lb, hlb⟩ : ∃ lb, w2.heap.size = lb := ⟨_, rfl⟩
      rw [hlb] at HA3
      simp only [hlb]
      clear hlb
      generalize w2.alloc (.cells #[nu us, nu ub] 43) = w3 at *
      obtain ⟨_, y0, y1⟩ := HA3.out.read
      go_upto_region 8 with (first | (go_at_call 24; refine (cRt.out _ _ HA3.out).mono ?_; rintro e w4 ⟨rfl, ha4⟩; have HA4 := Hid.mk' ha4; clear ha4) | fail)
      clear cRt HA3 y0 y1
      have HTD : Hid (Am Rep w w4.drew p q F A l lb us ub) := HA4.out.drew HKC.out
      have HSD : Hid (w4.drew.cell? ⟨q, 0, none⟩ = some (ptr p) ∧ w4.drew.cell? ⟨lb, 0, none⟩ = some (nu us) ∧ w4.drew.cell? ⟨lb, 1, none⟩ = some (nu ub)) := HTD.out.read
      obtain ⟨z0, z1, z2⟩ := HA4.out.read
      go_region_held3 (fun w' => w'.cell? ⟨q, 0, none⟩ = some (ptr p) ∧ w'.cell? ⟨lb, 0, none⟩ = some (nu us) ∧ w'.cell? ⟨lb, 1, none⟩ = some (nu ub)) (first | assumption | exact HSD.out | exact hs5 | exact hs6 | fail) (first | (go_at_call 27; with_reducible refine (cR.out _ _ HTD.out).mono ?_; rintro e w5 ⟨rfl, hs5, hQ5⟩) | (go_at_call 26; with_reducible refine (cP.out _ _ hQ5).mono ?_; rintro e w6 ⟨rfl, hs6, hQ6⟩) | fail)
      clear cR cP HTD HSD hQ5 hs5 z0 z1 z2 HA4
      obtain ⟨n, hn3, hn0, ha6⟩ := hQ6.out
      clear hQ6
      by_cases hno : P.no = 0
      · obtain rfl : ev = .nilIface := by rw [← HEV.out, hno, HPL.out hno]; rfl
        have HR2 : Hid (R = _) := HRR.out.trans (if_neg (fun z => z hno))
        clear HRR HEV HPL HPS hno hn0
        have HA6 := Hid.mk' ha6
        clear ha6
        obtain ⟨y0, y1, y2⟩ := hs6
        have c8 := Hid.mk' (cS.out w6 _ ⟨P.sl, A.fr, A.wr + n⟩ hlP (by show A.wr + n ≤ _; omega) HA6.out)
        clear cS HA6
        go_wp2_with fail
        refine c8.out.mono ?_
        rintro e w8 ⟨⟨u8, rfl⟩, hl8⟩
        have HL8 := Hid.mk' hl8
        clear hl8 c8
        go_wp2
        go_ret
        rw [HR2.out]
        exact ⟨rfl, n, by omega, fun z => absurd rfl z, HL8.out⟩
      · obtain ⟨t, v, hev⟩ := errP_no P.no P.pl hno
        have HR2 : Hid (R = _) := HRR.out.trans (if_pos hno)
        have HE2 : Hid (ev = errP P.no P.pl) := HEV.out.symm
        obtain rfl : ev = .iface t v := by rw [← HEV.out, hev]
        have hz := hn0 hno
        subst hz
        have HL6 : Hid (LeftT (RepT Rep) w w6 p q F ⟨A.sl, A.fr, A.wr + 0⟩ l) := by have := ha6.left; rw [HPS.out hno] at this; exact this
        clear HRR HEV HPL HPS hno hn0 ha6 hev hs6
        go_wp2
        go_ret
        rw [HR2.out]
        exact ⟨by rw [← HE2.out]; rfl, 0, by omega, fun _ => rfl, HL6.out⟩
    · have hb0 : (ub == 0) = false := by simpa using h0
      simp only [hb0] at cRt
      have cT : Hid (∀ wx lb, Am Rep w wx p q F A l lb us ub → Calls Try.prog 25 #[ptr q, lkU us ub] wx fun e w' => e = .returned (.bool (decide (isUp A.sl us ub))) ∧ Am Rep w w' p q F A l lb us ub) := fun wx lb hx => isThere_a C hg hx
      by_cases hp : isUp A.sl us ub
      · simp only [decide_eq_true hp] at cT
        have hRR := cut_ring A.sl l i us ub hu (fun _ => hp)
        rw [hR, if_neg h0] at hRR
        obtain ⟨rr, hrr⟩ : ∃ rr, ringOf A.sl l us ub = rr := ⟨_, rfl⟩
        obtain ⟨P, hP⟩ : ∃ P, drop A.sl rr i = P := ⟨_, rfl⟩
        rw [hrr, hP] at hRR
        have cR : Hid (∀ wx lb, Am Rep w wx p q F A l lb us ub → Calls Try.prog 27 #[ptr q, lkU us ub] wx fun e w' => e = .returned (nu rr) ∧ (w'.cell? ⟨q, 0, none⟩ = some (ptr p) ∧ w'.cell? ⟨lb, 0, none⟩ = some (nu us) ∧ w'.cell? ⟨lb, 1, none⟩ = some (nu ub)) ∧ Hid (Am Rep w w' p q F A l lb us ub)) := fun wx lb hx => by
          have := lastBelow_a C hg (fun _ => hp.1) hx
          rw [hrr] at this
          exact this
        obtain ⟨ev, hev⟩ : ∃ ev, errP P.no P.pl = ev := ⟨_, rfl⟩
        have cP : Hid (∀ wx lb, Hid (Am Rep w wx p q F A l lb us ub) → Calls Try.prog 26 #[ptr p, nu rr, nu i] wx fun e w' => e = .returned (.tuple #[nu P.ans, ev]) ∧ (w'.cell? ⟨q, 0, none⟩ = some (ptr p) ∧ w'.cell? ⟨lb, 0, none⟩ = some (nu us) ∧ w'.cell? ⟨lb, 1, none⟩ = some (nu ub)) ∧ Hid (∃ n, n ≤ 3 ∧ (P.no ≠ 0 → n = 0) ∧ Am Rep w w' p q F ⟨P.sl, A.fr, A.wr + n⟩ l lb us ub)) := fun wx lb hx => by
          have := drop_a C hg (by omega) rr i hx.out
          rw [hP, hev] at this
          exact this
        have hlP : P.sl.length = A.sl.length := by rw [← hP]; exact drop_len _ _ _
        have HPL : Hid (P.no = 0 → P.pl = -1) := fun z => by rw [← hP] at z ⊢; exact drop_pl _ _ _ z
        have HPS : Hid (P.no ≠ 0 → P.sl = A.sl) := fun z => by rw [← hP] at z ⊢; exact drop_sl _ _ _ z
        have HEV := Hid.mk' hev
        have HRR := Hid.mk' hRR
        have HKC := Hid.mk' C.keep
        have cS : Hid (∀ wx lb (A2 : Arn), A2.sl.length = A.sl.length → A2.wr ≤ 999999989 → Am Rep w wx p q F ⟨A2.sl, A.fr, A2.wr⟩ l lb us ub → Calls Try.prog 28 #[ptr q, lkU us ub, nu P.ans] wx fun e w' => (∃ u, e = .returned u) ∧ LeftT (RepT Rep) w w' p q F ⟨setK A2.sl us P.ans, A.fr, A2.wr + 1⟩ l) := fun wx lb A2 h1 h2 hx => by
          have := setLast_a C (good_sl hg h1) (by show A2.wr ≤ _; omega) P.ans (fun _ => hp.1) hx
          rw [if_neg h0, if_neg h0] at this
          exact this
        clear hP hrr hev hRR hg C
        clear h hu e0 hR hx hti h0 hp
        go_enter Try.func8, Try.ntmps8
        go_wp2_with fail
        refine cU.out.mono ?_
        rintro e w0 ⟨rfl, hb0'⟩
        have HB0 := Hid.mk' hb0'
        clear hb0' cU
        go_wp2_with fail
        refine (cs.out _ HB0.out).mono ?_
        rintro e w1 ⟨rfl, hb1⟩
        have HB1 := Hid.mk' hb1
        have HZ := Hid.mk' (lone_zero w1)
        have HBZ : Hid (Below w.heap.size w (w1.alloc (.cells sltZ 49))) := HB1.out.alloc HB1.out.size _
        clear hb1 cs
        go_upto_region 6 with (first | (refine wpList_store_lone rfl _ _ rfl w1.heap.size rfl x rfl slt0 HZ.out ?_; intro w2 hl2 hg2 hs2; have HB2 : Hid (Below w.heap.size w w2) := (HBZ.out.grown hg2 HBZ.out.size (fun r e => by cases e; exact HB1.out.size)); have hc7 := hl2.cells.2.2.2.2.2.2.2.1; have hc8 := hl2.cells.2.2.2.2.2.2.2.2.1; rw [hus] at hc7; rw [hub] at hc8; clear hl2 hg2 hs2) | fail)
        have HA3 := Hid.mk' (HAM.out w2 HB2.out)
        clear HAM HB2 HZ HBZ HB1 HB0 hc7 hc8
        obtain ⟨lb, hlb⟩ : ∃ lb, w2.heap.size = lb := ⟨_, rfl⟩
        rw [hlb] at HA3
        simp only [hlb]
        clear hlb
        generalize w2.alloc (.cells #[nu us, nu ub] 43) = w3 at *
        obtain ⟨_, y0, y1⟩ := HA3.out.read
        go_upto_region 8 with (first | (go_at_call 24; refine (cRt.out _ _ HA3.out).mono ?_; rintro e w9 ⟨rfl, ha9⟩; have HA9 := Hid.mk' ha9; obtain ⟨_, y3, y4⟩ := ha9.read; clear ha9) | (go_at_call 25; refine (cT.out _ _ HA9.out).mono ?_; rintro e w4 ⟨rfl, ha4⟩; have HA4 := Hid.mk' ha4; clear ha4) | fail)
        clear cRt cT HA3 y0 y1 y3 y4 HA9
        have HTD : Hid (Am Rep w w4.drew p q F A l lb us ub) := HA4.out.drew HKC.out
        have HSD : Hid (w4.drew.cell? ⟨q, 0, none⟩ = some (ptr p) ∧ w4.drew.cell? ⟨lb, 0, none⟩ = some (nu us) ∧ w4.drew.cell? ⟨lb, 1, none⟩ = some (nu ub)) := HTD.out.read
        obtain ⟨z0, z1, z2⟩ := HA4.out.read
        go_region_held3 (fun w' => w'.cell? ⟨q, 0, none⟩ = some (ptr p) ∧ w'.cell? ⟨lb, 0, none⟩ = some (nu us) ∧ w'.cell? ⟨lb, 1, none⟩ = some (nu ub)) (first | assumption | exact HSD.out | exact hs5 | exact hs6 | fail) (first | (go_at_call 27; with_reducible refine (cR.out _ _ HTD.out).mono ?_; rintro e w5 ⟨rfl, hs5, hQ5⟩) | (go_at_call 26; with_reducible refine (cP.out _ _ hQ5).mono ?_; rintro e w6 ⟨rfl, hs6, hQ6⟩) | fail)
        clear cR cP HTD HSD hQ5 hs5 z0 z1 z2 HA4
        obtain ⟨n, hn3, hn0, ha6⟩ := hQ6.out
        clear hQ6
        by_cases hno : P.no = 0
        · obtain rfl : ev = .nilIface := by rw [← HEV.out, hno, HPL.out hno]; rfl
          have HR2 : Hid (R = _) := HRR.out.trans (if_neg (fun z => z hno))
          clear HRR HEV HPL HPS hno hn0
          have HA6 := Hid.mk' ha6
          clear ha6
          obtain ⟨y0, y1, y2⟩ := hs6
          have c8 := Hid.mk' (cS.out w6 _ ⟨P.sl, A.fr, A.wr + n⟩ hlP (by show A.wr + n ≤ _; omega) HA6.out)
          clear cS HA6
          go_wp2_with fail
          refine c8.out.mono ?_
          rintro e w8 ⟨⟨u8, rfl⟩, hl8⟩
          have HL8 := Hid.mk' hl8
          clear hl8 c8
          go_wp2
          go_ret
          rw [HR2.out]
          exact ⟨rfl, n + 1, by omega, fun z => absurd rfl z, HL8.out⟩
        · obtain ⟨t, v, hev⟩ := errP_no P.no P.pl hno
          have HR2 : Hid (R = _) := HRR.out.trans (if_pos hno)
          have HE2 : Hid (ev = errP P.no P.pl) := HEV.out.symm
          obtain rfl : ev = .iface t v := by rw [← HEV.out, hev]
          have hz := hn0 hno
          subst hz
          have HL6 : Hid (LeftT (RepT Rep) w w6 p q F ⟨A.sl, A.fr, A.wr + 0⟩ l) := by have := ha6.left; rw [HPS.out hno] at this; exact this
          clear HRR HEV HPL HPS hno hn0 ha6 hev hs6
          go_wp2
          go_ret
          rw [HR2.out]
          exact ⟨by rw [← HE2.out]; rfl, 0, by omega, fun _ => rfl, HL6.out⟩
      · simp only [decide_eq_false hp] at cT
        have hRR := cut_gone A.sl l i us ub hu h0 hp
        rw [hR] at hRR
        subst hRR
        dsimp only
        have hpe : errP 10 (-1) = .iface 65 (.int .i64 10) := rfl
        rw [hpe]
        have HEN : Hid (∀ wx lb, Am Rep w wx p q F A l lb us ub → LeftT (RepT Rep) w wx p q F ⟨A.sl, A.fr, A.wr + 0⟩ l) := fun wx lb hx => hx.left
        clear h hu e0 hR hx hti h0 hp hpe
        go_enter Try.func8, Try.ntmps8
        go_wp2_with fail
        refine cU.out.mono ?_
        rintro e w0 ⟨rfl, hb0'⟩
        have HB0 := Hid.mk' hb0'
        clear hb0' cU
        go_wp2_with fail
        refine (cs.out _ HB0.out).mono ?_
        rintro e w1 ⟨rfl, hb1⟩
        have HB1 := Hid.mk' hb1
        have HZ := Hid.mk' (lone_zero w1)
        have HBZ : Hid (Below w.heap.size w (w1.alloc (.cells sltZ 49))) := HB1.out.alloc HB1.out.size _
        clear hb1 cs
        go_upto_region 6 with (first | (refine wpList_store_lone rfl _ _ rfl w1.heap.size rfl x rfl slt0 HZ.out ?_; intro w2 hl2 hg2 hs2; have HB2 : Hid (Below w.heap.size w w2) := (HBZ.out.grown hg2 HBZ.out.size (fun r e => by cases e; exact HB1.out.size)); have hc7 := hl2.cells.2.2.2.2.2.2.2.1; have hc8 := hl2.cells.2.2.2.2.2.2.2.2.1; rw [hus] at hc7; rw [hub] at hc8; clear hl2 hg2 hs2) | fail)
        have HA3 := Hid.mk' (HAM.out w2 HB2.out)
        clear HAM HB2 HZ HBZ HB1 HB0 hc7 hc8
        obtain ⟨lb, hlb⟩ : ∃ lb, w2.heap.size = lb := ⟨_, rfl⟩
        rw [hlb] at HA3
        simp only [hlb]
        clear hlb
        generalize w2.alloc (.cells #[nu us, nu ub] 43) = w3 at *
        obtain ⟨_, y0, y1⟩ := HA3.out.read
        go_wp2_with (first | (go_at_call 24; refine (cRt.out _ _ HA3.out).mono ?_; rintro e w9 ⟨rfl, ha9⟩; have HA9 := Hid.mk' ha9; obtain ⟨_, y3, y4⟩ := ha9.read; clear ha9) | (go_at_call 25; refine (cT.out _ _ HA9.out).mono ?_; rintro e w4 ⟨rfl, ha4⟩; have HA4 := Hid.mk' ha4; clear ha4) | fail)
        go_ret
        exact ⟨rfl, 0, by omega, fun _ => rfl, HEN.out _ _ HA4.out⟩
  · have hRR := cut_used A.sl l i (at' A.sl i).s.us (at' A.sl i).s.ub hu
    rw [hR] at hRR
    subst hRR
    dsimp only
    rw [errE_no _ hu] at cU
    have hpe : errP (usedE A.sl i) (-1) = errE (usedE A.sl i) := rfl
    rw [hpe, errE_no _ hu]
    generalize usedE A.sl i = u at *
    clear h hu hR hpe hg C
    go_enter Try.func8, Try.ntmps8
    go_wp2_with fail
    refine cU.out.mono ?_
    rintro e w1 ⟨rfl, ha1⟩
    have HA1 := Hid.mk' ha1
    clear ha1 cU
    go_wp2
    go_ret
    exact ⟨rfl, 0, by omega, fun _ => rfl, HL0'.out _ HA1.out⟩
end
end Tr
end Go.Proofs.Ythabnombfbehkaa
