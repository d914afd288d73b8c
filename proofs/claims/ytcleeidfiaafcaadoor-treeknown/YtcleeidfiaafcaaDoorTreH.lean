import Derived.Test.YtcleeidfiaafcaaDoorTreC
import Derived.Test.YtcleeidfiaafcaaDoorTreG
/- The outright laws' own helpers: used, list. -/
namespace Go.Proofs.YtcleeidfiaafcaaDoor
set_option linter.ambiguousOpen false
open Go.RowKit
namespace Tr
open An Rg Ft Lv
set_option linter.unusedSimpArgs false
set_option linter.unusedVariables false
attribute [local go_sem] Oper.semAt_some

/-- A tree, and blocks that are none of it. -/
def Su (R : RepTy) (w0 w : World) (p q : Nat) (A : Arn) (l : Int) (B : Nat → Prop) : Prop :=
  ∃ F, R w p q F A l ∧ An.Good A ∧ (∀ k, F k → w0.heap.size ≤ k) ∧ Below w0.heap.size w0 w ∧ ∀ k, B k → ¬ F k ∧ k < w.heap.size

@[reducible] def Kq (B : Nat → Prop) (w w' : World) : Prop := Keep (fun k => ¬ B k) w w'

section
variable {Rep : World → Nat → (Nat → Prop) → Arn → Prop} {R : RepTy} {w0 w w' : World} {p q : Nat} {A : Arn} {l : Int} {B B' : Nat → Prop}

theorem Su.bel (h : Su R w0 w p q A l B) : Below w0.heap.size w0 w := by
  obtain ⟨F, _, _, _, h4, _⟩ := h
  exact h4

theorem Su.below (C : TreeC Rep R) (h : Su R w0 w p q A l B) (hb : Below w.heap.size w w') : Su R w0 w' p q A l B := by
  obtain ⟨F, h1, h2, h3, h4, h5⟩ := h
  exact ⟨F, (C.keep q l).below h1 hb, h2, h3, h4.trans (hb.mono h4.size), fun k hk => ⟨(h5 k hk).1, Nat.lt_of_lt_of_le (h5 k hk).2 hb.size⟩⟩

theorem Su.more (C : TreeC Rep R) (h : Su R w0 w p q A l B) (hb : Below w.heap.size w w') (hB : ∀ k, B' k → B k ∨ (w.heap.size ≤ k ∧ k < w'.heap.size)) : Su R w0 w' p q A l B' := by
  obtain ⟨F, h1, h2, h3, h4, h5⟩ := h
  refine ⟨F, (C.keep q l).below h1 hb, h2, h3, h4.trans (hb.mono h4.size), fun k hk => ?_⟩
  rcases hB k hk with h6 | ⟨h6, h7⟩
  · exact ⟨(h5 k h6).1, Nat.lt_of_lt_of_le (h5 k h6).2 hb.size⟩
  · exact ⟨fun e => by have := (C.keep q l).lt h1 k e; omega, h7⟩

theorem su_left {A' : Arn} {l' : Int} {F : Nat → Prop} (h3 : ∀ k, F k → w0.heap.size ≤ k) (h4 : Below w0.heap.size w0 w) (h5 : ∀ k, B k → ¬ F k ∧ k < w.heap.size) (hg : An.Good A') (hl : LeftT R w w' p q F A' l') : Su R w0 w' p q A' l' B ∧ Kq B w w' := by
  obtain ⟨F', g1, g2, g3⟩ := hl
  refine ⟨⟨F', g1, hg, fun k hk => ?_, h4.trans (g2.below (fun k hk hc => by have := h3 k hc; omega) h4.size), fun k hk => ⟨fun e => ?_, Nat.lt_of_lt_of_le (h5 k hk).2 g2.size⟩⟩, g2.weaken (fun k _ hF hR => (h5 k hR).1 hF)⟩
  · rcases g3 k hk with e | e
    · exact h3 k e
    · exact Nat.le_trans h4.size e
  · rcases g3 k e with e | e
    · exact (h5 k hk).1 e
    · have := (h5 k hk).2
      omega

theorem add_su (C : TreeC Rep R) (i us ub : Int) (P : TAns) (h : Su R w0 w p q A l B) (hw : A.wr ≤ 999999980) (hi : I64 i) (hus : I64 us) (hub : I64 ub) (hP : addT A.sl l i us ub = P) :
    Calls Tryd.prog 6 #[ptr q, nu i, lkU us ub] w fun e w' => e = .returned (errP P.no P.pl) ∧ ∃ A', A'.wr ≤ A.wr + 8 ∧ A'.sl = P.sl ∧ A'.fr = A.fr ∧ Su R w0 w' p q A' P.last B ∧ Kq B w w' := by
  obtain ⟨F, h1, h2, h3, h4, h5⟩ := h
  have := C.add w p q F A l i us ub h1 h2 hw hi hus hub
  have hlen := addT_len A.sl l i us ub
  rw [hP] at this hlen
  refine this.mono ?_
  rintro e w' ⟨rfl, n, hn, _, hl⟩
  refine ⟨rfl, ⟨P.sl, A.fr, A.wr + n⟩, Nat.add_le_add_left hn _, rfl, rfl, ?_⟩
  exact su_left h3 h4 h5 ⟨hlen.trans h2.len, h2.nd, h2.lt⟩ hl

theorem cut_su (C : TreeC Rep R) (i : Int) (P : TAns) (h : Su R w0 w p q A l B) (hw : A.wr ≤ 999999980) (hi : I64 i) (hP : cutT A.sl l i = P) :
    Calls Tryd.prog 10 #[ptr q, nu i] w fun e w' => e = .returned (errP P.no P.pl) ∧ ∃ A', A'.wr ≤ A.wr + 8 ∧ A'.sl = P.sl ∧ A'.fr = A.fr ∧ Su R w0 w' p q A' P.last B ∧ Kq B w w' := by
  obtain ⟨F, h1, h2, h3, h4, h5⟩ := h
  have := C.cut w p q F A l i h1 h2 hw hi
  have hlen := cutT_len A.sl l i
  rw [hP] at this hlen
  refine this.mono ?_
  rintro e w' ⟨rfl, n, hn, _, hl⟩
  refine ⟨rfl, ⟨P.sl, A.fr, A.wr + n⟩, Nat.add_le_add_left hn _, rfl, rfl, ?_⟩
  exact su_left h3 h4 h5 ⟨hlen.trans h2.len, h2.nd, h2.lt⟩ hl
end

/-! ### used -/

/-- A slot that is used, with its birth number. -/
def slotU (k : Nat) : Slt := ⟨true, false, -1, -1, -1, { ses0 with birth := (k : Int) + 1 }, slt0.tx⟩

def usedS : Nat → List Slt
  | 0 => arn0.sl
  | k + 1 => (usedS k).set k (slotU k)

theorem usedS_len : ∀ k, (usedS k).length = 32
  | 0 => rfl
  | k + 1 => by rw [usedS, List.length_set]; exact usedS_len k

set_option maxRecDepth 100000 in
set_option maxHeartbeats 4000000 in
theorem used_any {Rep : World → Nat → (Nat → Prop) → Arn → Prop} {R : RepTy} (H : KeepC Rep) (CN : NewC Rep) (CP : PutC Rep) (C : TreeC Rep R) (n : Nat) (hn : n ≤ 32) (w : World) :
    Calls Tryd.prog 4 #[nun n] w fun e w' => ∃ p q, e = .returned (.tuple #[ptr p, ptr q, .bool true]) ∧ Su R w w' p q ⟨usedS n, arn0.fr, n⟩ (-1) (fun _ => False) := by
  have c1 := Hid.mk' (CN w)
  have cP : Hid (∀ wx p F k, Rep wx p F ⟨usedS k, arn0.fr, k⟩ → k < 32 → Calls Tryd.prog 13 #[ptr p, nun k, (slotU k).v] wx fun e w' => e = .returned .nilIface ∧ An.Left Rep wx w' p F ⟨usedS (k + 1), arn0.fr, k + 1⟩) := fun wx p F k h hk => by
    have := CP wx p F ⟨usedS k, arn0.fr, k⟩ k (slotU k) h ⟨usedS_len k, good0.nd, good0.lt⟩ (by show k ≤ _; omega) (by omega)
    unfold Arn.put at this
    rw [if_pos (by omega)] at this
    simp only [Int.toNat_natCast] at this
    exact this
  have cN : Hid (∀ wx p F, Rep wx p F ⟨usedS n, arn0.fr, n⟩ → Calls Tryd.prog 14 #[ptr p] wx fun e w' => ∃ q G, e = .returned (ptr q) ∧ R w' p q G ⟨usedS n, arn0.fr, n⟩ (-1) ∧ (∀ k, G k → F k ∨ wx.heap.size ≤ k) ∧ Below wx.heap.size wx w') := fun wx p F h => C.new wx p F _ h ⟨usedS_len n, good0.nd, good0.lt⟩
  have hnI : (n : Int) ≤ 32 := by omega
  have HH := Hid.mk' H
  clear H CN CP C
  go_enter Tryd.func4, Tryd.ntmps4
  go_wp2_with fail
  refine c1.out.mono ?_
  rintro e w1 ⟨p, F, rfl, hr1, hf1, hb1⟩
  have H0 : Hid (∃ F, Rep w1 p F ⟨usedS 0, arn0.fr, 0⟩ ∧ (∀ k, F k → w.heap.size ≤ k) ∧ Below w.heap.size w w1) := ⟨F, hr1, hf1, hb1⟩
  clear hr1 hf1 hb1 c1
  go_wp2_with fail
  go_loopw [6] (fun iv wr => ∃ k : Nat, k ≤ n ∧ iv = nun k ∧ Hid (∃ F, Rep wr p F ⟨usedS k, arn0.fr, k⟩ ∧ (∀ k, F k → w.heap.size ≤ k) ∧ Below w.heap.size w wr)) (fun iv _ => n - (intOf iv).toNat)
  case atStart => exact ⟨0, Nat.zero_le _, rfl, H0⟩
  case round =>
    clear H0
    obtain ⟨k, hk, rfl, HK⟩ := hrel
    obtain ⟨F1, h1, h2, h3⟩ := HK.out
    by_cases hlt : k < n
    · have hkI : (k : Int) < (n : Int) := by omega
      have C1 := Hid.mk' (cP.out wr p F1 k h1 (by omega))
      have HN : Hid (∀ w', An.Left Rep wr w' p F1 ⟨usedS (k + 1), arn0.fr, k + 1⟩ → ∃ F, Rep w' p F ⟨usedS (k + 1), arn0.fr, k + 1⟩ ∧ (∀ k, F k → w.heap.size ≤ k) ∧ Below w.heap.size w w') := fun w' ⟨F', g1, g2, g3⟩ => ⟨F', g1, fun j hj => (g3 j hj).elim (h2 j) (fun e => Nat.le_trans h3.size e), h3.trans (g2.below (fun j hj hc => by have := h2 j hc; omega) h3.size)⟩
      clear h1 h2 h3 HK
      go_wp2_with fail
      refine C1.out.mono ?_
      rintro e w2 ⟨rfl, hl⟩
      have HN2 := Hid.mk' (HN.out w2 hl)
      clear hl HN C1
      go_wp2
      go_roundw
      case rel => exact ⟨k + 1, by omega, by go_num, HN2⟩
      case measure => simp [intOf]; omega
    · have hkI : ¬ (k : Int) < (n : Int) := by omega
      obtain rfl : k = n := by omega
      have C1 := Hid.mk' (cN.out wr p F1 h1)
      have HE : Hid (∀ w' q G, R w' p q G ⟨usedS k, arn0.fr, k⟩ (-1) → (∀ j, G j → F1 j ∨ wr.heap.size ≤ j) → Below wr.heap.size wr w' → Su R w w' p q ⟨usedS k, arn0.fr, k⟩ (-1) (fun _ => False)) := fun w' q G g1 g2 g3 => ⟨G, g1, ⟨usedS_len k, good0.nd, good0.lt⟩, fun j hj => (g2 j hj).elim (h2 j) (fun e => Nat.le_trans h3.size e), h3.trans (g3.mono h3.size), fun j hj => hj.elim⟩
      clear h1 h2 h3 HK
      go_wp2_with fail
      refine C1.out.mono ?_
      rintro e w2 ⟨q, G, rfl, g1, g2, g3⟩
      have HE2 := Hid.mk' (HE.out w2 q G g1 g2 g3)
      clear g1 g2 g3 HE C1
      go_wp2
      go_ret3
      exact ⟨p, q, rfl, HE2.out⟩
end Tr
end Go.Proofs.YtcleeidfiaafcaaDoor
