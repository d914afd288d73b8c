/- Arenas, here and there, the first slots of which hold what is told. -/
import Derived.Test.YtbkcpjgaoncioaaWlkS
import Derived.Test.YtbkcpjgaoncioaaArnA
namespace Go.Proofs.Ytbkcpjgaoncioaa
set_option linter.ambiguousOpen false
open Go.RowKit
namespace Wk
open An Ft Lv
set_option linter.unusedSimpArgs false
set_option linter.unusedVariables false

/-- Slots that lie there. -/
def RdSl (w : World) (v : Value) (L : List Slt) : Prop :=
  ∃ a cap, v = .slice a L.length cap ∧ L.length ≤ cap ∧ cap ≤ maxLen ∧ (0 < L.length → ∃ g o, a = some ⟨g, o, none⟩ ∧ g < w.heap.size ∧ ∀ n x, L[n]? = some x → w.rangeAt g (o + n * 17) x.cells)

theorem range_bel {w w' : World} {B g o : Nat} {cs : List Value} (h : w.rangeAt g o cs) (hb : Below B w w') (hg : g < B) : w'.rangeAt g o cs := fun j v hv => (hb.cell (p := ⟨g, o + j, none⟩) hg).trans (h j v hv)

set_option maxRecDepth 100000 in
theorem wpList_load_whenM {ops : Array Oper} {rest : List Oper} {op : Oper} {a : Act} {w : World} {Q : Exit → Act → World → Prop} (hw : Region.wanted op (yielded ops a.tmps) = true) (x : Operand) (ho : op.op = .load 52 x)
    (b o : Nat) (hx : a.eval x = .pointer (some ⟨b, o, none⟩)) (s : Slt) (hr : w.rangeAt b o s.cells)
    (h : wpList Try.prog ops Q rest (a.put op.dst (.agg s.cells.toArray)) w) : wpList Try.prog ops Q (op :: rest) a w := by
  refine wpList_step fun K hK => ?_
  rw [if_pos hw]
  exact wp_load_mid 52 x ho b o hx s.cells _ hr Try.underlying52 rfl size_slt (hK _ _ h)

/-- The first slots hold these. -/
def flS (L : List Slt) : Nat → List Slt
  | 0 => arn0.sl
  | k + 1 => (flS L k).set k (L.getD k bare)

theorem flS_len (L : List Slt) : ∀ k, (flS L k).length = 32
  | 0 => rfl
  | k + 1 => by rw [flS, List.length_set]; exact flS_len L k

theorem good_fl (L : List Slt) (k n : Nat) : An.Good ⟨flS L k, arn0.fr, n⟩ := ⟨flS_len L k, good0.nd, good0.lt⟩

/-- Both arenas. -/
def Two (Rep : World → Nat → (Nat → Prop) → Arn → Prop) (w0 w : World) (p g : Nat) (A : Arn) : Prop := ∃ F G, Pr Rep (RepA g) w0 w p g F G A A

section
variable {Rep : World → Nat → (Nat → Prop) → Arn → Prop} {w0 w w' : World} {p g : Nat} {A : Arn}

theorem keepA (base : Nat) : KeepC (RepA base) := ⟨fun h hk hn => h.keep hk hn, fun h k hk => (h.lt k hk).2⟩

theorem Two.below (H : KeepC Rep) (h : Two Rep w0 w p g A) (hb : Below w.heap.size w w') : Two Rep w0 w' p g A := by
  obtain ⟨F, G, h1⟩ := h
  exact ⟨F, G, h1.below H (keepA g) hb⟩

theorem Two.bel (h : Two Rep w0 w p g A) : Below w0.heap.size w0 w := by
  obtain ⟨F, G, h1⟩ := h
  exact h1.bel
end

set_option maxRecDepth 100000 in
set_option maxHeartbeats 4000000 in
theorem filled_any {Rep : World → Nat → (Nat → Prop) → Arn → Prop} (H : KeepC Rep) (CN : NewC Rep) (CP : PutC Rep) (v : Value) (L : List Slt) (w : World) (hR : RdSl w v L) :
    Calls Try.prog 7 #[v] w fun e w' => ∃ p g, e = .returned (.tuple #[ptr p, ptr g, .bool true]) ∧ Two Rep w w' p g ⟨flS L (min L.length 32), arn0.fr, min L.length 32⟩ := by
  obtain ⟨av, cv, rfl, hc1, hc2, hcell⟩ := hR
  obtain ⟨N, hN⟩ : ∃ N, L.length = N := ⟨_, rfl⟩
  rw [hN] at hc1 hcell ⊢
  unfold maxLen at hc2
  have hcI : (cv : Int) ≤ 9223372036854775807 := by omega
  have HN := Hid.mk' hN
  have HCL : Hid (∀ n x wx, L[n]? = some x → Below w.heap.size w wx → ∃ g o, av = some ⟨g, o, none⟩ ∧ wx.rangeAt g (o + n * 17) x.cells) := fun n x wx hx hb => by
    obtain ⟨g, o, e1, e2, e3⟩ := hcell (by have := (List.getElem?_eq_some_iff.1 hx).1; omega)
    exact ⟨g, o, e1, range_bel (e3 n x hx) hb e2⟩
  have c1 := Hid.mk' (CN w)
  have c2 : Hid (∀ wx, _) := fun wx => new_r wx
  have cP : Hid (∀ wx p g k (x : Slt), k < 32 → Two Rep w wx p g ⟨flS L k, arn0.fr, k⟩ → Calls Try.prog 21 #[ptr p, nun k, x.v] wx fun e w' => e = .returned .nilIface ∧ Hid (∃ F G, Pr Rep (RepA g) w w' p g F G ⟨(flS L k).set k x, arn0.fr, k + 1⟩ ⟨flS L k, arn0.fr, k⟩)) := fun wx p g k x hk h => by
    obtain ⟨F, G, h1⟩ := h
    have := CP wx p F ⟨flS L k, arn0.fr, k⟩ k x h1.rep (good_fl L k k) (by show k ≤ _; omega) (by omega)
    unfold Arn.put at this
    rw [if_pos (by omega)] at this
    simp only [Int.toNat_natCast] at this
    refine this.mono ?_
    rintro e w' ⟨rfl, F', g1, g2, g3⟩
    exact ⟨rfl, F', G, h1.turn1 (keepA g) g1 ⟨by rw [List.length_set]; exact flS_len L k, good0.nd, good0.lt⟩ g2 g3⟩
  have cQ : Hid (∀ wx p g k (x : Slt), k < 32 → L.getD k bare = x → Hid (∃ F G, Pr Rep (RepA g) w wx p g F G ⟨(flS L k).set k x, arn0.fr, k + 1⟩ ⟨flS L k, arn0.fr, k⟩) → Calls Try.prog 27 #[ptr g, nun k, x.v] wx fun e w' => e = .returned (nu 0) ∧ Hid (Two Rep w w' p g ⟨flS L (k + 1), arn0.fr, k + 1⟩)) := fun wx p g k x hk hx h => by
    obtain ⟨F, G, h1⟩ := h.out
    have := put_r g wx g G ⟨flS L k, arn0.fr, k⟩ k x h1.ref (good_fl L k k) (by show k ≤ _; omega)
    unfold Arn.put at this
    rw [if_pos (by omega)] at this
    simp only [Int.toNat_natCast] at this
    refine this.mono ?_
    rintro e w' ⟨rfl, G', g1, g2, g3⟩
    refine ⟨rfl, F, G', ?_⟩
    have h2 := h1.turn2 H g1 ⟨by rw [List.length_set]; exact flS_len L k, good0.nd, good0.lt⟩ g2 g3
    rw [flS, hx]
    exact h2
  have HH := Hid.mk' H
  clear hcell hN CN CP H
  go_enter Try.func7, Try.ntmps7
  go_wp2_with fail
  refine c1.out.mono ?_
  rintro e w1 ⟨p, F, rfl, hr1, hf1, hb1⟩
  have HR1 : Hid (Rep w1 p F arn0 ∧ (∀ k, F k → w.heap.size ≤ k) ∧ Below w.heap.size w w1) := ⟨hr1, hf1, hb1⟩
  clear hr1 hf1 hb1 c1
  go_wp2_with fail
  refine (c2.out _).mono ?_
  rintro e w2 ⟨G, rfl, hr2, hb2⟩
  have HT2 : Hid (Two Rep w w2 p w1.heap.size ⟨flS L 0, arn0.fr, 0⟩) := by
    obtain ⟨z1, z2, z3⟩ := HR1.out
    refine ⟨F, G, HH.out.below z1 hb2, hr2, fun k hk e => ?_, z2, fun k hk => Nat.le_trans z3.size (hr2.lt k hk).1, good0, good0, z3.trans (hb2.mono z3.size)⟩
    have h1 := HH.out.lt z1 k hk
    have h2 := (hr2.lt k e).1
    omega
  clear hr2 hb2 HR1 c2
  obtain ⟨g, hg⟩ : ∃ g, w1.heap.size = g := ⟨_, rfl⟩
  rw [hg] at HT2 ⊢
  clear hg
  go_wp2_with fail
  go_loopw [7] (fun iv wr => ∃ k : Nat, k ≤ N ∧ k ≤ 32 ∧ iv = nun k ∧ Hid (Two Rep w wr p g ⟨flS L k, arn0.fr, k⟩)) (fun iv _ => N - (intOf iv).toNat)
  case atStart => exact ⟨0, by omega, by omega, rfl, HT2⟩
  case round =>
    clear HT2
    obtain ⟨k, hkN, hk32, rfl, HT⟩ := hrel
    by_cases hlt : k < N
    · have hlI : (k : Int) < (N : Int) := by omega
      by_cases h32 : k < 32
      · have h3I : (k : Int) < 32 := by omega
        obtain ⟨x, hx⟩ : ∃ x, L[k]? = some x := ⟨_, List.getElem?_eq_getElem (by rw [HN.out]; exact hlt)⟩
        have hxd : L.getD k bare = x := by rw [List.getD_eq_getElem?_getD, hx]; rfl
        have HXD := Hid.mk' hxd
        have HCX : Hid (∀ wx, Below w.heap.size w wx → ∃ g o, av = some ⟨g, o, none⟩ ∧ wx.rangeAt g (o + k * 17) x.cells) := fun wx hb => HCL.out k x wx hx hb
        obtain ⟨g0, o0, rfl, hr0⟩ := HCX.out wr HT.out.bel
        have HR0 := Hid.mk' hr0
        clear hx hxd hr0
        go_wp2_with (first | (refine wpList_load_slt rfl _ rfl g0 (o0 + k * 17) rfl x HR0.out ?_) | fail)
        refine (cP.out _ _ _ _ _ h32 HT.out).mono ?_
        rintro e w3 ⟨rfl, hQ3⟩
        have HR3 : Hid (w3.rangeAt g0 (o0 + k * 17) x.cells) := by
          obtain ⟨F3, G3, h3⟩ := hQ3.out
          obtain ⟨g', o', e', hr'⟩ := HCX.out w3 h3.bel
          simp only [Option.some.injEq, Addr.mk.injEq, and_true] at e'
          obtain ⟨rfl, rfl⟩ := e'
          exact hr'
        clear HT HR0 HCX
        go_wp2_with (first | (refine wpList_load_whenM (by rfl) _ rfl g0 (o0 + k * 17) rfl x HR3.out ?_) | fail)
        refine (cQ.out _ _ _ _ _ h32 HXD.out hQ3).mono ?_
        rintro e w4 ⟨rfl, hQ4⟩
        clear hQ3 HR3
        go_wp2
        go_roundw
        case rel => exact ⟨k + 1, by omega, by omega, by go_num, hQ4⟩
        case measure => simp [intOf]; omega
      · have h3I : ¬ (k : Int) < 32 := by omega
        have hk : min N 32 = k := by omega
        have HMN := Hid.mk' hk
        clear hk cP cQ HCL
        go_wp2
        go_ret3
        rw [HMN.out]
        exact ⟨p, g, rfl, HT.out⟩
    · have hlI : ¬ (k : Int) < (N : Int) := by omega
      have hk : min N 32 = k := by omega
      have HMN := Hid.mk' hk
      clear hk cP cQ HCL
      go_wp2
      go_ret3
      rw [HMN.out]
      exact ⟨p, g, rfl, HT.out⟩
end Wk
end Go.Proofs.Ytbkcpjgaoncioaa
