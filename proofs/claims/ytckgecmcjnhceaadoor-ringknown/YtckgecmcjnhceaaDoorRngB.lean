/- The chapter's examples: slots pushed and dropped, one by one, each answer told. -/
import Derived.Test.YtckgecmcjnhceaaDoorRngL
namespace Go.Proofs.YtckgecmcjnhceaaDoor
set_option linter.ambiguousOpen false
open Go.RowKit
namespace Rg
open An Ft Lv
set_option linter.unusedSimpArgs false
set_option linter.unusedVariables false

section
variable {Rep : World → Nat → (Nat → Prop) → Arn → Prop}

theorem push_ex (CP : PushC Rep) (w0 w : World) (p : Nat) (A : Arn) (R : Nat → Prop) (last i : Int) (r : Ans) (h : Sr Rep w0 w p A R) (hw : A.wr ≤ 999999990) (hl : I64 last) (hi : I64 i) (hr : push A.sl last i = r) :
    Calls Tryd.prog 31 #[ptr p, nu last, nu i] w fun e w' => e = .returned (.tuple #[nu r.ans, errP r.no r.pl]) ∧ ∃ A', A'.wr ≤ A.wr + 3 ∧ A'.sl = r.sl ∧ Sr Rep w0 w' p A' R ∧ Kp R w w' := by
  obtain ⟨F, h1, h2, h3, h4, h5⟩ := h
  have := CP w p F A last i h1 h2 hw hl hi
  have hlen := push_len A.sl last i
  rw [hr] at this hlen
  refine this.mono ?_
  rintro e w' ⟨rfl, n, hn3, _, hl⟩
  refine ⟨rfl, ⟨r.sl, A.fr, A.wr + n⟩, Nat.add_le_add_left hn3 _, rfl, ?_⟩
  exact sr_left h3 h4 h5 (good_sl h2 hlen) hl

theorem drop_ex (CD : DropC Rep) (w0 w : World) (p : Nat) (A : Arn) (R : Nat → Prop) (last i : Int) (r : Ans) (h : Sr Rep w0 w p A R) (hw : A.wr ≤ 999999990) (hl : I64 last) (hi : I64 i) (hr : drop A.sl last i = r) :
    Calls Tryd.prog 27 #[ptr p, nu last, nu i] w fun e w' => e = .returned (.tuple #[nu r.ans, errP r.no r.pl]) ∧ ∃ A', A'.wr ≤ A.wr + 3 ∧ A'.sl = r.sl ∧ Sr Rep w0 w' p A' R ∧ Kp R w w' := by
  obtain ⟨F, h1, h2, h3, h4, h5⟩ := h
  have := CD w p F A last i h1 h2 hw hl hi
  have hlen := drop_len A.sl last i
  rw [hr] at this hlen
  refine this.mono ?_
  rintro e w' ⟨rfl, n, hn3, _, hl⟩
  refine ⟨rfl, ⟨r.sl, A.fr, A.wr + n⟩, Nat.add_le_add_left hn3 _, rfl, ?_⟩
  exact sr_left h3 h4 h5 (good_sl h2 hlen) hl
end

set_option maxRecDepth 100000 in
set_option maxHeartbeats 4000000 in
theorem laid_run {Rep : World → Nat → (Nat → Prop) → Arn → Prop} (CP : PushC Rep) (w0 w : World) (p : Nat) (A : Arn) (R : Nat → Prop) (v : Value) (l : List Nat) (T : Nat → List Slt) (Z : Nat → Int) (hT : ∀ (k x : Nat), l[k]? = some x → push (T k) (Z k) x = ⟨x, 0, -1, T (k + 1)⟩ ∧ Z (k + 1) = x ∧ I64 (Z k)) (hA : A.sl = T 0) (hZ : Z 0 = -1) (h : Sr Rep w0 w p A R) (hw : A.wr ≤ 900000000) (hR : RdO w v l) (hv : ∀ k, blk v k → R k) (hfew : l.length ≤ 32) (hl : ∀ i ∈ l, i < 32) :
    Calls Tryd.prog 36 #[ptr p, v] w fun e w' => e = .returned (.tuple #[nu (Z l.length), .bool true]) ∧ ∃ A', A'.wr ≤ A.wr + 96 ∧ A'.sl = T l.length ∧ Sr Rep w0 w' p A' R ∧ Kp R w w' := by
  have HRO := Hid.mk' hR
  obtain ⟨av, cv, rfl, hc1, hc2, _⟩ := hR
  obtain ⟨N, hN⟩ : ∃ N, l.length = N := ⟨_, rfl⟩
  rw [hN] at hc1 hfew HRO hv ⊢
  unfold maxLen at hc2
  have HN := Hid.mk' hN
  have HV := Hid.mk' hv
  have HLT := Hid.mk' hl
  have HT := Hid.mk' hT
  have HZ0 := Hid.mk' hZ
  have H0 : Hid (∃ A', A'.wr ≤ A.wr + 3 * 0 ∧ A'.sl = T 0 ∧ Sr Rep w0 w p A' R ∧ Kp R w w) := ⟨A, Nat.le_refl _, hA, h, Keep.refl _ _⟩
  have cP : Hid (∀ wx A' last x r, Sr Rep w0 wx p A' R → A'.wr ≤ 999999990 → I64 last → I64 x → push A'.sl last x = r → _) := fun wx A' last x r h1 h2 h3 h4 h5 => push_ex CP w0 wx p A' R last x r h1 h2 h3 h4 h5
  have hwI : Hid (A.wr ≤ 900000000) := hw
  have hcI : (cv : Int) ≤ 9223372036854775807 := by omega
  clear CP h hw hv hl hN hT hZ hA
  go_enter Tryd.func36, Tryd.ntmps36
  go_wp2
  go_loopw [6, 7] (fun lv iv wr => ∃ (k : Nat) (z : Int), k ≤ N ∧ iv = nun k ∧ lv = nu z ∧ Hid (z = Z k) ∧ Hid (∃ A', A'.wr ≤ A.wr + 3 * k ∧ A'.sl = T k ∧ Sr Rep w0 wr p A' R ∧ Kp R w wr)) (fun _ iv _ => N - (intOf iv).toNat)
  case atStart => exact ⟨0, -1, Nat.zero_le _, rfl, rfl, HZ0.out.symm, H0⟩
  case round =>
    clear H0 HZ0
    obtain ⟨k, z, hk, rfl, rfl, HZ, HA⟩ := hrel
    by_cases hlt : k < N
    · have hkI : (k : Int) < (N : Int) := by omega
      obtain ⟨x, hx⟩ : ∃ x, l[k]? = some x := ⟨_, List.getElem?_eq_getElem (by rw [HN.out]; exact hlt)⟩
      obtain ⟨A', a1, a2, a4, a5⟩ := HA.out
      have hx3 := HLT.out x (List.mem_of_getElem? hx)
      obtain ⟨t1, t2, t3⟩ := HT.out k x hx
      have C1 := Hid.mk' (cP.out wr A' z x ⟨x, 0, -1, T (k + 1)⟩ a4 (by have := hwI.out; omega) (by rw [HZ.out]; exact t3) (by unfold I64; omega) (by rw [a2, HZ.out]; exact t1))
      dsimp only at C1
      rw [show errP 0 (-1) = .nilIface from rfl] at C1
      have HCX : Hid (∀ wx, Kp R w wx → ∃ g o, av = some ⟨g, o, none⟩ ∧ wx.cell? ⟨g, o + k, none⟩ = some (nun x)) := fun wx hkp => by
        obtain ⟨av', cv', e, _, _, h3⟩ := HRO.out.kept hkp HV.out
        simp only [Value.slice.injEq] at e
        obtain ⟨rfl, _, rfl⟩ := e
        obtain ⟨g, o, rfl, _, hc⟩ := h3 (by rw [HN.out]; omega)
        exact ⟨g, o, rfl, hc k x hx⟩
      obtain ⟨g, o, rfl, hcx⟩ := HCX.out wr a5
      have HNEXT : Hid (∀ wx, (∃ A'', A''.wr ≤ A'.wr + 3 ∧ A''.sl = T (k + 1) ∧ Sr Rep w0 wx p A'' R ∧ Kp R wr wx) → (wx.cell? ⟨g, o + k, none⟩ = some (nun x)) ∧ ∃ A', A'.wr ≤ A.wr + 3 * (k + 1) ∧ A'.sl = T (k + 1) ∧ Sr Rep w0 wx p A' R ∧ Kp R w wx) := fun wx ⟨A'', b1, b3, b5, b6⟩ => by
        have hkk : Kp R w wx := Kp.trans a5 b6
        obtain ⟨g', o', e, hc⟩ := HCX.out wx hkk
        simp only [Option.some.injEq, Addr.mk.injEq, and_true] at e
        obtain ⟨rfl, rfl⟩ := e
        exact ⟨hc, A'', by omega, b3, b5, hkk⟩
      have HZ2 : Hid ((x : Int) = Z (k + 1)) := t2.symm
      have hxx : ((x : Int) != (x : Int)) = false := by simp
      clear hx a1 a2 a4 a5 HA HZ HCX t1 t2 t3
      go_wp2_with fail
      refine C1.out.mono ?_
      rintro e w2 ⟨rfl, hq⟩
      obtain ⟨hc2, hq2⟩ := HNEXT.out w2 hq
      have HQ2 := Hid.mk' hq2
      clear hq hq2 C1 hcx
      go_wp2
      go_roundw
      case rel => exact ⟨k + 1, (x : Int), by omega, by go_num, rfl, HZ2, HQ2⟩
      case measure => simp [intOf]; omega
    · have hkI : ¬ (k : Int) < (N : Int) := by omega
      obtain rfl : k = N := by omega
      go_wp2
      go_ret2
      obtain ⟨A', a1, a2, a4, a5⟩ := HA.out
      refine ⟨?_, A', by omega, a2, a4, a5⟩
      rw [← HZ.out]
      rfl

/-! ### The chapter's states -/

def kS0 : List Slt := arn0.sl
def kS1 : List Slt := (push kS0 (-1) 4).sl
def kS2 : List Slt := (push kS1 4 7).sl
def kS3 : List Slt := (push kS2 7 1).sl
def kS4 : List Slt := (drop kS3 1 7).sl
def kS5 : List Slt := (drop kS4 1 1).sl
def kS6 : List Slt := (drop kS5 4 4).sl

theorem ks1 : push kS0 (-1) 4 = ⟨4, 0, -1, kS1⟩ := by kernel_rfl
theorem ks2 : push kS1 4 7 = ⟨7, 0, -1, kS2⟩ := by kernel_rfl
theorem ks3 : push kS2 7 1 = ⟨1, 0, -1, kS3⟩ := by kernel_rfl
theorem ks3a : push kS3 1 1 = ⟨0, 9, -1, kS3⟩ := by kernel_rfl
theorem ks3b : push kS3 1 4 = ⟨0, 9, -1, kS3⟩ := by kernel_rfl
theorem ks3c : push kS3 1 32 = ⟨0, 1, -1, kS3⟩ := by kernel_rfl
theorem ks3d : push kS3 9 5 = ⟨0, 24, 9, kS3⟩ := by kernel_rfl
theorem ks4 : drop kS3 1 7 = ⟨1, 0, -1, kS4⟩ := by kernel_rfl
theorem ks5 : drop kS4 1 1 = ⟨4, 0, -1, kS5⟩ := by kernel_rfl
theorem ks6 : drop kS5 4 4 = ⟨-1, 0, -1, kS6⟩ := by kernel_rfl
theorem ks6a : drop kS6 4 4 = ⟨0, 24, 4, kS6⟩ := by kernel_rfl
end Rg
end Go.Proofs.YtckgecmcjnhceaaDoor
