import Derived.Test.YtnllplholfhbdaaDoorEqE
import Derived.Test.YtnllplholfhbdaaDoorShape
import Derived.Test.YtnllplholfhbdaaDoorLawsB
import Derived.Lib.SmallJoins
/- An event that came in. -/
namespace Go.Proofs.YtnllplholfhbdaaDoor
set_option linter.ambiguousOpen false
open Go.ChangeShapes Go.WideShapes Go.ChangeAt Go.RowKit
set_option linter.unusedVariables false
set_option maxRecDepth 100000
namespace Ev
open Sm

theorem evt_shape : Fl.shape Tryd.prog 5 29 = [.i .i64, .i .i64, .i .i64, .i .i64, .i .i64, .i .i64, .s, .s, .i .u64, .i .i64, .i .i64, .i .i64, .i .i64, .i .i64, .i .i64] := by kernel_rfl

theorem evt_ok : Fl.okT Tryd.prog 5 29 = true := by kernel_rfl

theorem i64_ofE {a : Int} (h : (Lit.int .i64 a).wf = true) : i64 a := by
  simp [Lit.wf, IntKind.min, IntKind.max, IntKind.signed, IntKind.bits] at h
  exact ⟨by omega, by omega⟩

theorem u64_ofE {a : Int} (h : (Lit.int .u64 a).wf = true) : 0 ≤ a ∧ a < 18446744073709551616 := by
  simp [Lit.wf, IntKind.min, IntKind.max, IntKind.signed, IntKind.bits] at h
  omega

theorem u8_ofE {a : Int} (h : (Lit.int .u8 a).wf = true) : ∃ x : UInt8, a = (x.toNat : Int) := by
  simp [Lit.wf, IntKind.min, IntKind.max, IntKind.signed, IntKind.bits] at h
  refine ⟨UInt8.ofNat a.toNat, ?_⟩
  rw [UInt8.toNat_ofNat']
  omega

theorem wf_i64 {a : Int} (h : (Lit.int .i64 a).wf = true) : -9223372036854775808 ≤ a ∧ a ≤ 9223372036854775807 := i64_ofE h

theorem text_ofE {f : ByteArray} : ∃ l : List UInt8, f = tx l ∧ f.size = l.length := ⟨f.data.toList, rfl, rfl⟩

theorem evt_open {H : Type} {enc : TypeId × Value → H} {W : World} {base b0 : Nat} {r : Reach} {sp : Nat → Bool} {held : Bool} {v : Value} {d : DataW H} {p : List MemPlace}
    (hv : Value.okWide Tryd.prog W r b0 29 v) (h : DataW.Trod enc Tryd.prog W base sp held 29 v d p) :
    ∃ e : Evt, v = .agg e.arr ∧ e.rng ∧ (0 ≤ e.s.scopes ∧ e.s.scopes < 18446744073709551616) ∧ e.s.user.length ≤ 9223372036854775807 ∧ e.s.label.length ≤ 9223372036854775807 := by
  obtain ⟨cs, rfl, hsz⟩ := okWide_struct Tryd.underlying29 hv
  obtain ⟨fuel, hf⟩ := h
  have hc : (Value.agg cs).cells.toList = cs.toList := rfl
  rw [hc] at hf
  have e2 := Fl.flat_of 5 29 _ _ _ _ evt_ok hf
  have hm := Fl.shape_of 5 29 _ _ _ _ evt_ok hf
  rw [← e2, evt_shape] at hm
  obtain ⟨_, cs0, a0, ⟨f0, rfl, w0⟩, g0⟩ := Fl.M2.out hm
  obtain ⟨_, cs1, rfl, ⟨f1, rfl, w1⟩, g1⟩ := Fl.M2.out g0
  obtain ⟨_, cs2, rfl, ⟨f2, rfl, w2⟩, g2⟩ := Fl.M2.out g1
  obtain ⟨_, cs3, rfl, ⟨f3, rfl, w3⟩, g3⟩ := Fl.M2.out g2
  obtain ⟨_, cs4, rfl, ⟨f4, rfl, w4⟩, g4⟩ := Fl.M2.out g3
  obtain ⟨_, cs5, rfl, ⟨f5, rfl, w5⟩, g5⟩ := Fl.M2.out g4
  obtain ⟨_, cs6, rfl, ⟨f6, rfl, w6⟩, g6⟩ := Fl.M2.out g5
  obtain ⟨_, cs7, rfl, ⟨f7, rfl, w7⟩, g7⟩ := Fl.M2.out g6
  obtain ⟨_, cs8, rfl, ⟨f8, rfl, w8⟩, g8⟩ := Fl.M2.out g7
  obtain ⟨_, cs9, rfl, ⟨f9, rfl, w9⟩, g9⟩ := Fl.M2.out g8
  obtain ⟨_, cs10, rfl, ⟨f10, rfl, w10⟩, g10⟩ := Fl.M2.out g9
  obtain ⟨_, cs11, rfl, ⟨f11, rfl, w11⟩, g11⟩ := Fl.M2.out g10
  obtain ⟨_, cs12, rfl, ⟨f12, rfl, w12⟩, g12⟩ := Fl.M2.out g11
  obtain ⟨_, cs13, rfl, ⟨f13, rfl, w13⟩, g13⟩ := Fl.M2.out g12
  obtain ⟨_, cs14, rfl, ⟨f14, rfl, w14⟩, g14⟩ := Fl.M2.out g13
  obtain rfl := Fl.M2.nil g14
  obtain ⟨l6, rfl, z6⟩ := text_ofE (f := f6)
  obtain ⟨l7, rfl, z7⟩ := text_ofE (f := f7)
  unfold maxLen at w6 w7
  refine ⟨⟨f0, ⟨f1, f2, f3, f4, f5, l6, l7, f8, f9, f10, f11, f12⟩, f13, f14⟩, ?_, ⟨i64_ofE w0, i64_ofE w1, i64_ofE w2, i64_ofE w3, i64_ofE w4, i64_ofE w5, i64_ofE w9, i64_ofE w10, i64_ofE w11, i64_ofE w12, i64_ofE w13, i64_ofE w14⟩, u64_ofE w8, by show l6.length ≤ _; omega, by show l7.length ≤ _; omega⟩
  congr 1
  exact Array.toList_inj.1 a0
end Ev
end Go.Proofs.YtnllplholfhbdaaDoor
