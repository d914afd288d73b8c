/- A session, a request, what there is, that came in. -/
import Derived.Test.YtbgggekkkcefcaaDoorShape
import Derived.Test.YtbgggekkkcefcaaDoorGrP
import Derived.Lib.SmallJoins
import Derived.ProofKit
namespace Go.Proofs.YtbgggekkkcefcaaDoor
set_option linter.ambiguousOpen false
open Go.ChangeShapes Go.WideShapes Go.ChangeAt Go.RowKit
set_option linter.unusedVariables false
set_option maxRecDepth 100000

theorem Tryd.laidOutX : laidOutB Tryd.prog = true := by kernel_rfl

namespace Gr

theorem i64_of {a : Int} (h : (Lit.int .i64 a).wf = true) : i64 a := by
  simp [Lit.wf, IntKind.min, IntKind.max, IntKind.signed, IntKind.bits] at h
  exact ⟨by omega, by omega⟩

theorem u64_of {a : Int} (h : (Lit.int .u64 a).wf = true) : ∃ n : Nat, a = (n : Int) ∧ n < 18446744073709551616 := by
  simp [Lit.wf, IntKind.min, IntKind.max, IntKind.signed, IntKind.bits] at h
  exact ⟨a.toNat, by omega, by omega⟩

theorem fits_of {x : ByteArray} (h : x.size ≤ reachBytes) : x.size ≤ 281474976710656 := by
  unfold reachBytes at h
  omega

theorem req_shape : Fl.shape Tryd.prog 5 25 = [.s, .s, .i .u64, .i .i64, .i .i64] := by kernel_rfl

theorem req_ok : Fl.okT Tryd.prog 5 25 = true := by kernel_rfl

theorem req_open {H : Type} {enc : TypeId × Value → H} {W : World} {base b0 : Nat} {r : Reach} {sp : Nat → Bool} {held : Bool} {v : Value} {d : DataW H} {p : List MemPlace}
    (hv : Value.okWide Tryd.prog W r b0 25 v) (h : DataW.Trod enc Tryd.prog W base sp held 25 v d p) {ts : List TypeId} {ds : List (DataW H)} (hsz : (DataW.weightsEach Tryd.prog ts ds).all (· ≤ reachBytes) = true) (j : Nat) (ht : ts[j]? = some 25) (hd : ds[j]? = some d) : ∃ q : Rq, v = q.v ∧ q.fit := by
  obtain ⟨cs, rfl, hcz⟩ := okWide_struct Tryd.underlying25 hv
  obtain ⟨fuel, hf⟩ := h
  have hc : (Value.agg cs).cells.toList = cs.toList := rfl
  rw [hc] at hf
  have e2 := Fl.flat_of 5 25 _ _ _ _ req_ok hf
  have hm := Fl.shape_of 5 25 _ _ _ _ req_ok hf
  have hx : ∀ x : ByteArray, Value.string x ∈ cs.toList → x.size ≤ reachBytes := fun x hm' => by
    have h1 := Fl.str_of 5 25 _ _ _ _ req_ok hf x (by rw [← e2]; exact hm')
    have h2 := DataW.weights_mem_each ht hd _ h1
    simpa using List.all_eq_true.1 hsz _ h2
  rw [← e2, req_shape] at hm
  obtain ⟨_, cs0, a0, ⟨f0, rfl, w0⟩, g0⟩ := Fl.M2.out hm
  obtain ⟨_, cs1, rfl, ⟨f1, rfl, w1⟩, g1⟩ := Fl.M2.out g0
  obtain ⟨_, cs2, rfl, ⟨f2, rfl, w2⟩, g2⟩ := Fl.M2.out g1
  obtain ⟨_, cs3, rfl, ⟨f3, rfl, w3⟩, g3⟩ := Fl.M2.out g2
  obtain ⟨_, cs4, rfl, ⟨f4, rfl, w4⟩, g4⟩ := Fl.M2.out g3
  obtain rfl := Fl.M2.nil g4
  rw [a0] at hx
  obtain ⟨n2, rfl, u2⟩ := u64_of w2
  refine ⟨⟨f0, f1, n2, f3, f4⟩, ?_, fits_of (hx f0 (by simp)), fits_of (hx f1 (by simp)), u2, i64_of w3, i64_of w4⟩
  show Value.agg cs = .agg _
  congr 1
  exact Array.toList_inj.1 a0

theorem ses_shape : Fl.shape Tryd.prog 5 31 = [.i .i64, .i .i64, .i .i64, .i .i64, .i .i64, .s, .s, .i .u64, .i .i64, .i .i64, .i .i64, .i .i64] := by kernel_rfl

theorem ses_ok : Fl.okT Tryd.prog 5 31 = true := by kernel_rfl

theorem ses_open {H : Type} {enc : TypeId × Value → H} {W : World} {base b0 : Nat} {r : Reach} {sp : Nat → Bool} {held : Bool} {v : Value} {d : DataW H} {p : List MemPlace}
    (hv : Value.okWide Tryd.prog W r b0 31 v) (h : DataW.Trod enc Tryd.prog W base sp held 31 v d p) {ts : List TypeId} {ds : List (DataW H)} (hsz : (DataW.weightsEach Tryd.prog ts ds).all (· ≤ reachBytes) = true) (j : Nat) (ht : ts[j]? = some 31) (hd : ds[j]? = some d) : ∃ s : Sn, v = s.v ∧ s.fit := by
  obtain ⟨cs, rfl, hcz⟩ := okWide_struct Tryd.underlying31 hv
  obtain ⟨fuel, hf⟩ := h
  have hc : (Value.agg cs).cells.toList = cs.toList := rfl
  rw [hc] at hf
  have e2 := Fl.flat_of 5 31 _ _ _ _ ses_ok hf
  have hm := Fl.shape_of 5 31 _ _ _ _ ses_ok hf
  have hx : ∀ x : ByteArray, Value.string x ∈ cs.toList → x.size ≤ reachBytes := fun x hm' => by
    have h1 := Fl.str_of 5 31 _ _ _ _ ses_ok hf x (by rw [← e2]; exact hm')
    have h2 := DataW.weights_mem_each ht hd _ h1
    simpa using List.all_eq_true.1 hsz _ h2
  rw [← e2, ses_shape] at hm
  obtain ⟨_, cs0, a0, ⟨f0, rfl, w0⟩, g0⟩ := Fl.M2.out hm
  obtain ⟨_, cs1, rfl, ⟨f1, rfl, w1⟩, g1⟩ := Fl.M2.out g0
  obtain ⟨_, cs2, rfl, ⟨f2, rfl, w2⟩, g2⟩ := Fl.M2.out g1
  obtain ⟨_, cs3, rfl, ⟨f3, rfl, w3⟩, g3⟩ := Fl.M2.out g2
  obtain ⟨_, cs4, rfl, ⟨f4, rfl, w4⟩, g4⟩ := Fl.M2.out g3
  obtain ⟨_, cs5, rfl, ⟨f5, rfl, w5⟩, g5⟩ := Fl.M2.out g4
  obtain ⟨_, cs6, rfl, ⟨f6, rfl, w6⟩, g6⟩ := Fl.M2.out g5
  obtain ⟨_, cs7, rfl, ⟨f7, rfl, w7⟩, g7⟩ := Fl.M2.out g6
  obtain ⟨_, cs8, rfl, ⟨f8, rfl, w8⟩, g8⟩ := Fl.M2.out g7
  obtain ⟨_, cs9, rfl, ⟨f9, rfl, w9⟩, g9⟩ := Fl.M2.out g8
  obtain ⟨_, cs10, rfl, ⟨f10, rfl, w10⟩, g10⟩ := Fl.M2.out g9
  obtain ⟨_, cs11, rfl, ⟨f11, rfl, w11⟩, g11⟩ := Fl.M2.out g10
  obtain rfl := Fl.M2.nil g11
  rw [a0] at hx
  obtain ⟨n7, rfl, u7⟩ := u64_of w7
  refine ⟨⟨f0, f1, f2, f3, f4, f5, f6, n7, f8, f9, f10, f11⟩, ?_, fits_of (hx f5 (by simp)), fits_of (hx f6 (by simp)), u7, i64_of w0, i64_of w1, i64_of w2, i64_of w3, i64_of w4, i64_of w8, i64_of w9, i64_of w10, i64_of w11⟩
  show Value.agg cs = .agg _
  congr 1
  exact Array.toList_inj.1 a0

theorem there_shape : Fl.shape Tryd.prog 5 27 = [.i .i64, .i .i64, .b] := by kernel_rfl

theorem there_ok : Fl.okT Tryd.prog 5 27 = true := by kernel_rfl

theorem there_open {H : Type} {enc : TypeId × Value → H} {W : World} {base b0 : Nat} {r : Reach} {sp : Nat → Bool} {held : Bool} {v : Value} {d : DataW H} {p : List MemPlace}
    (hv : Value.okWide Tryd.prog W r b0 27 v) (h : DataW.Trod enc Tryd.prog W base sp held 27 v d p) {ts : List TypeId} {ds : List (DataW H)} (hsz : (DataW.weightsEach Tryd.prog ts ds).all (· ≤ reachBytes) = true) (j : Nat) (ht : ts[j]? = some 27) (hd : ds[j]? = some d) : ∃ now births full, v = .agg #[nu now, nu births, .bool full] ∧ i64 now ∧ i64 births := by
  obtain ⟨cs, rfl, hcz⟩ := okWide_struct Tryd.underlying27 hv
  obtain ⟨fuel, hf⟩ := h
  have hc : (Value.agg cs).cells.toList = cs.toList := rfl
  rw [hc] at hf
  have e2 := Fl.flat_of 5 27 _ _ _ _ there_ok hf
  have hm := Fl.shape_of 5 27 _ _ _ _ there_ok hf
  have hx : ∀ x : ByteArray, Value.string x ∈ cs.toList → x.size ≤ reachBytes := fun x hm' => by
    have h1 := Fl.str_of 5 27 _ _ _ _ there_ok hf x (by rw [← e2]; exact hm')
    have h2 := DataW.weights_mem_each ht hd _ h1
    simpa using List.all_eq_true.1 hsz _ h2
  rw [← e2, there_shape] at hm
  obtain ⟨_, cs0, a0, ⟨f0, rfl, w0⟩, g0⟩ := Fl.M2.out hm
  obtain ⟨_, cs1, rfl, ⟨f1, rfl, w1⟩, g1⟩ := Fl.M2.out g0
  obtain ⟨_, cs2, rfl, ⟨f2, rfl⟩, g2⟩ := Fl.M2.out g1
  obtain rfl := Fl.M2.nil g2
  rw [a0] at hx
  refine ⟨f0, f1, f2, ?_, i64_of w0, i64_of w1⟩
  congr 1
  exact Array.toList_inj.1 a0
end Gr
end Go.Proofs.YtbgggekkkcefcaaDoor
