/- The program reads a form: its letters. -/
import Derived.Test.YtkkpcngdpnoidaaTok8d
import Derived.Lib.Bytealg
namespace Go.Proofs.Ytkkpcngdpnoidaa
set_option linter.ambiguousOpen false
open Go.RowKit
namespace Tk
open Sm
set_option linter.unusedSimpArgs false
set_option linter.unusedVariables false

theorem cutS_to (l : List UInt8) (k : Nat) (h : k ≤ l.length) (w : World) : (Instr.slice 9 (.string (tx l)) none (some (.int .i64 (k : Int))) none).run Try.prog w = .ok (.string (tx (l.take k))) w := by
  have hs : (tx l).size = l.length := rfl
  have hu := Try.underlying9
  have e : (tx l).extract 0 k = tx (l.take k) := by
    apply ByteArray.ext
    simp [ByteArray.data_extract]
  simp [Instr.slice, Instr.sliceBounds, Instr.sliceBound, asIntOf, run_underlying hu, hs, h, e]

theorem cutS_from (l : List UInt8) (k : Nat) (h : k ≤ l.length) (w : World) : (Instr.slice 9 (.string (tx l)) (some (.int .i64 (k : Int))) none none).run Try.prog w = .ok (.string (tx (l.drop k))) w := by
  have hs : (tx l).size = l.length := rfl
  have hu := Try.underlying9
  have e : (tx l).extract k l.length = tx (l.drop k) := by
    apply ByteArray.ext
    simp [ByteArray.data_extract]
    exact List.take_of_length_le (by simp)
  simp [Instr.slice, Instr.sliceBounds, Instr.sliceBound, asIntOf, run_underlying hu, hs, h, e]

theorem index_letters (c : UInt8) : Lib.indexByte letT c = ixI c := by
  have h : ∀ n : Fin 256, Lib.indexByte letT (UInt8.ofNat n.val) = ixI (UInt8.ofNat n.val) := by decide +kernel
  have := h ⟨c.toNat, UInt8.toNat_lt c⟩
  rwa [show UInt8.ofNat (⟨c.toNat, UInt8.toNat_lt c⟩ : Fin 256).val = c from UInt8.ofNat_toNat] at this

set_option maxRecDepth 100000 in
theorem indexByte1 (c : UInt8) (w : World) :
    Calls Try.prog 28 #[.string ⟨#[97, 98, 99, 100, 101, 102, 103, 104, 105, 106, 107, 108, 109, 110, 111, 112, 113, 114, 115, 116, 117, 118, 119, 120, 121, 122, 50, 51, 52, 53, 54, 55]⟩, by1 c] w fun e w' => e = .returned (nu (ixI c)) ∧ w' = w := by
  have h : (Extern.BytealgIndexByte.indexByte #[.string ⟨#[97, 98, 99, 100, 101, 102, 103, 104, 105, 106, 107, 108, 109, 110, 111, 112, 113, 114, 115, 116, 117, 118, 119, 120, 121, 122, 50, 51, 52, 53, 54, 55]⟩, by1 c]).run Try.prog w = .ok (nu (ixI c)) w := by
    rw [Lib.run_indexByteString]
    have e : ((c.toNat : Int)).toNat.toUInt8 = c := by
      rw [Int.toNat_natCast]
      exact UInt8.ofNat_toNat
    rw [e, ← index_letters c]
    rfl
  generalize ixI c = q at *
  go_enter Try.func28, Try.ntmps28
  go_wp2
  rw [run_callFunc_extern Try.func30 (by kernel_rfl) (by kernel_rfl) (by kernel_rfl) (e := Extern.BytealgIndexByte.indexByte) (by kernel_rfl), h]
  simp only [Result.andThen]
  rw [Oper.upon_value]
  go_wp2
  go_ret
  exact ⟨rfl, rfl⟩

theorem indexByte_any (c : UInt8) (w : World) :
    Calls Try.prog 24 #[.string ⟨#[97, 98, 99, 100, 101, 102, 103, 104, 105, 106, 107, 108, 109, 110, 111, 112, 113, 114, 115, 116, 117, 118, 119, 120, 121, 122, 50, 51, 52, 53, 54, 55]⟩, by1 c] w fun e w' => e = .returned (nu (ixI c)) ∧ w' = w := by
  have c1 := indexByte1 c w
  generalize ixI c = q at *
  go_enter Try.func24, Try.ntmps24
  go_wp2_with fail
  refine c1.mono ?_
  rintro e w' ⟨rfl, rfl⟩
  go_wp2
  go_ret
  exact ⟨rfl, rfl⟩

theorem toList_one (c : UInt8) : (tx [c]).toList = [c] := by
  have h1 : ∀ r, ByteArray.toList.loop (tx [c]) 1 r = r.reverse := fun r => by
    unfold ByteArray.toList.loop
    have : (tx [c]).size = 1 := rfl
    simp [this]
  unfold ByteArray.toList
  unfold ByteArray.toList.loop
  have : (tx [c]).size = 1 := rfl
  simp only [this, Nat.zero_lt_one, if_true]
  rw [h1]
  rfl

theorem first_t (l : List UInt8) (h : 0 < l.length) : ((tx (l.take 1)).toList == [116]) = (byI l 0 == 116) := by
  cases l with
  | nil => simp at h
  | cons c l =>
    show ((tx [c]).toList == [116]) = (c == 116)
    rw [toList_one]
    simp [List.beq_cons_cons]

theorem hasPrefix_t (l : List UInt8) (w : World) (hl : l.length = 21) :
    Calls Try.prog 29 #[.string (tx l), .string ⟨#[116]⟩] w fun e w' => e = .returned (.bool (byI l 0 == 116)) ∧ w' = w := by
  have h1 := fun w => cutS_to l 1 (by omega) w
  have hs : (tx l).size = 21 := hl
  have hs1 : (⟨#[116]⟩ : ByteArray).size = 1 := rfl
  have hf := first_t l (by omega)
  generalize (byI l 0 == 116) = q at *
  simp only [Int.cast_ofNat_Int, Int.natCast_one] at h1
  generalize tx (l.take 1) = u at *
  generalize tx l = b at *
  go_enter Try.func29, Try.ntmps29
  go_wp2
  go_ret
  exact ⟨rfl, rfl⟩

theorem cutPrefix_yes (l : List UInt8) (w : World) (hl : l.length = 21) (h : byI l 0 = 116) :
    Calls Try.prog 23 #[.string (tx l), .string ⟨#[116]⟩] w fun e w' => e = .returned (.tuple #[.string (tx (l.drop 1)), .bool true]) ∧ w' = w := by
  have h1 := fun w => cutS_from l 1 (by omega) w
  have c1 := hasPrefix_t l w hl
  rw [h] at c1
  have hs1 : (⟨#[116]⟩ : ByteArray).size = 1 := rfl
  have c2 : Calls Try.prog 27 #[.string (tx l), .string ⟨#[116]⟩] w fun e w' => e = .returned (.tuple #[.string (tx (l.drop 1)), .bool true]) ∧ w' = w := by
    simp only [Int.cast_ofNat_Int, Int.natCast_one] at h1
    generalize tx (l.drop 1) = u at *
    generalize tx l = b at *
    go_enter Try.func27, Try.ntmps27
    go_wp2_with fail
    refine c1.mono ?_
    rintro e w' ⟨rfl, rfl⟩
    go_wp2
    go_ret2
    exact ⟨rfl, rfl⟩
  clear c1 h1
  generalize tx (l.drop 1) = u at *
  generalize tx l = b at *
  go_enter Try.func23, Try.ntmps23
  go_wp2_with fail
  refine c2.mono ?_
  rintro e w' ⟨rfl, rfl⟩
  go_wp2
  go_ret2
  exact ⟨rfl, rfl⟩

theorem cutPrefix_no (l : List UInt8) (w : World) (hl : l.length = 21) (h : byI l 0 ≠ 116) :
    Calls Try.prog 23 #[.string (tx l), .string ⟨#[116]⟩] w fun e w' => e = .returned (.tuple #[.string (tx l), .bool false]) ∧ w' = w := by
  have c1 := hasPrefix_t l w hl
  rw [show (byI l 0 == 116) = false from beq_eq_false_iff_ne.2 h] at c1
  have c2 : Calls Try.prog 27 #[.string (tx l), .string ⟨#[116]⟩] w fun e w' => e = .returned (.tuple #[.string (tx l), .bool false]) ∧ w' = w := by
    generalize tx l = b at *
    go_enter Try.func27, Try.ntmps27
    go_wp2_with fail
    refine c1.mono ?_
    rintro e w' ⟨rfl, rfl⟩
    go_wp2
    go_ret2
    exact ⟨rfl, rfl⟩
  clear c1
  generalize tx l = b at *
  go_enter Try.func23, Try.ntmps23
  go_wp2_with fail
  refine c2.mono ?_
  rintro e w' ⟨rfl, rfl⟩
  go_wp2
  go_ret2
  exact ⟨rfl, rfl⟩
end Tk
end Go.Proofs.Ytkkpcngdpnoidaa
